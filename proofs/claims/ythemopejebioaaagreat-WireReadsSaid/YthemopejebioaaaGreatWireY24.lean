/- The candidate that the document's Decode of layer 12 builds of the parts: mathematics, and what it holds in memory. -/
import Derived.Test.YthemopejebioaaaGreatWireY23
import Derived.Test.YthemopejebioaaaGreatWireY14
namespace Go.Proofs.YthemopejebioaaaGreat.Pl
open Go.RowKit

noncomputable def candX (ps : List ByteArray) : Int × Int × Int := match ps with | _ :: p1 :: _ => txGet (txnR p1) | _ => (0, 0, 0)
noncomputable def candP (k : Nat) (ps : List ByteArray) : Ms :=
  { kind := k, c := (candX ps).1, e := (candX ps).2.1, q := (candX ps).2.2,
    aud := if k = 1 ∧ ps.length = 5 then (rdN (ps.getD 2 ⟨#[]⟩)).getD 0 else 0,
    mem := if k = 1 ∧ ps.length = 5 then (membersR (candX ps).1 (ps.getD 3 ⟨#[]⟩)).getD [] else [],
    body := if k = 1 ∧ ps.length = 5 then ps.getD 4 ⟨#[]⟩ else ⟨#[]⟩,
    yes := if (k = 2 ∨ k = 3) ∧ 2 < ps.length then @decide (ps.getD 2 ⟨#[]⟩ = numT 1) (Classical.propDecidable _) else false,
    tag := if k = 2 ∧ 3 < ps.length then ps.getD 3 ⟨#[]⟩ else ⟨#[]⟩ }
theorem numT_01 : ¬ numT 0 = numT 1 := fun e => by
  have h0 := (rdN_num (v := 0) (by decide) (by decide)).1
  have h1 := (rdN_num (v := 1) (by decide) (by decide)).1
  have e' : tb (numP 0).1 = tb (numP 1).1 := e
  rw [e', h1] at h0
  cases h0
theorem word_one {j k : Nat} (hj : 1 ≤ j ∧ j ≤ 6) (hk : 1 ≤ k ∧ k ≤ 6) (h : wordP j = wordP k) : j = k := by
  rw [← word_kind hj.1 hj.2, h, word_kind hk.1 hk.2]
theorem yes_dec {a b : ByteArray} (h : a = b) : @decide (a = b) (Classical.propDecidable _) = true := @decide_eq_true _ (Classical.propDecidable _) h
theorem no_dec {a b : ByteArray} (h : ¬ a = b) : @decide (a = b) (Classical.propDecidable _) = false := @decide_eq_false _ (Classical.propDecidable _) h
/-- The candidate of a message's own parts is the message. -/
theorem cand_own {m : Ms} (hm : mayP m = true) (hl : m.kind = 1 → (membersT m.mem).2 = 0) (w : List UInt8) : candP m.kind (tb w :: (fieldsP m).map tb) = m := by
  have hk := may_kind hm
  have hx := may_x12 hm
  have h1 := may_112 hm
  have hb := may_bare hm
  obtain ⟨k, c, e, q, aud, mem, body, yes, tag⟩ := m
  dsimp only at hk hx h1 hl
  have hc : k = 1 ∨ k = 2 ∨ k = 3 ∨ k = 4 ∨ k = 5 ∨ k = 6 := by omega
  rcases hc with rfl | rfl | rfl | rfl | rfl | rfl
  · have ht := txnR_ok (hx (by decide))
    obtain ⟨ho, hml, _⟩ := h1 rfl
    have hr := membersR_ok hml (hl rfl)
    have hio := orgP_iff.1 ho
    have hn := (rdN_num (v := aud) hio.1 (by omega)).1
    have hb' : (⟨1, c, e, q, aud, mem, body, false, ⟨#[]⟩⟩ : Ms) = ⟨1, c, e, q, aud, mem, body, yes, tag⟩ := hb
    simp only [Ms.mk.injEq, true_and] at hb'
    obtain ⟨r1, r2⟩ := hb'; subst r1; subst r2
    show candP 1 [tb w, tb (txnT c e q), tb (numP aud).1, tb (membersT mem).1, body] = _
    have cx : candX [tb w, tb (txnT c e q), tb (numP aud).1, tb (membersT mem).1, body] = (c, e, q) := by unfold candX; dsimp only; rw [ht]; rfl
    unfold candP
    rw [cx]
    simp only [List.length_cons, List.length_nil, and_self, if_true, List.getD_cons_succ, List.getD_cons_zero, hn, hr, Option.getD_some]
    rfl
  · have ht := txnR_ok (hx (by decide))
    have hb' : (⟨2, c, e, q, 0, [], ⟨#[]⟩, yes, if yes = true then tag else ⟨#[]⟩⟩ : Ms) = ⟨2, c, e, q, aud, mem, body, yes, tag⟩ := hb
    simp only [Ms.mk.injEq, true_and] at hb'
    obtain ⟨r1, r2, r3, r4⟩ := hb'
    subst r1; subst r2; subst r3
    cases yes with
    | true =>
      show candP 2 [tb w, tb (txnT c e q), numT 1, tag] = _
      have cx : candX [tb w, tb (txnT c e q), numT 1, tag] = (c, e, q) := by unfold candX; dsimp only; rw [ht]; rfl
      unfold candP
      rw [cx]
      have h1 : (List.getD [tb w, tb (txnT c e q), numT 1, tag] 2 ⟨#[]⟩) = numT 1 := rfl
      rw [h1, yes_dec rfl]
      rfl
    | false =>
      simp only [Bool.false_eq_true, if_false] at r4
      subst r4
      show candP 2 [tb w, tb (txnT c e q), numT 0] = _
      have cx : candX [tb w, tb (txnT c e q), numT 0] = (c, e, q) := by unfold candX; dsimp only; rw [ht]; rfl
      unfold candP
      rw [cx]
      have h1 : (List.getD [tb w, tb (txnT c e q), numT 0] 2 ⟨#[]⟩) = numT 0 := rfl
      rw [h1, no_dec numT_01]
      rfl
  · have ht := txnR_ok (hx (by decide))
    have hb' : (⟨3, c, e, q, 0, [], ⟨#[]⟩, yes, ⟨#[]⟩⟩ : Ms) = ⟨3, c, e, q, aud, mem, body, yes, tag⟩ := hb
    simp only [Ms.mk.injEq, true_and] at hb'
    obtain ⟨r1, r2, r3, r4⟩ := hb'
    subst r1; subst r2; subst r3; subst r4
    show candP 3 [tb w, tb (txnT c e q), numT (bitP yes)] = _
    have cx : candX [tb w, tb (txnT c e q), numT (bitP yes)] = (c, e, q) := by unfold candX; dsimp only; rw [ht]; rfl
    unfold candP
    rw [cx]
    have h1 : (List.getD [tb w, tb (txnT c e q), numT (bitP yes)] 2 ⟨#[]⟩) = numT (bitP yes) := rfl
    rw [h1]
    cases yes with
    | true => rw [show numT (bitP true) = numT 1 from rfl, yes_dec rfl]; rfl
    | false => rw [show numT (bitP false) = numT 0 from rfl, no_dec numT_01]; rfl
  · have ht := txnR_ok (hx (by decide))
    have hb' : (⟨4, c, e, q, 0, [], ⟨#[]⟩, false, ⟨#[]⟩⟩ : Ms) = ⟨4, c, e, q, aud, mem, body, yes, tag⟩ := hb
    simp only [Ms.mk.injEq, true_and] at hb'
    obtain ⟨r1, r2, r3, r4, r5⟩ := hb'
    subst r1; subst r2; subst r3; subst r4; subst r5
    show candP 4 [tb w, tb (txnT c e q)] = _
    have cx : candX [tb w, tb (txnT c e q)] = (c, e, q) := by unfold candX; dsimp only; rw [ht]; rfl
    unfold candP
    rw [cx]
    rfl
  · have ht := txnR_ok (hx (by decide))
    have hb' : (⟨5, c, e, q, 0, [], ⟨#[]⟩, false, ⟨#[]⟩⟩ : Ms) = ⟨5, c, e, q, aud, mem, body, yes, tag⟩ := hb
    simp only [Ms.mk.injEq, true_and] at hb'
    obtain ⟨r1, r2, r3, r4, r5⟩ := hb'
    subst r1; subst r2; subst r3; subst r4; subst r5
    show candP 5 [tb w, tb (txnT c e q)] = _
    have cx : candX [tb w, tb (txnT c e q)] = (c, e, q) := by unfold candX; dsimp only; rw [ht]; rfl
    unfold candP
    rw [cx]
    rfl
  · have hb' : (⟨6, 0, 0, 0, 0, [], ⟨#[]⟩, false, ⟨#[]⟩⟩ : Ms) = ⟨6, c, e, q, aud, mem, body, yes, tag⟩ := hb
    simp only [Ms.mk.injEq, true_and] at hb'
    obtain ⟨q1, q2, q3, r1, r2, r3, r4, r5⟩ := hb'
    subst q1; subst q2; subst q3; subst r1; subst r2; subst r3; subst r4; subst r5
    rfl
/-- Of a message that is read: its parts, the word that stands first, and its candidate. -/
theorem dec_parts {t : ByteArray} {m : Ms} (h : decP t = some m) : kindP (bl t) = 3 ∧ 1 ≤ m.kind ∧ m.kind ≤ 6 ∧ (∃ w r, partsB t = tb w :: r ∧ (textP w).1 = wordP m.kind) ∧ candP m.kind (partsB t) = m ∧ encP m = (bl t, 0) := by
  obtain ⟨hm, he⟩ := enc_dec h
  have hn : ¬ (m.kind = 1 ∧ (membersT m.mem).2 ≠ 0) := fun k => by
    rw [enc_five12 hm k] at he
    injection he with _ e2
    cases e2
  have hr := he
  rw [enc_row12 hm hn] at hr
  have hk := may_kind hm
  obtain ⟨k1, k2, _⟩ := row_read (by rw [List.length_cons]; have := fields_len m; omega) hr
  have hd := data_read (x := wordP m.kind) (by have := word_len m.kind; omega)
  have hp : partsB t = tb (dataP (wordP m.kind)).1 :: (fieldsP m).map tb := by unfold partsB; rw [k2]; rfl
  refine ⟨k1, hk.1, hk.2, ⟨_, _, hp, by rw [hd.1]; exact congrArg Prod.fst hd.2.2.1⟩, ?_, he⟩
  rw [hp]
  refine cand_own hm (fun k => ?_) _
  apply Classical.byContradiction
  exact fun k' => hn ⟨k, k'⟩
theorem dec_yes {t : ByteArray} {m : Ms} (h : encP m = (bl t, 0)) : decP t = some m := by
  have := (dec_enc h).2
  rwa [tb_bl] at this
theorem dec_no {t w0 : ByteArray} {r : List ByteArray} {k : Nat} (hp : partsB t = w0 :: r) (hw : (textP (bl w0)).1 = wordP k) (hk : 1 ≤ k ∧ k ≤ 6) (hno : ¬ encP (candP k (partsB t)) = (bl t, 0)) : decP t = none := by
  cases h : decP t with
  | none => rfl
  | some m =>
    exfalso
    obtain ⟨_, k1, k6, ⟨w, r', e, ew⟩, ec, ee⟩ := dec_parts h
    have hpe := hp.symm.trans e
    injection hpe with e1 _
    have hw2 : wordP m.kind = wordP k := by rw [← ew, ← hw, e1, bl_tb]
    have := word_one ⟨k1, k6⟩ hk hw2
    rw [← this, ec] at hno
    exact hno ee
theorem dec_wordless {t w0 : ByteArray} {r : List ByteArray} (hp : partsB t = w0 :: r) (hw : ∀ k, 1 ≤ k ∧ k ≤ 6 → (textP (bl w0)).1 ≠ wordP k) : decP t = none := by
  cases h : decP t with
  | none => rfl
  | some m =>
    exfalso
    obtain ⟨_, k1, k6, ⟨w, r', e, ew⟩, _, _⟩ := dec_parts h
    have hpe := hp.symm.trans e
    injection hpe with e1 _
    exact hw m.kind ⟨k1, k6⟩ (by rw [← ew, e1, bl_tb])
theorem dec_rowless {t : ByteArray} (h : ¬ kindP (bl t) = 3 ∨ partsB t = []) : decP t = none := by
  cases k : decP t with
  | none => rfl
  | some m =>
    exfalso
    obtain ⟨k1, _, _, ⟨w, r', e, _⟩, _, _⟩ := dec_parts k
    rcases h with h | h
    · exact h k1
    · rw [h] at e; cases e

/-- What Decode holds between its candidates: the parts in block pb, the result's block. -/
structure DecL (w : World) (pb off : Nat) (ps : List ByteArray) (V : World) : Prop where
  row : ∀ j, (hj : j < ps.length) → V.cell? ⟨pb, off + j, none⟩ = some (.string ps[j])
  lt : pb < V.heap.size
  res : V.heap[w.heap.size]? = some (.cells #[.int .u8 0, .int .i64 0, .int .i64 0, .int .i64 0, .int .i64 0, .slice none 0 0, .string ⟨#[]⟩, .bool false, .string ⟨#[]⟩] 26 (0, 0))
  below : Below w.heap.size w V
theorem DecL.later {w : World} {pb off : Nat} {ps : List ByteArray} {V V' : World} (h : DecL w pb off ps V) (hb : Below V.heap.size V V') : DecL w pb off ps V' :=
  ⟨fun j hj => (hb.cell (p := ⟨pb, off + j, none⟩) h.lt).trans (h.row j hj), Nat.lt_of_lt_of_le h.lt hb.size, (hb.block _ (Array.getElem?_eq_some_iff.1 h.res).1).trans h.res, below_step h.below hb⟩
theorem txt_cells12 {V : World} {ao : Option Addr} {ps : List ByteArray} (h : TxtRow V ao ps) (hne : ps ≠ []) : ∃ pb off, ao = some ⟨pb, off, none⟩ ∧ pb < V.heap.size ∧ ∀ j, (hj : j < ps.length) → V.cell? ⟨pb, off + j, none⟩ = some (.string ps[j]) := by
  rcases h with h | ⟨pb, off, e, hlt, hc⟩
  · exact absurd h hne
  · refine ⟨pb, off, e, hlt, fun j hj => ?_⟩
    have := hc j hj
    rwa [show ps.getD j ByteArray.empty = ps[j] by simp [List.getD_eq_getElem?_getD, hj]] at this
/-- What Decode holds as it builds a candidate in block g: its message besides. -/
structure DecAt (w : World) (pb off : Nat) (ps : List ByteArray) (g : Nat) (m : Ms) (u : Value) (V : World) : Prop where
  msg : GAt V g m u
  rest : DecL w pb off ps V
  ne : pb ≠ g
  above : w.heap.size < g
  own : OwnM V (g + 1) u m.mem
theorem DecL.start {w : World} {pb off : Nat} {ps : List ByteArray} {wr V : World} {m : Ms} (h : DecL w pb off ps wr) (bx : Below wr.heap.size wr V) (hg : GAt V wr.heap.size m (.slice none 0 0)) (hm : m.mem = []) : DecAt w pb off ps wr.heap.size m (.slice none 0 0) V :=
  ⟨hg, h.later bx, Nat.ne_of_lt h.lt, (Array.getElem?_eq_some_iff.1 h.res).1, by rw [hm]; exact ownM_nil _ _⟩
theorem DecAt.later {w : World} {pb off : Nat} {ps : List ByteArray} {g : Nat} {m : Ms} {u : Value} {V V' : World} (h : DecAt w pb off ps g m u V) (hb : Below V.heap.size V V') : DecAt w pb off ps g m u V' :=
  ⟨h.msg.below hb, h.rest.later hb, h.ne, h.above, ownM_below h.own hb⟩
theorem DecAt.setc {w : World} {pb off : Nat} {ps : List ByteArray} {g : Nat} {m : Ms} {u : Value} {V : World} (h : DecAt w pb off ps g m u V) (m' : Ms) (u' : Value) (k : Nat) (v : Value) (hg : (msC m u).setIfInBounds k v = msC m' u') (ho : OwnM V (g + 1) u' m'.mem) : DecAt w pb off ps g m' u' (V.setCell ⟨g, k, none⟩ v) := by
  have t := turn_cell V g k v
  refine ⟨by unfold GAt; rw [← hg]; exact gset h.msg k v, ⟨fun j hj => ?_, Nat.lt_of_lt_of_le h.rest.lt t.size, (t.block _ (Array.getElem?_eq_some_iff.1 h.rest.res).1 (fun e => by have := h.above; omega)).trans h.rest.res, h.rest.below.trans (turn_to t (fun b e => by have := h.above; omega) h.rest.below.size)⟩, h.ne, h.above, ownM_turn ho t (fun k e => by omega)⟩
  have hk := t.block pb h.rest.lt h.ne
  have := h.rest.row j hj
  unfold World.cell? at this ⊢
  dsimp only at this ⊢
  rw [hk]; exact this
/-- What Decode answers. -/
def DecOut (w : World) (o : Option Ms) : Ending → World → Prop := fun x w' => (∃ ao cap, x = .returned (.tuple #[.agg (msC (msGet o) (.slice ao (msGet o).mem.length cap)), .int .i64 ((if o.isSome then 0 else 7 : Nat) : Int)]) ∧ MemRow w' ao (msGet o).mem) ∧ Below w.heap.size w w'
theorem DecL.none {w : World} {pb off : Nat} {ps : List ByteArray} {V : World} (h : DecL w pb off ps V) : DecOut w none (.returned (.tuple #[.agg #[.int .u8 0, .int .i64 0, .int .i64 0, .int .i64 0, .int .i64 0, .slice none 0 0, .string ⟨#[]⟩, .bool false, .string ⟨#[]⟩], .int .i64 7])) (V.setRow w.heap.size #[.int .u8 0, .int .i64 0, .int .i64 0, .int .i64 0, .int .i64 0, .slice none 0 0, .string ⟨#[]⟩, .bool false, .string ⟨#[]⟩]) :=
  ⟨⟨_, _, rfl, .inl rfl⟩, h.below.trans (turn_to (turn_row V w.heap.size _) (fun b e => by omega) h.below.size)⟩
theorem DecAt.some {w : World} {pb off : Nat} {ps : List ByteArray} {g : Nat} {m : Ms} {uo : Option Addr} {uc : Nat} {V : World} (h : DecAt w pb off ps g m (.slice uo m.mem.length uc) V) : DecOut w (some m) (.returned (.tuple #[.agg (msC m (.slice uo m.mem.length uc)), .int .i64 0])) (V.setRow w.heap.size (msC m (.slice uo m.mem.length uc))) := by
  have t := turn_row V w.heap.size (msC m (.slice uo m.mem.length uc))
  have ho := ownM_turn h.own t (fun k e => by have := h.above; omega)
  obtain ⟨ao, cap, e, hr, _⟩ := ownM_row ho
  cases e
  exact ⟨⟨_, _, rfl, hr⟩, h.rest.below.trans (turn_to t (fun b e => by omega) h.rest.below.size)⟩
theorem DecAt.row {w : World} {pb off : Nat} {ps : List ByteArray} {g : Nat} {m : Ms} {u : Value} {V : World} (h : DecAt w pb off ps g m u V) : ∃ ao cap, u = .slice ao m.mem.length cap ∧ MemRow V ao m.mem := by
  obtain ⟨ao, cap, e, hr, _⟩ := ownM_row h.own
  exact ⟨ao, cap, e, hr⟩
theorem ms_one9 (k c e q a : Int) (ao : Option Addr) (n cap : Nat) (b : ByteArray) (y : Bool) (g : ByteArray) : (#[.int .u8 k, .int .i64 c, .int .i64 e, .int .i64 q, .int .i64 a, .slice ao n cap, .string b, .bool y, .string g] : Array Value).all (·.oneCell') = true := by simp [Value.oneCell']
theorem memR_fit (c : Int) (t : ByteArray) : (∀ x ∈ (membersR c t).getD [], x.2.size ≤ 30000) ∧ ((membersR c t).getD []).length ≤ 6 := by
  cases h : membersR c t with
  | none => exact ⟨fun x hx => (by cases hx), Nat.zero_le _⟩
  | some l =>
    obtain ⟨hm, _⟩ := membersR_again h
    obtain ⟨_, h6, hms⟩ := mayL_iff.1 hm
    refine ⟨fun x hx => ?_, h6⟩
    have := check_len (mayMs_all hms x hx).2.1
    rw [bl_length] at this
    omega
end Go.Proofs.YthemopejebioaaaGreat.Pl
