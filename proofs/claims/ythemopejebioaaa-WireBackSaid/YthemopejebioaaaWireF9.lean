/- The kind of a word: the map is ranged over. How wire reads the fields of a message: a transaction; a decision; a vote. How wire reads the fields of a message: a decision; a vote. -/
import Derived.Test.YthemopejebioaaaWireF8
namespace Go.Proofs.Ythemopejebioaaa.Pl
open Go.RowKit Go.Maps
open Go.WideElems (rg)

/-- D reads as just these pairs. -/
def PairsV (X : List (Lit × Value)) (D : DataW Value) : Prop := Maps.size D = X.length ∧ (∀ s, s ∉ X.map Prod.fst → Maps.has D s = false ∧ ∀ z, D.atKey s z = z) ∧ ∀ p ∈ X, Maps.has D p.1 = true ∧ ∀ z, D.atKey p.1 z = .held p.2
section
variable {ops : Array Oper} {rest : List Oper} {o : Oper} {a : Act} {Q : Exit → Act → World → Prop} {w : World}
theorem wpList_rangeV (hg : o.guard = none) (mo : Operand) (t e : TypeId) (hop : o.op = Op.range t mo) (ht : Try.prog.underlying t = some (.map 5 e)) (m : Nat) (X : List (Lit × Value)) (hm : a.eval mo = .map (some m)) (h : MapV w 5 m X)
    (hK : ∀ w' D, PairsV X D → w'.ranges Try.prog 5 valE m w.heap.size X.length D (Maps.has D) X.length → w.grownBy w' none → w'.heap.size = w.heap.size + 1 → wpList Try.prog ops Q rest (a.put o.dst (.pointer (some ⟨w.heap.size, 0, none⟩))) w') : wpList Try.prog ops Q (o :: rest) a w := by
  obtain ⟨D, h1, h2, h3⟩ := h
  refine wpList_range_own w hg mo t hop 5 e keyed_u8 ht valE m X.length D hm h1 ?_
  intro w' k1 k2 k3
  rw [h2] at k1
  exact hK w' D ⟨h2, h3⟩ k1 k2 k3
theorem wpList_nextV (hg : o.guard = none) (it : Operand) (hop : o.op = Op.next it false) (m r n : Nat) (X : List (Lit × Value)) (D : DataW Value) (left : Lit → Bool) (cnt : Nat) (hit : a.eval it = .pointer (some ⟨r, 0, none⟩))
    (h : w.ranges Try.prog 5 valE m r n D left cnt) (hD : PairsV X D)
    (hDone : (∀ kl, left kl = false) → wpList Try.prog ops Q rest (a.put o.dst (.tuple #[.bool false])) w)
    (hMore : ∀ (x : Int) (v : Value) (w' : World) (cnt' : Nat), (Lit.int .u8 x, v) ∈ X → w'.ranges Try.prog 5 valE m r n D (fun z => left z && !z.sameKey (.int .u8 x)) cnt' → cnt' < cnt → w.grownBy w' (some r) → w'.heap.size = w.heap.size →
      (Instr.entry (.pointer (some ⟨r, 0, none⟩))).run Try.prog w' = .ok (.tuple #[.int .u8 x, v]) w' → wpList Try.prog ops Q rest (a.put o.dst (.tuple #[.bool true, .int .u8 x, v])) w') :
    wpList Try.prog ops Q (o :: rest) a w := by
  refine wpList_next_ranges w hg it hop 5 keyed_u8 valE (fun x : Int => .int .u8 x) (fun v : Value => v) (fun key kl hk => by obtain ⟨x, hx, _⟩ := Maps.keyOf_int_inv Try.underlying5 hk; exact ⟨x, hx⟩) (fun v y hv => ⟨v, rfl⟩) m r n D left cnt hit h ?_ ?_
  · intro _ hl
    exact hDone hl
  · intro x v kl y w' cnt' hkey hlk hv hat hrg hlt hgr hsz hen
    obtain ⟨x', ex, rfl, _⟩ := Maps.keyOf_int_inv Try.underlying5 hkey
    obtain rfl : x = x' := by injection ex
    have hhas := Maps.has_true_of_atKey hat
    have hin : (Lit.int .u8 x) ∈ X.map Prod.fst := by
      apply Classical.byContradiction
      intro hn
      rw [(hD.2.1 _ hn).1] at hhas
      cases hhas
    obtain ⟨p, hp, ep⟩ := List.mem_map.1 hin
    have hc := (hat (.nil)).symm.trans (ep ▸ (hD.2.2 p hp).2 .nil)
    have hv' : v = p.2 := by
      have hv2 : valE v = some y := hv
      have : y = (.held v, []) := (Option.some.inj hv2).symm
      rw [this] at hc
      injection hc
    refine hMore x v w' cnt' ?_ hrg hlt hgr hsz hen
    rw [hv', ← ep]
    exact hp
end
theorem str_ne12 {a b : ByteArray} (h : a ≠ b) : (a.toList == b.toList) = false ∧ (a.toList != b.toList) = true := by
  have h' : a.toList ≠ b.toList := fun e => h (by
    rw [Lib.toList_data, Lib.toList_data] at e
    apply ByteArray.ext
    exact Array.ext' e)
  exact ⟨beq_eq_false_iff_ne.2 h', bne_iff_ne.2 h'⟩

set_option maxHeartbeats 1000000 in
set_option maxRecDepth 100000 in
theorem below_grown12 {w w' : World} (h : Below w.heap.size w w') (r : Option Nat) : w.grownBy w' r := ⟨h.os, h.tape, h.output, h.size, fun k hk _ => h.block k hk⟩
theorem range_below12 {w w' : World} {m r n cnt : Nat} {D : DataW Value} {left : Lit → Bool} (h : w.ranges Try.prog 5 valE m r n D left cnt) (hb : Below w.heap.size w w') : w'.ranges Try.prog 5 valE m r n D left cnt := h.kept (below_grown12 hb none) (by simp) (by simp)
theorem nam_mem {x : Int} {v : Value} (h : (Lit.int .u8 x, v) ∈ namT) : ∃ k : Nat, 1 ≤ k ∧ k ≤ 6 ∧ x = k ∧ v = .agg #[.string (tb (wordP k)), .func (.func (mayF k)) #[] #[], .func (.func (putF k)) #[] #[], .func (.func (getF k)) #[] #[]] := by
  unfold namT at h
  simp only [List.mem_cons, Prod.mk.injEq, Lit.int.injEq, true_and, List.not_mem_nil, or_false] at h
  rcases h with ⟨rfl, rfl⟩ | ⟨rfl, rfl⟩ | ⟨rfl, rfl⟩ | ⟨rfl, rfl⟩ | ⟨rfl, rfl⟩ | ⟨rfl, rfl⟩
  · exact ⟨1, by decide, by decide, rfl, rfl⟩
  · exact ⟨2, by decide, by decide, rfl, rfl⟩
  · exact ⟨3, by decide, by decide, rfl, rfl⟩
  · exact ⟨4, by decide, by decide, rfl, rfl⟩
  · exact ⟨5, by decide, by decide, rfl, rfl⟩
  · exact ⟨6, by decide, by decide, rfl, rfl⟩
theorem kindOf_none {w : List UInt8} (h : ∀ k, 1 ≤ k ∧ k ≤ 6 → w ≠ wordP k) : kindOf w = 0 := by
  unfold kindOf
  rw [if_neg (h 1 (by decide)), if_neg (h 2 (by decide)), if_neg (h 3 (by decide)), if_neg (h 4 (by decide)), if_neg (h 5 (by decide)), if_neg (h 6 (by decide))]
theorem nam_info (a b c d : Value) : (Try.prog.info? 50).map (·.size) = some (#[a, b, c, d].size) := by kernel_rfl
theorem nam_one (a : ByteArray) (f g h : Fn) : (#[.string a, .func f #[] #[], .func g #[] #[], .func h #[] #[]] : Array Value).all (·.oneCell') = true := by simp [Value.oneCell']
set_option maxHeartbeats 4000000 in
set_option maxRecDepth 100000 in
theorem kind12_any (t : ByteArray) (ht : t.size ≤ 281474976710656) (w : World) : Calls Try.prog 19 #[.string t] w fun e w' => e = Out12 (kindR t) (fun k => .int .u8 k) ∧ Below w.heap.size w w' := by
  have HK := fun V => tkind_any t ht V
  have HT := fun V => text6_any t ht V
  have HM := Lib.hid (fun V => namings_any V)
  have hz : kindR t = if kindP (bl t) = 1 then (if kindOf (textP (bl t)).1 = 0 then none else some (kindOf (textP (bl t)).1)) else none := rfl
  have h6 := kindP_le (bl t)
  generalize kindR t = z at *
  by_cases hk : kindP (bl t) = 1
  · rw [if_pos hk] at hz
    rw [hk] at HK
    have HK := Lib.hid HK
    clear hk h6
    generalize hp : textP (bl t) = p at *
    obtain ⟨s, ok⟩ := p
    rw [show tb2 (s, ok) = .tuple #[.string (tb s), .bool ok] from rfl] at HT
    dsimp only at hz
    have HT := Lib.hid HT
    have HZ := Lib.hid hz
    have hbl : Hid (bl (tb s) = s) := Lib.hid (bl_tb s)
    clear hz hp
    generalize tb s = S at *
    go_enter Try.func19, Try.ntmps19
    go_wp2_with (first | (go_at_call 11; refine (HK.out _).mono ?_; rintro e w1 ⟨rfl, b1⟩) | (go_at_call 21; refine (needw_ok 7 _).mono ?_; rintro e w2 ⟨rfl, hw2⟩; rw [hw2]; clear hw2 w2) | (go_at_call 31; refine (HT.out _).mono ?_; rintro e w3 ⟨rfl, b3⟩) | (go_at_call 20; refine (HM.out _).mono ?_; rintro e w4 ⟨⟨m, rfl, hm⟩, b4⟩) | (at_range; refine wpList_rangeV rfl _ _ _ rfl Try.underlying51 m namT rfl hm ?_; intro w0 D hD hrg0 hg0 hs0) | fail)
    go_frame
    have HD := Lib.hid hD
    have B4 := Lib.hid (below_step (below_step b1 b3) b4)
    have BG : Hid (Below w.heap.size w w0) := Lib.hid (B4.out.grown hg0 B4.out.size (fun j hj => by cases hj))
    have HRG := Lib.hid hrg0
    have HS4 : Hid (w.heap.size ≤ w4.heap.size ∧ w0.heap.size = w4.heap.size + 1) := Lib.hid ⟨B4.out.size, hs0⟩
    clear hD hrg0 hg0 hs0 b1 b3 b4 hm
    go_loopw [] (fun wr => ∃ (left : Lit → Bool) (cnt : Nat), Hid (wr.ranges Try.prog 5 valE m w4.heap.size namT.length D left cnt) ∧ Hid (∀ k : Nat, 1 ≤ k ∧ k ≤ 6 → left (.int .u8 k) = false → s ≠ wordP k) ∧ Hid (Below w.heap.size w wr) ∧ Hid (w4.heap.size < wr.heap.size)) (fun wr => wr.rangeLeft m w4.heap.size)
    case atStart =>
      refine ⟨_, _, HRG, Lib.hid (fun k hk hl => ?_), BG, Lib.hid (by rw [HS4.out.2]; exact Nat.lt_succ_self _)⟩
      have := (HD.out.2.2 _ (name_in hk)).1
      rw [this] at hl
      cases hl
    case round =>
      obtain ⟨left, cnt, hrg, hno, hb, hlt4⟩ := hrel
      go_wp2_with (first | (at_next; refine wpList_nextV rfl _ rfl m w4.heap.size namT.length namT D left cnt rfl hrg.out HD.out ?_ ?_) | fail)
      · intro hall
        have hz : z = none := by rw [HZ.out, kindOf_none (fun k hk => hno.out k hk (hall _)), if_pos rfl]
        subst hz
        go_wp2_with fail
        exact ⟨rfl, rfl, hb.out⟩
      · intro x v w1 cnt' hx hrg' hlt hg1 hs1 hen
        obtain ⟨k, hk1, hk6, rfl, rfl⟩ := nam_mem hx
        obtain ⟨W2, hW2, n0, k2, b2, s2⟩ := row_box w1 #[.string ⟨#[]⟩, .nilFunc, .nilFunc, .nilFunc] #[.string (tb (wordP k)), .func (.func (mayF k)) #[] #[], .func (.func (putF k)) #[] #[], .func (.func (getF k)) #[] #[]] 50
        have c0 : W2.cell? ⟨w1.heap.size, 0, none⟩ = some (.string (tb (wordP k))) := cell_of_row _ _ _ _ _ _ k2
        have hwd : wordP k = bl (tb (wordP k)) := rfl
        have hko : s = wordP k → kindOf s = k := fun e => by rw [e]; exact word_kind hk1 hk6
        have HNO : Hid (s ≠ wordP k → ∀ k' : Nat, 1 ≤ k' ∧ k' ≤ 6 → (left (.int .u8 k') && !(Lit.int .u8 k').sameKey (.int .u8 k)) = false → s ≠ wordP k') := Lib.hid (fun hne k' hk' hl => by
          by_cases e : k' = k
          · rw [e]; exact hne
          · rw [sameKey_ne (fun h => e (by injection h with _ h; omega))] at hl
            simp only [Bool.not_false, Bool.and_true] at hl
            exact hno.out k' hk' hl)
        have HSE : s = wordP k ↔ S = tb (wordP k) := ⟨fun e => by rw [← hbl.out] at e; exact bl_inj e, fun e => by rw [← hbl.out, e]; rfl⟩
        generalize tb (wordP k) = wd at *
        generalize mayF k = f1 at *
        generalize putF k = f2 at *
        generalize getF k = f3 at *
        have hB2 := hb.out.grown hg1 hb.out.size (fun j hj => by cases hj; exact HS4.out.1)
        have B2 := Lib.hid (below_step hB2 b2)
        have R2 := Lib.hid (range_below12 hrg' b2)
        have L2 : Hid (w4.heap.size < W2.heap.size) := Lib.hid (by have := hlt4.out; have := b2.size; omega)
        have HLT := Lib.hid hlt
        have N0 := Lib.hid n0
        have HW2 := Lib.hid hW2
        have HKB : Hid (1 ≤ k ∧ k ≤ 6) := Lib.hid ⟨hk1, hk6⟩
        clear hx hrg' hlt hg1 hs1 hB2 b2 s2 k2 hW2 n0 hwd
        by_cases hw : s = wordP k
        · have hz : z = some k := by rw [HZ.out, hko hw, if_neg (by omega)]
          subst hz
          obtain rfl := HSE.1 hw
          clear hko hw HSE HNO
          go_wp2_with (first | (refine wpList_store_row rfl 50 _ _ rfl w1.heap.size #[.string S, .func (.func f1) #[] #[], .func (.func f2) #[] #[], .func (.func f3) #[] #[]] rfl rfl 50 #[.string ⟨#[]⟩, .nilFunc, .nilFunc, .nilFunc] N0.out (nam_info _ _ _ _) rfl (nam_one _ _ _ _) ?_; rw [← HW2.out]) | fail)
          go_ret
          exact ⟨rfl, B2.out⟩
        · have hne := str_ne12 (fun e => hw (HSE.2 e.symm) : wd ≠ S)
          have hne1 := hne.1
          have HN2 := Lib.hid (HNO.out hw)
          clear hko hw HSE HNO hne
          go_wp2_with (first | (refine wpList_store_row rfl 50 _ _ rfl w1.heap.size #[.string wd, .func (.func f1) #[] #[], .func (.func f2) #[] #[], .func (.func f3) #[] #[]] rfl rfl 50 #[.string ⟨#[]⟩, .nilFunc, .nilFunc, .nilFunc] N0.out (nam_info _ _ _ _) rfl (nam_one _ _ _ _) ?_; rw [← HW2.out]) | fail)
          go_roundw
          case rel => exact ⟨_, cnt', R2, HN2, B2, L2⟩
          case measure => rw [R2.out.left_eq, hrg.out.left_eq]; exact HLT.out
  · have hz0 : z = none := hz.trans (if_neg hk)
    subst hz0
    have hk2 : ((kindP (bl t) : Nat) : Int) ≠ 1 := by omega
    have hk3 : (((kindP (bl t) : Nat) : Int) == 1) = false := beq_eq_false_iff_ne.2 hk2
    generalize kindP (bl t) = kd at *
    have HK := Lib.hid HK
    clear hz
    go_enter Try.func19, Try.ntmps19
    go_wp2_with (first | (go_at_call 11; refine (HK.out _).mono ?_; rintro e w1 ⟨rfl, b1⟩) | (go_at_call 21; refine (needw_bad 7 _).mono ?_; rintro e w2 ⟨rfl, hw2⟩; rw [hw2]; clear hw2 w2) | fail)
    exact ⟨by first | rfl | trivial, rfl, b1⟩
end Go.Proofs.Ythemopejebioaaa.Pl

namespace Go.Proofs.Ythemopejebioaaa.Pl
open Go.RowKit

/-- A message's cells, its members at v. -/
abbrev msC (m : Ms) (v : Value) : Array Value := #[.int .u8 m.kind, .int .i64 m.c, .int .i64 m.e, .int .i64 m.q, .int .i64 m.aud, v, .string m.body, .bool m.yes, .string m.tag]
/-- Block g is a message. -/
def GAt (w : World) (g : Nat) (m : Ms) (v : Value) : Prop := w.heap[g]? = some (.cells (msC m v) 26 (0, 0))
theorem GAt.lt {w : World} {g : Nat} {m : Ms} {v : Value} (h : GAt w g m v) : g < w.heap.size := (Array.getElem?_eq_some_iff.1 h).1
theorem GAt.turn {F : Nat → Prop} {w w' : World} {g : Nat} {m : Ms} {v : Value} (h : GAt w g m v) (ht : Turn F w w') (hx : ¬ F g) : GAt w' g m v := (ht.block g h.lt hx).trans h
theorem GAt.below {w w' : World} {g : Nat} {m : Ms} {v : Value} (h : GAt w g m v) (hb : Below w.heap.size w w') : GAt w' g m v := (hb.block g h.lt).trans h
theorem GAt.cells {w : World} {g : Nat} {m : Ms} {v : Value} (h : GAt w g m v) : w.cell? ⟨g, 0, none⟩ = some (.int .u8 m.kind) ∧ w.cell? ⟨g, 1, none⟩ = some (.int .i64 m.c) ∧ w.cell? ⟨g, 2, none⟩ = some (.int .i64 m.e) ∧ w.cell? ⟨g, 3, none⟩ = some (.int .i64 m.q) ∧ w.cell? ⟨g, 4, none⟩ = some (.int .i64 m.aud) ∧ w.cell? ⟨g, 5, none⟩ = some v ∧ w.cell? ⟨g, 6, none⟩ = some (.string m.body) ∧ w.cell? ⟨g, 7, none⟩ = some (.bool m.yes) ∧ w.cell? ⟨g, 8, none⟩ = some (.string m.tag) := by
  unfold GAt msC at h
  exact ⟨cell_of_row _ _ _ _ _ _ h, cell_of_row _ _ _ _ _ _ h, cell_of_row _ _ _ _ _ _ h, cell_of_row _ _ _ _ _ _ h, cell_of_row _ _ _ _ _ _ h, cell_of_row _ _ _ _ _ _ h, cell_of_row _ _ _ _ _ _ h, cell_of_row _ _ _ _ _ _ h, cell_of_row _ _ _ _ _ _ h⟩
theorem GAt.frozen {w : World} {g : Nat} {m : Ms} {v : Value} (h : GAt w g m v) (k : Nat) : w.frozen? ⟨g, k, none⟩ = false := by
  unfold GAt at h
  simp [World.frozen?, h]
theorem gset {w : World} {g : Nat} {cs : Array Value} {t : TypeId} (h : w.heap[g]? = some (.cells cs t (0, 0))) (k : Nat) (v : Value) : (w.setCell ⟨g, k, none⟩ v).heap[g]? = some (.cells (cs.setIfInBounds k v) t (0, 0)) := by
  rw [setCell_eq_setRow w g k _ _ (0, 0) _ h, setRow_heap w g _ _ _ _ h]
/-- A message that is being read. -/
def GSt (w0 : World) (g : Nat) (m : Ms) (V : World) : Prop := Turn (· = g) w0 V ∧ ∃ v, GAt V g m v ∧ OwnM V w0.heap.size v m.mem
theorem ownM_next {V V1 : World} {B b : Nat} {v u : Value} {l : List Mb} (h : OwnM V B v l) (hb : Boxed V b 40 u) (t1 : Turn (· = b) V V1) : OwnM V1 B v l := by
  refine ⟨h.1, ?_⟩
  rcases h.2 with hn | ⟨g, cap, cur, hv, hbg, hg, rest⟩
  · exact .inl hn
  · refine .inr ⟨g, cap, cur, hv, hbg, (t1.block g (Array.getElem?_eq_some_iff.1 hg).1 fun e => ?_).trans hg, rest⟩
    unfold Boxed at hb
    rw [← e, hg] at hb
    injection hb with hb
    injection hb with _ hb
    exact absurd hb (by decide)
theorem GSt.next {w0 : World} {g b : Nat} {m : Ms} {V V1 : World} {l : List ByteArray} (h : GSt w0 g m V) (hg : g < w0.heap.size) (hN : NextAt V w0.heap.size b l) (t1 : Turn (· = b) V V1) : GSt w0 g m V1 := by
  obtain ⟨hT, v, hG, hO⟩ := h
  have hb := hN.fresh
  obtain ⟨ao, cap, h1, _⟩ := hN
  exact ⟨turn_trans hT t1 (fun _ e => .inr (e ▸ hb)), v, hG.turn t1 (fun e => by omega), ownM_next hO h1 t1⟩
theorem GSt.below {w0 : World} {g : Nat} {m : Ms} {V V1 : World} (h : GSt w0 g m V) (b1 : Below V.heap.size V V1) : GSt w0 g m V1 := by
  obtain ⟨hT, v, hG, hO⟩ := h
  exact ⟨turn_trans hT (turn_none b1) (fun _ e => e.elim), v, hG.below b1, ownM_below hO b1⟩
theorem GSt.turnd {w0 : World} {g : Nat} {m : Ms} {V : World} (h : GSt w0 g m V) : Turn (· = g) w0 V := h.1
/-- The worlds behind a store of a transaction into a message. -/
theorem GSt.setX {w0 : World} {g : Nat} {m : Ms} {V : World} (h : GSt w0 g m V) (hg : g < w0.heap.size) (c e q : Int) : GSt w0 g { m with c := c, e := e, q := q } (((V.setCell ⟨g, 1, none⟩ (.int .i64 c)).setCell ⟨g, 2, none⟩ (.int .i64 e)).setCell ⟨g, 3, none⟩ (.int .i64 q)) := by
  obtain ⟨hT, v, hG, hO⟩ := h
  have t1 := turn_cell V g 1 (.int .i64 c)
  have t2 := turn_cell (V.setCell ⟨g, 1, none⟩ (.int .i64 c)) g 2 (.int .i64 e)
  have t3 := turn_cell ((V.setCell ⟨g, 1, none⟩ (.int .i64 c)).setCell ⟨g, 2, none⟩ (.int .i64 e)) g 3 (.int .i64 q)
  have hF : ∀ k, k = g → k < w0.heap.size := fun k e => e ▸ hg
  refine ⟨turn_trans (turn_trans (turn_trans hT t1 (fun _ e => .inl e)) t2 (fun _ e => .inl e)) t3 (fun _ e => .inl e), v, ?_, ownM_turn (ownM_turn (ownM_turn hO t1 hF) t2 hF) t3 hF⟩
  exact gset (gset (gset hG 1 _) 2 _) 3 _
set_option maxHeartbeats 4000000 in
set_option maxRecDepth 100000 in
theorem gettxn_any (w0 : World) (g b : Nat) (hg : g < w0.heap.size) (m : Ms) (l : List ByteArray) (V : World) (hN : NextAt V w0.heap.size b l) (hS : GSt w0 g m V) :
    Calls Try.prog 43 #[ptr12 g, nextV b] V (ReadP w0.heap.size b (getX m l) (GSt w0 g) (Turn (· = g) w0)) := by
  obtain ⟨z, hz⟩ : ∃ z, z = getX m l := ⟨_, rfl⟩
  rw [← hz]
  have HZ := Lib.hid hz
  have HN := Lib.hid hN
  have HS := Lib.hid hS
  have HG := Lib.hid hg
  clear hz hN hS hg
  go_enter Try.func43, Try.ntmps43
  go_wp2_with fail
  cases l with
  | nil =>
    have hz : z = none := by rw [HZ.out]; rfl
    subst hz
    refine (next_none _ b _ HN.out).mono ?_; rintro e V1 ⟨rfl, hw⟩; rw [hw]; clear hw V1
    go_wp2_with fail
    exact ⟨by first | rfl | trivial, rfl, HS.out.turnd⟩
  | cons a r =>
    have HSZ := Lib.hid (HN.out.size a (List.mem_cons_self ..))
    refine (next_some _ b a r _ HN.out).mono ?_; rintro e V1 ⟨rfl, n1, t1⟩
    have S1 := Lib.hid (HS.out.next HG.out HN.out t1)
    have N1 := Lib.hid n1
    clear n1 t1 HS HN
    go_wp2_with fail
    have HT := fun W => txn12_any a HSZ.out W
    cases hr : txnR a with
    | none =>
      rw [hr] at HT; simp only [Out12] at HT
      have hz : z = none := by rw [HZ.out]; simp [getX, hr]
      subst hz
      refine (HT _).mono ?_; rintro e V2 ⟨rfl, b2⟩
      have S2 := Lib.hid (S1.out.below b2)
      go_wp2_with fail
      exact ⟨by first | rfl | trivial, rfl, S2.out.turnd⟩
    | some x =>
      obtain ⟨c, e', q⟩ := x
      rw [hr] at HT; simp only [Out12] at HT
      have hz : z = some ({ m with c := c, e := e', q := q }, r) := by rw [HZ.out]; simp [getX, hr]
      subst hz
      refine (HT _).mono ?_; rintro e V2 ⟨rfl, b2⟩
      have S2 := Lib.hid (S1.out.below b2)
      have N2 := Lib.hid (N1.out.below b2)
      obtain ⟨v, hG, -⟩ := S2.out.2
      obtain ⟨x0, x1, x2, x3, x4, x5, x6, x7, x8⟩ := hG.cells
      have f1 := hG.frozen 1
      have f2 := hG.frozen 2
      have f3 := hG.frozen 3
      clear hG b2 S1 N1 HT
      go_wp2_with fail
      have N3 := ((N2.out.turn (turn_cell V2 g 1 (.int .i64 c)) (fun k e => e ▸ HG.out)).turn (turn_cell (V2.setCell ⟨g, 1, none⟩ (.int .i64 c)) g 2 (.int .i64 e')) (fun k e => e ▸ HG.out)).turn (turn_cell ((V2.setCell ⟨g, 1, none⟩ (.int .i64 c)).setCell ⟨g, 2, none⟩ (.int .i64 e')) g 3 (.int .i64 q)) (fun k e => e ▸ HG.out)
      go_end0
      exact ⟨rfl, N3, S2.out.setX HG.out c e' q⟩
end Go.Proofs.Ythemopejebioaaa.Pl

namespace Go.Proofs.Ythemopejebioaaa.Pl
open Go.RowKit

theorem GSt.setN {w0 : World} {g : Nat} {m : Ms} {V : World} (h : GSt w0 g m V) (hg : g < w0.heap.size) (v : Int) : GSt w0 g { m with aud := v } (V.setCell ⟨g, 4, none⟩ (.int .i64 v)) := by
  obtain ⟨hT, u, hG, hO⟩ := h
  have t1 := turn_cell V g 4 (.int .i64 v)
  exact ⟨turn_trans hT t1 (fun _ e => .inl e), u, gset hG 4 _, ownM_turn hO t1 (fun k e => e ▸ hg)⟩
theorem GSt.setB {w0 : World} {g : Nat} {m : Ms} {V : World} (h : GSt w0 g m V) (hg : g < w0.heap.size) (v : ByteArray) : GSt w0 g { m with body := v } (V.setCell ⟨g, 6, none⟩ (.string v)) := by
  obtain ⟨hT, u, hG, hO⟩ := h
  have t1 := turn_cell V g 6 (.string v)
  exact ⟨turn_trans hT t1 (fun _ e => .inl e), u, gset hG 6 _, ownM_turn hO t1 (fun k e => e ▸ hg)⟩
theorem GSt.setY {w0 : World} {g : Nat} {m : Ms} {V : World} (h : GSt w0 g m V) (hg : g < w0.heap.size) (v : Bool) : GSt w0 g { m with yes := v } (V.setCell ⟨g, 7, none⟩ (.bool v)) := by
  obtain ⟨hT, u, hG, hO⟩ := h
  have t1 := turn_cell V g 7 (.bool v)
  exact ⟨turn_trans hT t1 (fun _ e => .inl e), u, gset hG 7 _, ownM_turn hO t1 (fun k e => e ▸ hg)⟩
theorem GSt.setT {w0 : World} {g : Nat} {m : Ms} {V : World} (h : GSt w0 g m V) (hg : g < w0.heap.size) (v : ByteArray) : GSt w0 g { m with tag := v } (V.setCell ⟨g, 8, none⟩ (.string v)) := by
  obtain ⟨hT, u, hG, hO⟩ := h
  have t1 := turn_cell V g 8 (.string v)
  exact ⟨turn_trans hT t1 (fun _ e => .inl e), u, gset hG 8 _, ownM_turn hO t1 (fun k e => e ▸ hg)⟩
theorem GSt.setM {w0 : World} {g : Nat} {m : Ms} {V : World} (h : GSt w0 g m V) (hg : g < w0.heap.size) (v : Value) (l : List Mb) (hl : OwnM V w0.heap.size v l) : GSt w0 g { m with mem := l } (V.setCell ⟨g, 5, none⟩ v) := by
  obtain ⟨hT, u, hG, hO⟩ := h
  have t1 := turn_cell V g 5 v
  exact ⟨turn_trans hT t1 (fun _ e => .inl e), v, gset hG 5 _, ownM_turn hl t1 (fun k e => e ▸ hg)⟩
theorem NextAt.cell {V : World} {B b g k : Nat} {v : Value} {l : List ByteArray} (h : NextAt V B b l) (hg : g < B) : NextAt (V.setCell ⟨g, k, none⟩ v) B b l := h.turn (turn_cell V g k v) (fun _ e => e ▸ hg)
theorem rdB_is {a : ByteArray} {v : Int} (h : rdN a = some v) : rdB a = if v ≤ 1 then some (v == 1) else none := by unfold rdB; rw [h]
theorem rdB_none {a : ByteArray} (h : rdN a = none) : rdB a = none := by unfold rdB; rw [h]

set_option maxHeartbeats 4000000 in
set_option maxRecDepth 100000 in
theorem getdec_any (w0 : World) (g b : Nat) (hg : g < w0.heap.size) (m : Ms) (l : List ByteArray) (V : World) (hN : NextAt V w0.heap.size b l) (hS : GSt w0 g m V) :
    Calls Try.prog 40 #[ptr12 g, nextV b] V (ReadP w0.heap.size b (getD12 m l) (GSt w0 g) (Turn (· = g) w0)) := by
  obtain ⟨z, hz⟩ : ∃ z, z = getD12 m l := ⟨_, rfl⟩
  rw [← hz]
  have HZ := Lib.hid hz
  have HN := Lib.hid hN
  have HS := Lib.hid hS
  have HG := Lib.hid hg
  clear hz hN hS hg
  go_enter Try.func40, Try.ntmps40
  go_wp2_with fail
  refine (gettxn_any w0 g b HG.out m l V HN.out HS.out).mono ?_
  intro e V1 h
  cases hr : getX m l with
  | none =>
    rw [hr] at h
    obtain ⟨rfl, hT⟩ := h
    have hz : z = none := by rw [HZ.out]; simp [getD12, hr]
    subst hz
    have HT := Lib.hid hT
    clear hT
    go_wp2_with fail
    exact ⟨by first | rfl | trivial, rfl, HT.out⟩
  | some y =>
    obtain ⟨m1, l1⟩ := y
    rw [hr] at h
    obtain ⟨rfl, hN1, hS1⟩ := h
    have HN := Lib.hid hN1
    have HS := Lib.hid hS1
    clear hN1 hS1
    go_wp2_with fail
    cases l1 with
    | nil =>
      have hz : z = none := by rw [HZ.out]; simp [getD12, getN, hr]
      subst hz
      refine (next_none _ b _ HN.out).mono ?_; rintro e V1 ⟨rfl, hw⟩; rw [hw]; clear hw V1
      go_wp2_with fail
      exact ⟨by first | rfl | trivial, rfl, HS.out.turnd⟩
    | cons a r =>
      have HSZ := Lib.hid (HN.out.size a (List.mem_cons_self ..))
      refine (next_some _ b a r _ HN.out).mono ?_; rintro e V1 ⟨rfl, n1, t1⟩
      have S1 := Lib.hid (HS.out.next HG.out HN.out t1)
      have N1 := Lib.hid n1
      clear n1 t1 HS HN
      go_wp2_with fail
      have HT := fun W => isset_any a HSZ.out W
      cases hb : rdB a with
      | none =>
        rw [hb] at HT; simp only [Out12] at HT
        have hz : z = none := by
          rw [HZ.out]
          cases hn : rdN a with
          | none => simp [getD12, hr, getN_cons, hn]
          | some v =>
            rw [rdB_is hn] at hb
            by_cases h1 : v ≤ 1
            · rw [if_pos h1] at hb; cases hb
            · simp only [getD12, hr, getN_cons, hn, Option.map_some, if_neg h1]
        subst hz
        refine (HT _).mono ?_; rintro e V2 ⟨rfl, b2⟩
        have S2 := Lib.hid (S1.out.below b2)
        go_wp2_with fail
        exact ⟨by first | rfl | trivial, rfl, S2.out.turnd⟩
      | some y =>
        rw [hb] at HT; simp only [Out12] at HT
        have hz : z = some ({ m1 with yes := y }, r) := by
          rw [HZ.out]
          cases hn : rdN a with
          | none => rw [rdB_none hn] at hb; cases hb
          | some v =>
            rw [rdB_is hn] at hb
            by_cases h1 : v ≤ 1
            · rw [if_pos h1] at hb
              simp only [getD12, hr, getN_cons, hn, Option.map_some, if_pos h1, Option.some.inj hb]
            · rw [if_neg h1] at hb; cases hb
        subst hz
        refine (HT _).mono ?_; rintro e V2 ⟨rfl, b2⟩
        have S2 := Lib.hid (S1.out.below b2)
        have N2 := Lib.hid (N1.out.below b2)
        obtain ⟨vv, hG, -⟩ := S2.out.2
        obtain ⟨x0, x1, x2, x3, x4, x5, x6, x7, x8⟩ := hG.cells
        have fk := hG.frozen 7
        clear hG
        clear b2 S1 N1 HT
        go_wp2_with fail
        go_end0
        exact ⟨rfl, N2.out.cell HG.out, S2.out.setY HG.out y⟩
set_option maxHeartbeats 4000000 in
set_option maxRecDepth 100000 in
theorem getvote_any (w0 : World) (g b : Nat) (hg : g < w0.heap.size) (m : Ms) (l : List ByteArray) (V : World) (hN : NextAt V w0.heap.size b l) (hS : GSt w0 g m V) :
    Calls Try.prog 37 #[ptr12 g, nextV b] V (ReadP w0.heap.size b (getV m l) (GSt w0 g) (Turn (· = g) w0)) := by
  obtain ⟨z, hz⟩ : ∃ z, z = getV m l := ⟨_, rfl⟩
  rw [← hz]
  have HZ := Lib.hid hz
  have HN := Lib.hid hN
  have HS := Lib.hid hS
  have HG := Lib.hid hg
  clear hz hN hS hg
  go_enter Try.func37, Try.ntmps37
  go_wp2_with fail
  refine (getdec_any w0 g b HG.out m l V HN.out HS.out).mono ?_
  intro e V1 h
  cases hr : getD12 m l with
  | none =>
    rw [hr] at h
    obtain ⟨rfl, hT⟩ := h
    have hz : z = none := by rw [HZ.out]; simp [getV, hr]
    subst hz
    have HT := Lib.hid hT
    clear hT
    go_wp2_with fail
    exact ⟨by first | rfl | trivial, rfl, HT.out⟩
  | some y =>
    obtain ⟨m1, l1⟩ := y
    rw [hr] at h
    obtain ⟨rfl, hN1, hS1⟩ := h
    have HN := Lib.hid hN1
    have HS := Lib.hid hS1
    clear hN1 hS1
    obtain ⟨vv, hG, -⟩ := HS.out.2
    obtain ⟨x0, x1, x2, x3, x4, x5, x6, x7, x8⟩ := hG.cells
    have fk := hG.frozen 8
    clear hG
    cases hy : m1.yes with
    | false =>
      rw [hy] at x7
      have hz : z = some (m1, l1) := by rw [HZ.out]; simp [getV, hr, hy]
      subst hz
      go_wp2_with fail
      go_end0
      exact ⟨rfl, HN.out, HS.out⟩
    | true =>
      rw [hy] at x7
      go_wp2_with fail
      clear x0 x1 x2 x3 x4 x5 x6 x7 x8 fk
      cases l1 with
      | nil =>
        have hz : z = none := by rw [HZ.out]; simp [getV, hr, hy]
        subst hz
        refine (next_none _ b _ HN.out).mono ?_; rintro e V1 ⟨rfl, hw⟩; rw [hw]; clear hw V1
        go_wp2_with fail
        exact ⟨by first | rfl | trivial, rfl, HS.out.turnd⟩
      | cons a r =>
        have HSZ := Lib.hid (HN.out.size a (List.mem_cons_self ..))
        refine (next_some _ b a r _ HN.out).mono ?_; rintro e V1 ⟨rfl, n1, t1⟩
        have S1 := Lib.hid (HS.out.next HG.out HN.out t1)
        have N1 := Lib.hid n1
        clear n1 t1 HS HN
        have hz : z = some ({ m1 with tag := a }, r) := by rw [HZ.out]; simp [getV, hr, hy]
        subst hz
        obtain ⟨vv, hG, -⟩ := S1.out.2
        obtain ⟨x0, x1, x2, x3, x4, x5, x6, x7, x8⟩ := hG.cells
        have fk := hG.frozen 8
        clear hG
        go_wp2_with fail
        go_end0
        exact ⟨rfl, N1.out.cell HG.out, S1.out.setT HG.out a⟩
end Go.Proofs.Ythemopejebioaaa.Pl
