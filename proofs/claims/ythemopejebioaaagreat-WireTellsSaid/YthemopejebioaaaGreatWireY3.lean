/- How a row of texts that came in reads. Messages as terms, over plain bytes: what may be, what is encoded, what is read. Messages as terms, over plain bytes: what is encoded is read, and what is read is encoded as it was. -/
import Derived.Test.YthemopejebioaaaGreatWireY2
import Derived.ProofKit
import Derived.SliceStrings
import Derived.Laws.AppendOwnNone
namespace Go.Proofs.YthemopejebioaaaGreat.Pl
open Go.RowKit Go.ChangeShapes Go.WideShapes

theorem cells_string6 : Tryz.prog.cellsOf 9 = 1 := by kernel_rfl
set_option maxRecDepth 100000 in
theorem open_texts6 {H : Type} {enc : TypeId × Value → H} {w : World} {r : Reach} {b0 base : Nat} {v : Value} {d : DataW H} {ps : List MemPlace}
    (hval : Value.okWide Tryz.prog w r b0 53 v) (hd : DataW.Trod enc Tryz.prog w base (fun _ => true) true 53 v d ps) :
    ∃ ao l cap, v = .slice ao (List.length l) cap ∧ TxtRow w ao l ∧ List.length l ≤ cap ∧ List.length l ≤ 9223372036854775807 ∧ (ao = none → cap = 0) := by
  obtain ⟨a, len, cap, rfl⟩ := okWide_slice Tryz.underlying53 hval
  obtain ⟨fuel, hf⟩ := hd
  rcases open_strings Tryz.underlying53 Tryz.underlying9 cells_string6 hf with ⟨hcs, _⟩ | ⟨a', len', cap', ss, hcs, _, hl, hm, hz, _, hcell, hws⟩
  · simp [Value.cells] at hcs
    obtain ⟨rfl, rfl, rfl⟩ := hcs
    exact ⟨none, [], 0, rfl, .inl rfl, Nat.le_refl _, Nat.zero_le _, fun _ => rfl⟩
  · simp [Value.cells] at hcs
    obtain ⟨rfl, rfl, rfl⟩ := hcs
    unfold maxLen at hm hws
    simp at hz
    have hlen : (ss.take len).length = len := by simp; omega
    refine ⟨some a', ss.take len, cap, by rw [hlen], ?_, by omega, by omega, fun h => by cases h⟩
    by_cases h0 : len = 0
    · exact .inl (List.length_eq_zero_iff.1 (by omega))
    · right
      have hc0 := hcell 0 (by omega)
      have hspot : a'.spot = none := by
        rw [show a'.add 0 = a' from rfl] at hc0
        unfold World.cell? at hc0
        cases hs : a'.spot with
        | none => rfl
        | some x =>
          rw [hs] at hc0
          split at hc0
          · simp at hc0
          · cases hc0
      obtain ⟨b, off, sp⟩ := a'
      simp at hspot
      subst hspot
      have hlt : b < w.heap.size := by
        rcases Nat.lt_or_ge b w.heap.size with h | h
        · exact h
        · exfalso
          rw [show (⟨b, off, none⟩ : Addr).add 0 = ⟨b, off, none⟩ from rfl] at hc0
          simp [World.cell?, Array.getElem?_eq_none h] at hc0
      refine ⟨b, off, rfl, hlt, fun i hi => ?_⟩
      have h1 := hcell i (by omega)
      rw [show (⟨b, off, none⟩ : Addr).add i = ⟨b, off + i, none⟩ from by unfold Addr.add; split <;> simp_all] at h1
      rw [h1]
      have e : ss.getD i ByteArray.empty = (ss.take len).getD i ByteArray.empty := by
        have hi2 : i < ss.length := by omega
        simp [List.getD, List.getElem?_take_of_lt (show i < len by omega), hi2]
      rw [e]

theorem infoStr6a : (Tryz.prog.info? 9).map (fun i => (i.zero, i.size, i.bytes)) = some (some (.string ⟨#[]⟩), 1, 16) := by kernel_rfl
theorem below_of_grown6 {w w' : World} (h : w.grownBy w' (Value.slice none 0 0).ownBlock) : Below w.heap.size w w' :=
  (Below.refl _ w).grown h (Nat.le_refl _) (fun k hk => by simp [Value.ownBlock] at hk)
theorem own_cap {w : World} {B : Nat} {v : Value} {l : List ByteArray} (h : OwnT w B v l) : ∃ q c, v = .slice q l.length c ∧ l.length ≤ c ∧ TxtRow w q l := by
  rcases h.2 with ⟨hv, h0⟩ | ⟨g, cap, cur, hv, hbg, hg, h1, _⟩
  · exact ⟨none, 0, by rw [hv, h0], by omega, .inl (List.length_eq_zero_iff.1 h0)⟩
  · obtain ⟨q, c, e, hr⟩ := ownT_row h
    rw [hv] at e
    injection e with e1 e2 e3
    exact ⟨q, cap, by rw [hv, e1], h1, hr⟩
/-- append([]string(nil), l...). -/
theorem wpList_copy6 {ops : Array Oper} {rest : List Oper} {o : Oper} {a : Act} {Q : Exit → Act → World → Prop} {w : World} (hgd : o.guard = none) (x : Operand)
    (ho : o.op = .call { callee := .builtin .append, args := #[.const (.slice none 0 0), x], argTypes := #[53, 53] })
    (ao : Option Addr) (cap : Nat) (l : List ByteArray) (hx : a.eval x = .slice ao l.length cap) (hs : TxtRow w ao l) (hn : l.length ≤ 1000) (hp : ao = none → cap = 0)
    (h : ∀ q c' w', TxtRow w' q l → l.length ≤ c' → Below w.heap.size w w' → wpList Tryz.prog ops Q rest (a.put o.dst (.slice q l.length c')) w') : wpList Tryz.prog ops Q (o :: rest) a w := by
  obtain ⟨i0, hi, hz0, hz1, hz2⟩ := info_parts infoStr6a
  cases ao with
  | none =>
    have h0 : l = [] := by
      rcases hs with h0 | ⟨b, off, hb, _⟩
      · exact h0
      · cases hb
    subst h0
    obtain rfl := hp rfl
    exact wpList_append_own_none hgd _ x 53 ho w.heap.size 9 i0 1 Tryz.underlying53 hi (.slice none 0 0) 0 [] rfl (World.ownsRow_nil _ _ _ _) hx
      (h none 0 w (.inl rfl) (Nat.le_refl _) (Below.refl _ _))
  | some ad =>
    refine wpList_append_own w hgd _ x 53 ho w.heap.size 9 i0 (.string ⟨#[]⟩) 1 16 Tryz.underlying53 hi hz0 hz1 hz2 rfl (by decide) (.slice none 0 0) 0 [] rfl ⟨rfl, .inl ⟨rfl, rfl⟩⟩ ad l.length cap (txts l) hx (by rw [txts_length, Nat.mul_one]) ?_ ?_ (by unfold maxLen; omega) (by omega) (Nat.le_refl _) ?_
    · intro j u hu
      have hj := (List.getElem?_eq_some_iff.1 hu).1
      rw [txts_length] at hj
      rcases hs with h0 | ⟨b, off, hb, hlt, hc⟩
      · subst h0; simp at hj
      · cases hb
        rw [txts_at l j hj] at hu
        have e : u = .string (l.getD j ByteArray.empty) := (Option.some.inj hu).symm
        rw [e, show (⟨b, off, none⟩ : Addr).add j = ⟨b, off + j, none⟩ from by unfold Addr.add; split <;> simp_all]
        exact hc j hj
    · intro u hu
      unfold txts at hu
      obtain ⟨z, _, rfl⟩ := List.mem_map.1 hu
      rfl
    · intro v' w' hown hgrow _
      have hown' : OwnT w' w.heap.size v' l := by
        unfold OwnT
        simpa using hown
      obtain ⟨q, c, rfl, hc, hr⟩ := own_cap hown'
      exact h q c w' hr hc (below_of_grown6 hgrow)
end Go.Proofs.YthemopejebioaaaGreat.Pl

namespace Go.Proofs.YthemopejebioaaaGreat.Pl
open Go.RowKit

def tb (l : List UInt8) : ByteArray := ⟨l.toArray⟩
theorem bl_tb (l : List UInt8) : bl (tb l) = l := rfl
theorem tb_bl (x : ByteArray) : tb (bl x) = x := rfl
theorem tb_inj {a b : List UInt8} (h : tb a = tb b) : a = b := by rw [← bl_tb a, h, bl_tb]
theorem map_bl_tb (l : List (List UInt8)) : (l.map tb).map bl = l := by
  rw [List.map_map]; exact (List.map_congr_left (fun x _ => bl_tb x)).trans (List.map_id l)
theorem map_tb_bl (l : List ByteArray) : (l.map bl).map tb = l := by
  rw [List.map_map]; exact (List.map_congr_left (fun x _ => tb_bl x)).trans (List.map_id l)

/-! ### Trees and kinds -/
theorem kindh12 {h : List UInt8} {l : List Tm} (hv : (Tm.node h l).valid) {b : UInt8} {r : List UInt8} (e : h = b :: r) : kindP (Tm.node h l).enc = if b = 100 then 1 else if b = 97 then 2 else if b = 114 then 3 else if b = 104 then 4 else if b = 109 then 5 else 6 := by
  unfold kindP
  rw [if_pos (check_enc hv), Tm.enc_node, e, List.cons_append]
theorem texth12 {h : List UInt8} {l : List Tm} (hv : (Tm.node h l).valid) {x : List UInt8} (e : h = 100 :: txt x) (hx : x.length ≤ 1024) : textP (Tm.node h l).enc = (x, true) := by
  have hr := rdt_txt (t := x) (by rw [two64]; omega) (encs l) 1024 (by omega)
  unfold textP
  rw [if_pos ⟨check_enc hv, by rw [Tm.enc_node, e]; simp⟩, Tm.enc_node, e, List.cons_append, List.drop_succ_cons, List.drop_zero, hr]
theorem kind_check {s : List UInt8} {c : Nat} (h : kindP s = c) (hc : c ≠ 0) : checkP s = 0 := by
  by_cases k : checkP s = 0
  · exact k
  · exfalso; unfold kindP at h; rw [if_neg k] at h; exact hc h.symm
theorem kind_tree12 {s : List UInt8} (hc : checkP s = 0) : ∃ h l c, (Tm.node h l).valid ∧ (Tm.node h l).enc = s ∧ Kd h l.length c ∧ kindP s = c := by
  obtain ⟨⟨h, l⟩, hv, e⟩ := check_iff.1 hc
  have hg := hv.1
  simp only [Tm.good] at hg
  obtain ⟨c, hk⟩ := head_kind hg.1
  refine ⟨h, l, c, hv, e, hk, ?_⟩
  rw [← e]
  cases hk with
  | data t e1 _ _ => rw [kindh12 hv e1]; rfl
  | atom t e1 _ _ _ => rw [kindh12 hv e1]; rfl
  | row v e1 _ _ => rw [kindh12 hv e1]; rfl
  | hash e1 _ => rw [kindh12 hv e1]; rfl
  | mac e1 _ => rw [kindh12 hv e1]; rfl
  | seal_ e1 _ => rw [kindh12 hv e1]; rfl
/-- What is a row is the row of its parts. -/
theorem row_again {s : List UInt8} (h : kindP s = 3) : rowP (partsP s).1 = (s, 0) ∧ (partsP s).1.length ≤ 32 ∧ ∀ x ∈ (partsP s).1, checkP x = 0 := by
  obtain ⟨hd, l, c, hv, e, hk, hc⟩ := kind_tree12 (kind_check h (by decide))
  rw [h] at hc
  subst hc
  cases hk with
  | row v e1 hv2 hl =>
    have e2 : partsP s = (l.map Tm.enc, true) := by unfold partsP; rw [← e, treeOf_enc hv]
    rw [e2]
    refine ⟨?_, ?_, ?_⟩
    · show madeP (114 :: enc (l.map Tm.enc).length) (l.map Tm.enc) = (s, 0)
      rw [List.length_map, hl, ← e1, made_again hv, e]
    · simp only [List.length_map]; omega
    · intro x hx
      obtain ⟨t, ht, rfl⟩ := List.mem_map.1 hx
      exact check_enc (node_valid_parts hv t ht)
theorem row_read {l : List (List UInt8)} (h8 : l.length < 256 ^ 8) {r : List UInt8} (h : rowP l = (r, 0)) : kindP r = 3 ∧ (partsP r).1 = l ∧ checkP r = 0 := by
  obtain ⟨m, hv, e, em⟩ := row_parts h8 h
  refine ⟨by rw [← e, kindh12 hv rfl]; rfl, ?_, by rw [← e]; exact check_enc hv⟩
  unfold partsP
  rw [← e, treeOf_enc hv]
  exact em
theorem row_err {l : List (List UInt8)} (h : ∀ x ∈ l, checkP x = 0) : (rowP l).2 = 0 ∨ rowP l = ([], 5) := by
  unfold rowP madeP
  rw [if_pos h]
  split
  · exact .inl rfl
  · exact .inr rfl
theorem row_ok {l : List (List UInt8)} (h : (rowP l).2 = 0) : rowP l = ((rowP l).1, 0) := Prod.ext rfl h
theorem leaf12 {x : List UInt8} (hx : x.length ≤ 1024) : (Tm.node (100 :: txt x) []).valid ∧ (Tm.node (100 :: txt x) []).enc = 100 :: txt x := by
  have e : (Tm.node (100 :: txt x) []).enc = 100 :: txt x := by rw [Tm.enc_node]; simp [encs]
  refine ⟨⟨by simp only [Tm.good]; exact ⟨data_head hx, by simp [goods]⟩, by simp [Tm.deep, deeps], ?_⟩, e⟩
  rw [e, List.length_cons, txt_len]
  have := enc_len x.length
  omega
theorem data_read {x : List UInt8} (hx : x.length ≤ 1024) : dataP x = (100 :: txt x, 0) ∧ kindP (100 :: txt x) = 1 ∧ textP (100 :: txt x) = (x, true) ∧ checkP (100 :: txt x) = 0 := by
  obtain ⟨hv, e⟩ := leaf12 hx
  have h1 := kindh12 hv rfl
  have h2 := texth12 hv rfl hx
  rw [e] at h1 h2
  exact ⟨by unfold dataP; exact if_neg (by omega), h1, h2, by rw [← e]; exact check_enc hv⟩
theorem data_again {s : List UInt8} (h : kindP s = 1) : ∃ x, x.length ≤ 1024 ∧ s = 100 :: txt x ∧ textP s = (x, true) := by
  obtain ⟨hd, l, c, hv, e, hk, hc⟩ := kind_tree12 (kind_check h (by decide))
  rw [h] at hc
  subst hc
  cases hk with
  | data t e1 ht h0 =>
    have hl : l = [] := List.length_eq_zero_iff.1 h0
    subst hl
    have h2 := texth12 hv e1 ht
    rw [e] at h2
    refine ⟨t, ht, ?_, h2⟩
    rw [← e, Tm.enc_node, e1]; simp [encs]
/-- A number's term. -/
theorem num_read {v : Int} (h0 : 0 ≤ v) (h1 : v ≤ 2147483647) : ∃ s, numP v = (s, 0) ∧ checkP s = 0 ∧ kindP s = 1 ∧ readnumP s = (v.toNat, true) ∧ s.length ≤ 19 := by
  have he := enc_len v.toNat
  obtain ⟨_, k1, k2, k3⟩ := data_read (x := enc v.toNat) (by omega)
  refine ⟨100 :: txt (enc v.toNat), if_pos ⟨h0, h1⟩, k3, k1, ?_, ?_⟩
  · have hr := rdn_enc (v := v.toNat) (by rw [two64]; omega) []
    rw [List.append_nil] at hr
    unfold readnumP
    rw [k2, k1, hr]
    rw [if_pos ⟨rfl, rfl, rfl, rfl, by simp only; omega⟩]
  · rw [List.length_cons, txt_len]
    have := enc_len (enc v.toNat).length
    omega
theorem num_again {s : List UInt8} {v : Nat} (h : readnumP s = (v, true)) : numP (v : Int) = (s, 0) ∧ v ≤ 2147483647 ∧ checkP s = 0 := by
  unfold readnumP at h
  split at h
  · rename_i k
    obtain ⟨k1, k2, k3, k4, k5⟩ := k
    obtain ⟨x, hx, es, et⟩ := data_again k2
    rw [et] at k3 k4 k5 h
    simp only [Prod.mk.injEq, and_true] at h
    rw [h] at k5
    have hr : rdn x = (v, x.length, 0) := Prod.ext h (Prod.ext k4 k3)
    obtain ⟨_, _, r3, _⟩ := rdn_sound hr
    rw [List.take_length] at r3
    refine ⟨?_, k5, kind_check k2 (by decide)⟩
    unfold numP
    rw [if_pos (by omega), Int.toNat_natCast, r3, es]
  · simp at h

/-! ### What may be -/
abbrev Mb := Int × ByteArray
structure Ms where
  kind : Nat
  c : Int
  e : Int
  q : Int
  aud : Int
  mem : List Mb
  body : ByteArray
  yes : Bool
  tag : ByteArray
def orgP (v : Int) : Bool := decide (0 ≤ v) && decide (v < 8)
def mayX (c e q : Int) : Bool := orgP c && decide (1 ≤ e) && decide (e ≤ 255) && decide (1 ≤ q) && decide (q ≤ 65535)
def termP (s : ByteArray) : Bool := checkP (bl s) == 0
def mayM1 (c last : Int) (m : Mb) : Bool := orgP m.1 && !(m.1 == c) && decide (last < m.1) && termP m.2
def mayMs (c : Int) : Int → List Mb → Bool
  | _, [] => true
  | last, m :: r => mayM1 c last m && mayMs c m.1 r
def mayL (c : Int) (l : List Mb) : Bool := decide (1 ≤ l.length) && decide (l.length ≤ 6) && mayMs c (-1) l
def wordP (k : Nat) : List UInt8 :=
  if k = 1 then [112, 114, 101, 112, 97, 114, 101] else if k = 2 then [118, 111, 116, 101] else if k = 3 then [100, 101, 99, 105, 115, 105, 111, 110] else if k = 4 then [97, 99, 107] else if k = 5 then [113, 117, 101, 114, 121] else if k = 6 then [104, 101, 108, 108, 111] else []
def kindOf (w : List UInt8) : Nat := if w = wordP 1 then 1 else if w = wordP 2 then 2 else if w = wordP 3 then 3 else if w = wordP 4 then 4 else if w = wordP 5 then 5 else if w = wordP 6 then 6 else 0
def asksP (m : Ms) : Bool := !(m.aud == 0) || decide (0 < m.mem.length) || decide (0 < m.body.size)
def votesP (m : Ms) : Bool := m.yes || decide (0 < m.tag.size)
def mayP (m : Ms) : Bool :=
  if m.kind = 1 then mayX m.c m.e m.q && orgP m.aud && mayL m.c m.mem && termP m.body && !votesP m
  else if m.kind = 2 then mayX m.c m.e m.q && !asksP m && ((m.yes && termP m.tag) || !votesP m)
  else if m.kind = 3 then mayX m.c m.e m.q && !asksP m && decide (m.tag.size = 0)
  else if m.kind = 4 ∨ m.kind = 5 then mayX m.c m.e m.q && !asksP m && !votesP m
  else if m.kind = 6 then decide (m.c = 0 ∧ m.e = 0 ∧ m.q = 0) && !asksP m && !votesP m
  else false

/-! ### What is encoded -/
def txnL (c e q : Int) : List (List UInt8) := [(numP c).1, (numP e).1, (numP q).1]
def txnT (c e q : Int) : List UInt8 := (rowP (txnL c e q)).1
def memT (m : Mb) : List UInt8 × Nat := rowP [(numP m.1).1, bl m.2]
def membersT (l : List Mb) : List UInt8 × Nat := if ∀ m ∈ l, (memT m).2 = 0 then rowP (l.map fun m => (memT m).1) else ([], 5)
def bitP (b : Bool) : Int := if b then 1 else 0
def fieldsP (m : Ms) : List (List UInt8) :=
  if m.kind = 1 then [txnT m.c m.e m.q, (numP m.aud).1, (membersT m.mem).1, bl m.body]
  else if m.kind = 2 then [txnT m.c m.e m.q, (numP (bitP m.yes)).1] ++ (if m.yes then [bl m.tag] else [])
  else if m.kind = 3 then [txnT m.c m.e m.q, (numP (bitP m.yes)).1]
  else if m.kind = 4 ∨ m.kind = 5 then [txnT m.c m.e m.q]
  else []
def encP (m : Ms) : List UInt8 × Nat :=
  if mayP m = false then ([], 2) else if m.kind = 1 ∧ (membersT m.mem).2 ≠ 0 then ([], 5) else rowP ((dataP (wordP m.kind)).1 :: fieldsP m)

/-! ### What is read -/
noncomputable def partsB (t : ByteArray) : List ByteArray := (partsP (bl t)).1.map tb
noncomputable def rdN (x : ByteArray) : Option Int := if (readnumP (bl x)).2 = true then some ((readnumP (bl x)).1 : Int) else none
noncomputable def getN : List ByteArray → Option (Int × List ByteArray)
  | [] => none
  | a :: r => (rdN a).map fun v => (v, r)
def endR {α : Type} : Option (α × List ByteArray) → Option α
  | some (x, []) => some x
  | _ => none
noncomputable def rowR {α : Type} (t : ByteArray) (g : List ByteArray → Option (α × List ByteArray)) : Option α :=
  if kindP (bl t) = 3 then endR (g (partsB t)) else none
noncomputable def txnG (l : List ByteArray) : Option ((Int × Int × Int) × List ByteArray) :=
  match getN l with
  | none => none
  | some (c, l1) => match getN l1 with
    | none => none
    | some (e, l2) => match getN l2 with
      | none => none
      | some (q, l3) => some ((c, e, q), l3)
noncomputable def txnR (t : ByteArray) : Option (Int × Int × Int) := match rowR t txnG with | some (c, e, q) => if mayX c e q = true then some (c, e, q) else none | none => none
noncomputable def memG (l : List ByteArray) : Option (Mb × List ByteArray) :=
  match getN l with
  | none => none
  | some (o, l1) => match l1 with
    | [] => none
    | d :: r => some ((o, d), r)
noncomputable def memsR : List ByteArray → Option (List Mb)
  | [] => some []
  | p :: r => match rowR p memG with
    | none => none
    | some m => (memsR r).map fun l => m :: l
noncomputable def membersR (c : Int) (t : ByteArray) : Option (List Mb) :=
  if kindP (bl t) = 3 then (match memsR (partsB t) with | some l => if mayL c l = true then some l else none | none => none) else none
noncomputable def getX (m : Ms) (l : List ByteArray) : Option (Ms × List ByteArray) :=
  match l with
  | [] => none
  | a :: r => match txnR a with
    | none => none
    | some (c, e, q) => some ({ m with c := c, e := e, q := q }, r)
noncomputable def getD12 (m : Ms) (l : List ByteArray) : Option (Ms × List ByteArray) :=
  match getX m l with
  | none => none
  | some (m, l) => match getN l with
    | none => none
    | some (v, r) => if v ≤ 1 then some ({ m with yes := v == 1 }, r) else none
noncomputable def getV (m : Ms) (l : List ByteArray) : Option (Ms × List ByteArray) :=
  match getD12 m l with
  | none => none
  | some (m, l) => if m.yes = true then (match l with | [] => none | a :: r => some ({ m with tag := a }, r)) else some (m, l)
noncomputable def getPr (m : Ms) (l : List ByteArray) : Option (Ms × List ByteArray) :=
  match getX m l with
  | none => none
  | some (m, l) => match getN l with
    | none => none
    | some (v, l) => match l with
      | [] => none
      | a :: l => match membersR m.c a with
        | none => none
        | some k => match l with
          | [] => none
          | b :: r => some ({ m with aud := v, mem := k, body := b }, r)
noncomputable def getP (k : Nat) (m : Ms) (l : List ByteArray) : Option (Ms × List ByteArray) :=
  if k = 1 then getPr m l else if k = 2 then getV m l else if k = 3 then getD12 m l else if k = 4 ∨ k = 5 then getX m l else some (m, l)
def zeroM (k : Nat) : Ms := ⟨k, 0, 0, 0, 0, [], ByteArray.empty, false, ByteArray.empty⟩
noncomputable def kindR (w : ByteArray) : Option Nat := if kindP (bl w) = 1 then (if kindOf (textP (bl w)).1 = 0 then none else some (kindOf (textP (bl w)).1)) else none
noncomputable def msgG (l : List ByteArray) : Option (Ms × List ByteArray) :=
  match l with
  | [] => none
  | w :: r => match kindR w with
    | none => none
    | some k => getP k (zeroM k) r
noncomputable def decP (t : ByteArray) : Option Ms := match rowR t msgG with | some m => if mayP m = true then some m else none | none => none
end Go.Proofs.YthemopejebioaaaGreat.Pl

namespace Go.Proofs.YthemopejebioaaaGreat.Pl
open Go.RowKit

theorem orgP_iff {v : Int} : orgP v = true ↔ 0 ≤ v ∧ v < 8 := by simp [orgP]
theorem mayX_iff {c e q : Int} : mayX c e q = true ↔ (0 ≤ c ∧ c < 8) ∧ (1 ≤ e ∧ e ≤ 255) ∧ 1 ≤ q ∧ q ≤ 65535 := by
  simp only [mayX, Bool.and_eq_true, decide_eq_true_eq, orgP]
  constructor
  · rintro ⟨⟨⟨⟨⟨a, b⟩, c⟩, d⟩, e⟩, f⟩; exact ⟨⟨a, b⟩, ⟨c, d⟩, e, f⟩
  · rintro ⟨⟨a, b⟩, ⟨c, d⟩, e, f⟩; exact ⟨⟨⟨⟨⟨a, b⟩, c⟩, d⟩, e⟩, f⟩
theorem rdN_num {v : Int} (h0 : 0 ≤ v) (h1 : v ≤ 2147483647) : rdN (tb (numP v).1) = some v ∧ checkP (numP v).1 = 0 := by
  obtain ⟨s, e, hc, _, hr, _⟩ := num_read h0 h1
  rw [e]
  refine ⟨?_, hc⟩
  unfold rdN
  rw [bl_tb, hr, if_pos rfl]
  congr 1
  simp only
  omega
theorem rdN_again {x : ByteArray} {v : Int} (h : rdN x = some v) : 0 ≤ v ∧ v ≤ 2147483647 ∧ numP v = (bl x, 0) := by
  unfold rdN at h
  split at h
  · rename_i k
    obtain ⟨n, b, hx⟩ : ∃ n b, readnumP (bl x) = (n, b) := ⟨_, _, rfl⟩
    rw [hx] at h k
    simp only at k h
    subst k
    obtain ⟨h1, h2, _⟩ := num_again hx
    obtain rfl := Option.some.inj h
    exact ⟨by omega, by omega, h1⟩
  · cases h
theorem num_ok {v : Int} (h0 : 0 ≤ v) (h1 : v ≤ 2147483647) : (numP v).2 = 0 ∧ (numP v).1.length ≤ 19 ∧ ∃ x, x.length ≤ 1024 ∧ (numP v).1 = 100 :: txt x := by
  obtain ⟨s, e, _, _, _, hl⟩ := num_read h0 h1
  refine ⟨by rw [e], by rw [e]; exact hl, enc v.toNat, by have := enc_len v.toNat; omega, ?_⟩
  unfold numP
  rw [if_pos ⟨h0, h1⟩]
theorem rowR_row {α : Type} {l : List (List UInt8)} {r : List UInt8} (hl : l.length ≤ 1000) (h : rowP l = (r, 0)) (g : List ByteArray → Option (α × List ByteArray)) : rowR (tb r) g = endR (g (l.map tb)) := by
  obtain ⟨h1, h2, _⟩ := row_read (by omega) h
  unfold rowR partsB
  rw [bl_tb, if_pos h1, h2]
theorem rowR_again {α : Type} {t : ByteArray} {g : List ByteArray → Option (α × List ByteArray)} {x : α} (h : rowR t g = some x) : g (partsB t) = some (x, []) ∧ rowP ((partsB t).map bl) = (bl t, 0) ∧ (∀ y ∈ partsB t, checkP (bl y) = 0) ∧ (partsB t).length ≤ 32 := by
  unfold rowR at h
  split at h
  · rename_i k
    obtain ⟨h1, h2, h3⟩ := row_again k
    refine ⟨?_, ?_, ?_, ?_⟩
    · unfold endR at h
      split at h
      · rename_i y e
        rw [e, Option.some.inj h]
      · cases h
    · unfold partsB; rw [map_bl_tb]; exact h1
    · intro y hy
      obtain ⟨z, hz, rfl⟩ := List.mem_map.1 hy
      exact h3 z hz
    · unfold partsB; rw [List.length_map]; exact h2
  · cases h
theorem txn_ok {c e q : Int} (h : mayX c e q = true) : rowP (txnL c e q) = (txnT c e q, 0) ∧ checkP (txnT c e q) = 0 := by
  obtain ⟨h1, h2, h3⟩ := mayX_iff.1 h
  obtain ⟨_, l1, x1, y1, e1⟩ := num_ok (v := c) (by omega) (by omega)
  obtain ⟨_, l2, x2, y2, e2⟩ := num_ok (v := e) (by omega) (by omega)
  obtain ⟨_, l3, x3, y3, e3⟩ := num_ok (v := q) (by omega) (by omega)
  obtain ⟨v1, f1⟩ := leaf12 y1
  obtain ⟨v2, f2⟩ := leaf12 y2
  obtain ⟨v3, f3⟩ := leaf12 y3
  have el : txnL c e q = [Tm.node (100 :: txt x1) [], Tm.node (100 :: txt x2) [], Tm.node (100 :: txt x3) []].map Tm.enc := by
    simp only [List.map_cons, List.map_nil, f1, f2, f3, txnL, e1, e2, e3]
  rw [e1] at l1; rw [e2] at l2; rw [e3] at l3
  have hv : (Tm.node (114 :: enc 3) [Tm.node (100 :: txt x1) [], Tm.node (100 :: txt x2) [], Tm.node (100 :: txt x3) []]).valid := by
    refine ⟨?_, ?_, ?_⟩
    · simp only [Tm.good, goods, List.length_cons, List.length_nil]
      exact ⟨row_head (by decide), by simpa only [Tm.good, goods, List.length_nil] using v1.1, by simpa only [Tm.good, goods, List.length_nil] using v2.1, by simpa only [Tm.good, goods, List.length_nil] using v3.1, trivial⟩
    · simp [Tm.deep, deeps]
    · rw [Tm.enc_node]
      simp only [encs, f1, f2, f3, List.length_append, List.length_cons, List.length_nil] at *
      have := enc_len 3
      omega
  have hm := made_again hv
  rw [← el] at hm
  have hr : rowP (txnL c e q) = ((Tm.node (114 :: enc 3) [Tm.node (100 :: txt x1) [], Tm.node (100 :: txt x2) [], Tm.node (100 :: txt x3) []]).enc, 0) := hm
  have ht : txnT c e q = (Tm.node (114 :: enc 3) [Tm.node (100 :: txt x1) [], Tm.node (100 :: txt x2) [], Tm.node (100 :: txt x3) []]).enc := by unfold txnT; rw [hr]
  exact ⟨by rw [ht]; exact hr, by rw [ht]; exact check_enc hv⟩
theorem getN_cons {a : ByteArray} {r : List ByteArray} : getN (a :: r) = (rdN a).map fun v => (v, r) := rfl
theorem txnG_ok {c e q : Int} (h : mayX c e q = true) (r : List ByteArray) : txnG ((txnL c e q).map tb ++ r) = some ((c, e, q), r) := by
  obtain ⟨h1, h2, h3⟩ := mayX_iff.1 h
  have n1 := (rdN_num (v := c) (by omega) (by omega)).1
  have n2 := (rdN_num (v := e) (by omega) (by omega)).1
  have n3 := (rdN_num (v := q) (by omega) (by omega)).1
  simp only [txnG, txnL, List.map_cons, List.map_nil, List.cons_append, List.nil_append, getN_cons, n1, n2, n3, Option.map_some]
theorem txnR_ok {c e q : Int} (h : mayX c e q = true) : txnR (tb (txnT c e q)) = some (c, e, q) := by
  unfold txnR
  rw [rowR_row (l := txnL c e q) (by simp [txnL]) (txn_ok h).1]
  have := txnG_ok h []
  rw [List.append_nil] at this
  rw [this]
  simp only [endR, h, if_true]
theorem getN_again {l r : List ByteArray} {v : Int} (h : getN l = some (v, r)) : ∃ a, l = a :: r ∧ rdN a = some v := by
  cases l with
  | nil => cases h
  | cons a s =>
    rw [getN_cons, Option.map_eq_some_iff] at h
    obtain ⟨y, h1, h2⟩ := h
    simp only [Prod.mk.injEq] at h2
    obtain ⟨rfl, rfl⟩ := h2
    exact ⟨a, rfl, h1⟩
theorem txnG_again {l r : List ByteArray} {c e q : Int} (h : txnG l = some ((c, e, q), r)) : l.map bl = txnL c e q ++ r.map bl := by
  unfold txnG at h
  split at h
  · cases h
  · rename_i c' l1 k1
    split at h
    · cases h
    · rename_i e' l2 k2
      split at h
      · cases h
      · rename_i q' l3 k3
        simp only [Option.some.injEq, Prod.mk.injEq] at h
        obtain ⟨⟨rfl, rfl, rfl⟩, rfl⟩ := h
        obtain ⟨a, rfl, ha⟩ := getN_again k1
        obtain ⟨b, rfl, hb⟩ := getN_again k2
        obtain ⟨d, rfl, hd⟩ := getN_again k3
        simp only [txnL, List.map_cons, (rdN_again ha).2.2, (rdN_again hb).2.2, (rdN_again hd).2.2, List.cons_append, List.nil_append]
theorem txnR_again {t : ByteArray} {c e q : Int} (h : txnR t = some (c, e, q)) : mayX c e q = true ∧ bl t = txnT c e q := by
  unfold txnR at h
  split at h
  · rename_i c' e' q' k
    split at h
    · rename_i hm
      simp only [Option.some.injEq, Prod.mk.injEq] at h
      obtain ⟨rfl, rfl, rfl⟩ := h
      obtain ⟨k1, k2, _⟩ := rowR_again k
      have k3 := txnG_again k1
      rw [List.map_nil, List.append_nil] at k3
      rw [k3] at k2
      exact ⟨hm, by unfold txnT; rw [k2]⟩
    · cases h
  · cases h
theorem memR_ok {m : Mb} (h : (memT m).2 = 0) (ho : orgP m.1 = true) : rowR (tb (memT m).1) memG = some m := by
  have n1 := orgP_iff.1 ho
  have n2 := (rdN_num (v := m.1) (by omega) (by omega)).1
  have h' : rowP [(numP m.1).1, bl m.2] = ((memT m).1, 0) := row_ok h
  rw [rowR_row (by simp) h']
  simp only [memG, endR, List.map_cons, List.map_nil, getN_cons, n2, Option.map_some, tb_bl]
theorem memR_again {p : ByteArray} {m : Mb} (h : rowR p memG = some m) : memT m = (bl p, 0) := by
  obtain ⟨k1, k2, _⟩ := rowR_again h
  unfold memG at k1
  split at k1
  · cases k1
  · rename_i o l1 k
    split at k1
    · cases k1
    · rename_i d r
      simp only [Option.some.injEq, Prod.mk.injEq] at k1
      obtain ⟨rfl, rfl⟩ := k1
      obtain ⟨a, ha, hn⟩ := getN_again k
      rw [ha, List.map_cons, List.map_cons, List.map_nil] at k2
      unfold memT
      rw [(rdN_again hn).2.2]
      exact k2
theorem mayMs_all {c : Int} : ∀ {last : Int} {l : List Mb}, mayMs c last l = true → ∀ m ∈ l, orgP m.1 = true ∧ checkP (bl m.2) = 0 ∧ m.1 ≠ c
  | _, [], _, m, hm => by cases hm
  | last, x :: r, h, m, hm => by
    simp only [mayMs, Bool.and_eq_true] at h
    rcases List.mem_cons.1 hm with rfl | hm
    · have h1 := h.1
      simp only [mayM1, Bool.and_eq_true, termP, beq_iff_eq, Bool.not_eq_true', beq_eq_false_iff_ne] at h1
      exact ⟨h1.1.1.1, h1.2, h1.1.1.2⟩
    · exact mayMs_all h.2 m hm
theorem mayL_iff {c : Int} {l : List Mb} : mayL c l = true ↔ 1 ≤ l.length ∧ l.length ≤ 6 ∧ mayMs c (-1) l = true := by
  simp [mayL, Bool.and_eq_true, and_assoc]
theorem memsR_ok {l : List Mb} (h : ∀ m ∈ l, (memT m).2 = 0 ∧ orgP m.1 = true) : memsR ((l.map fun m => (memT m).1).map tb) = some l := by
  induction l with
  | nil => rfl
  | cons m l ih =>
    obtain ⟨h1, h2⟩ := h m (List.mem_cons_self ..)
    simp only [List.map_cons, memsR, memR_ok h1 h2]
    rw [ih (fun x hx => h x (List.mem_cons_of_mem _ hx))]
    rfl
theorem memsR_again : ∀ {ps : List ByteArray} {l : List Mb}, memsR ps = some l → (∀ m ∈ l, (memT m).2 = 0) ∧ (l.map fun m => (memT m).1) = ps.map bl
  | [], l, h => by
    obtain rfl := Option.some.inj h
    exact ⟨fun m hm => (by cases hm), rfl⟩
  | p :: ps, l, h => by
    simp only [memsR] at h
    split at h
    · cases h
    · rename_i m k
      rw [Option.map_eq_some_iff] at h
      obtain ⟨l', h1, rfl⟩ := h
      obtain ⟨g1, g2⟩ := memsR_again h1
      have hm := memR_again k
      refine ⟨fun x hx => ?_, ?_⟩
      · rcases List.mem_cons.1 hx with rfl | hx
        · rw [hm]
        · exact g1 x hx
      · rw [List.map_cons, List.map_cons, g2, hm]
theorem membersT_is {l : List Mb} (h : (membersT l).2 = 0) : (∀ m ∈ l, (memT m).2 = 0) ∧ rowP (l.map fun m => (memT m).1) = ((membersT l).1, 0) := by
  unfold membersT at h ⊢
  split at h
  · rename_i k
    rw [if_pos k]
    exact ⟨k, row_ok h⟩
  · cases h
theorem membersR_ok {c : Int} {l : List Mb} (hl : mayL c l = true) (h : (membersT l).2 = 0) : membersR c (tb (membersT l).1) = some l := by
  obtain ⟨h1, h2⟩ := membersT_is h
  obtain ⟨l1, l6, hm⟩ := mayL_iff.1 hl
  obtain ⟨k1, k2, _⟩ := row_read (by rw [List.length_map]; omega) h2
  have e : memsR (partsB (tb (membersT l).1)) = some l := by
    unfold partsB
    rw [bl_tb, k2]
    exact memsR_ok fun m hmm => ⟨h1 m hmm, (mayMs_all hm m hmm).1⟩
  unfold membersR
  rw [bl_tb, if_pos k1, e]
  simp only [hl, if_true]
theorem membersR_again {c : Int} {t : ByteArray} {l : List Mb} (h : membersR c t = some l) : mayL c l = true ∧ membersT l = (bl t, 0) := by
  unfold membersR at h
  split at h
  · rename_i k
    split at h
    · rename_i l' k1
      split at h
      · rename_i hm
        obtain rfl := Option.some.inj h
        obtain ⟨g1, g2⟩ := memsR_again k1
        refine ⟨hm, ?_⟩
        unfold membersT
        rw [if_pos g1, g2]
        unfold partsB
        rw [map_bl_tb]
        exact (row_again k).1
      · cases h
    · cases h
  · cases h
theorem bit_ok (b : Bool) : rdN (tb (numP (bitP b)).1) = some (bitP b) ∧ checkP (numP (bitP b)).1 = 0 := by cases b <;> exact rdN_num (by decide) (by decide)
theorem empty_of {x : ByteArray} (h : x.size = 0) : x = ByteArray.empty := by
  apply ByteArray.ext
  exact Array.eq_empty_of_size_eq_zero h
theorem bl_empty : bl ByteArray.empty = [] := rfl
theorem zero_votes {m : Ms} (h : votesP m = false) : m.yes = false ∧ m.tag = ByteArray.empty := by
  simp only [votesP, Bool.or_eq_false_iff, decide_eq_false_iff_not] at h
  exact ⟨h.1, empty_of (by omega)⟩
theorem zero_asks {m : Ms} (h : asksP m = false) : m.aud = 0 ∧ m.mem = [] ∧ m.body = ByteArray.empty := by
  simp only [asksP, Bool.or_eq_false_iff, decide_eq_false_iff_not, Bool.not_eq_false', beq_iff_eq] at h
  exact ⟨h.1.1, List.length_eq_zero_iff.1 (by omega), empty_of (by omega)⟩
theorem word_kind {k : Nat} (h1 : 1 ≤ k) (h6 : k ≤ 6) : kindOf (wordP k) = k := by
  have : k = 1 ∨ k = 2 ∨ k = 3 ∨ k = 4 ∨ k = 5 ∨ k = 6 := by omega
  rcases this with rfl | rfl | rfl | rfl | rfl | rfl <;> decide
theorem kind_word {w : List UInt8} (h : kindOf w ≠ 0) : w = wordP (kindOf w) ∧ 1 ≤ kindOf w ∧ kindOf w ≤ 6 := by
  unfold kindOf at h ⊢
  repeat (split; (first | (rename_i e; exact ⟨e, by decide, by decide⟩) | skip))
  exact absurd (by simp_all) h
theorem word_len (k : Nat) : (wordP k).length ≤ 8 := by
  unfold wordP
  repeat (split; simp)
  simp
theorem may_kind {m : Ms} (h : mayP m = true) : 1 ≤ m.kind ∧ m.kind ≤ 6 := by
  unfold mayP at h
  repeat (split at h; omega)
  cases h
theorem getP_ok {m : Ms} (h : mayP m = true) (hl : m.kind = 1 → (membersT m.mem).2 = 0) : getP m.kind (zeroM m.kind) ((fieldsP m).map tb) = some (m, []) := by
  have hk := may_kind h
  obtain ⟨k, c, e, q, aud, mem, body, yes, tag⟩ := m
  simp only at hk hl h ⊢
  have hc : k = 1 ∨ k = 2 ∨ k = 3 ∨ (k = 4 ∨ k = 5) ∨ k = 6 := by omega
  rcases hc with rfl | rfl | rfl | hk' | rfl
  · simp only [mayP, if_true, Bool.and_eq_true, Bool.not_eq_true'] at h
    obtain ⟨⟨⟨⟨hx, ho⟩, hm⟩, ht⟩, hv⟩ := h
    obtain ⟨z1, z2⟩ := zero_votes hv
    have ho' := orgP_iff.1 ho
    simp only at z1 z2
    subst z1 z2
    have n1 := (rdN_num (v := aud) (by omega) (by omega)).1
    simp only [getP, if_true, getPr, getX, fieldsP, List.map_cons, List.map_nil, txnR_ok hx, zeroM, getN_cons, n1, Option.map_some, membersR_ok hm (hl rfl), tb_bl]
  · simp only [mayP, if_true, Bool.and_eq_true, Bool.not_eq_true', if_neg (show ¬ (2 = 1) by decide)] at h
    obtain ⟨⟨hx, ha⟩, hy⟩ := h
    obtain ⟨z1, z2, z3⟩ := zero_asks ha
    simp only at z1 z2 z3
    subst z1 z2 z3
    cases yes with
    | true =>
      have b1 : rdN (tb (numP 1).1) = some 1 := (bit_ok true).1
      simp [getP, getV, getD12, getX, fieldsP, txnR_ok hx, zeroM, getN_cons, b1, tb_bl, bitP]
    | false =>
      have hv : votesP ⟨2, c, e, q, 0, [], ByteArray.empty, false, tag⟩ = false := by simpa using hy
      obtain ⟨_, z⟩ := zero_votes hv
      simp only at z
      subst z
      have b1 : rdN (tb (numP 0).1) = some 0 := (bit_ok false).1
      simp [getP, getV, getD12, getX, fieldsP, txnR_ok hx, zeroM, getN_cons, b1, bitP]
  · simp only [mayP, if_true, Bool.and_eq_true, Bool.not_eq_true', if_neg (show ¬ (3 = 1) by decide), if_neg (show ¬ (3 = 2) by decide), decide_eq_true_eq] at h
    obtain ⟨⟨hx, ha⟩, hy⟩ := h
    obtain ⟨z1, z2, z3⟩ := zero_asks ha
    have z4 := empty_of hy
    simp only at z1 z2 z3 z4
    subst z1 z2 z3 z4
    simp only [getP, if_true, getD12, getX, fieldsP, List.map_cons, List.map_nil, txnR_ok hx, zeroM, getN_cons, (bit_ok _).1, Option.map_some, if_neg (show ¬ (3 = 1) by decide), if_neg (show ¬ (3 = 2) by decide)]
    cases yes <;> simp [bitP]
  · have n1 : k ≠ 1 := by omega
    have n2 : k ≠ 2 := by omega
    have n3 : k ≠ 3 := by omega
    simp only [mayP, if_neg n1, if_neg n2, if_neg n3, if_pos hk', Bool.and_eq_true, Bool.not_eq_true'] at h
    obtain ⟨⟨hx, ha⟩, hv⟩ := h
    obtain ⟨z1, z2, z3⟩ := zero_asks ha
    obtain ⟨z4, z5⟩ := zero_votes hv
    simp only at z1 z2 z3 z4 z5
    subst z1 z2 z3 z4 z5
    simp only [getP, if_neg n1, if_neg n2, if_neg n3, if_pos hk', getX, fieldsP, List.map_cons, List.map_nil, txnR_ok hx, zeroM]
  · simp only [mayP, if_true, Bool.and_eq_true, Bool.not_eq_true', if_neg (show ¬ (6 = 1) by decide), if_neg (show ¬ (6 = 2) by decide), if_neg (show ¬ (6 = 3) by decide), if_neg (show ¬ (6 = 4 ∨ 6 = 5) by decide), decide_eq_true_eq] at h
    obtain ⟨⟨⟨x1, x2, x3⟩, ha⟩, hv⟩ := h
    obtain ⟨z1, z2, z3⟩ := zero_asks ha
    obtain ⟨z4, z5⟩ := zero_votes hv
    simp only at z1 z2 z3 z4 z5
    subst z1 z2 z3 z4 z5 x1 x2 x3
    simp [getP, fieldsP, zeroM]
theorem getX_again {m m' : Ms} {l r : List ByteArray} (h : getX m l = some (m', r)) : l.map bl = txnT m'.c m'.e m'.q :: r.map bl ∧ m' = { m with c := m'.c, e := m'.e, q := m'.q } := by
  unfold getX at h
  split at h
  · cases h
  · rename_i a r'
    split at h
    · cases h
    · rename_i c e q k
      simp only [Option.some.injEq, Prod.mk.injEq] at h
      obtain ⟨rfl, rfl⟩ := h
      exact ⟨by rw [List.map_cons, (txnR_again k).2], rfl⟩
theorem getD_again {m m' : Ms} {l r : List ByteArray} (h : getD12 m l = some (m', r)) : l.map bl = txnT m'.c m'.e m'.q :: (numP (bitP m'.yes)).1 :: r.map bl ∧ m' = { m with c := m'.c, e := m'.e, q := m'.q, yes := m'.yes } := by
  unfold getD12 at h
  split at h
  · cases h
  · rename_i m1 l1 k1
    obtain ⟨g1, g2⟩ := getX_again k1
    split at h
    · cases h
    · rename_i v r' k2
      split at h
      · rename_i hv
        simp only [Option.some.injEq, Prod.mk.injEq] at h
        obtain ⟨rfl, rfl⟩ := h
        obtain ⟨a, rfl, ha⟩ := getN_again k2
        obtain ⟨a1, a2, a3⟩ := rdN_again ha
        refine ⟨?_, by rw [g2]⟩
        rw [g1, List.map_cons]
        have : bitP (v == 1) = v := by
          have : v = 0 ∨ v = 1 := by omega
          rcases this with rfl | rfl <;> decide
        simp only [this, a3]
      · cases h
theorem getP_again {k : Nat} {m : Ms} {l : List ByteArray} (h : getP k (zeroM k) l = some (m, [])) (hk : 1 ≤ k ∧ k ≤ 6) : l.map bl = fieldsP m ∧ m.kind = k ∧ (k = 1 → (membersT m.mem).2 = 0) := by
  have hc : k = 1 ∨ k = 2 ∨ k = 3 ∨ (k = 4 ∨ k = 5) ∨ k = 6 := by omega
  rcases hc with rfl | rfl | rfl | hk' | rfl
  · simp only [getP, if_true] at h
    unfold getPr at h
    split at h
    · cases h
    · rename_i m1 l1 k1
      obtain ⟨g1, g2⟩ := getX_again k1
      split at h
      · cases h
      · rename_i v l2 k2
        obtain ⟨a, rfl, ha⟩ := getN_again k2
        split at h
        · cases h
        · rename_i a2 l3
          split at h
          · cases h
          · rename_i mm k3
            obtain ⟨q1, q2⟩ := membersR_again k3
            split at h
            · cases h
            · rename_i b r
              simp only [Option.some.injEq, Prod.mk.injEq] at h
              obtain ⟨rfl, rfl⟩ := h
              have hk1 : m1.kind = 1 := by rw [g2]; rfl
              refine ⟨?_, hk1, fun _ => by rw [q2]⟩
              rw [g1]
              simp only [fieldsP, hk1, if_true, q2, (rdN_again ha).2.2, List.map_cons, List.map_nil]
  · simp only [getP, if_true, if_neg (show ¬ (2 = 1) by decide)] at h
    unfold getV at h
    split at h
    · cases h
    · rename_i m1 l1 k1
      obtain ⟨g1, g2⟩ := getD_again k1
      have hk1 : m1.kind = 2 := by rw [g2]; rfl
      split at h
      · rename_i hy
        split at h
        · cases h
        · rename_i a r
          simp only [Option.some.injEq, Prod.mk.injEq] at h
          obtain ⟨rfl, rfl⟩ := h
          refine ⟨?_, hk1, fun e => by cases e⟩
          rw [g1]
          simp [fieldsP, hk1, hy]
      · rename_i hy
        simp only [Option.some.injEq, Prod.mk.injEq] at h
        obtain ⟨rfl, rfl⟩ := h
        refine ⟨?_, hk1, fun e => by cases e⟩
        rw [g1]
        simp [fieldsP, hk1, hy]
  · simp only [getP, if_true, if_neg (show ¬ (3 = 1) by decide), if_neg (show ¬ (3 = 2) by decide)] at h
    obtain ⟨g1, g2⟩ := getD_again h
    have hk1 : m.kind = 3 := by rw [g2]; rfl
    refine ⟨?_, hk1, fun e => by cases e⟩
    rw [g1]
    simp [fieldsP, hk1]
  · have n1 : k ≠ 1 := by omega
    have n2 : k ≠ 2 := by omega
    have n3 : k ≠ 3 := by omega
    simp only [getP, if_neg n1, if_neg n2, if_neg n3, if_pos hk'] at h
    obtain ⟨g1, g2⟩ := getX_again h
    have hk1 : m.kind = k := by rw [g2]; rfl
    refine ⟨?_, hk1, fun e => absurd e n1⟩
    rw [g1]
    simp [fieldsP, hk1, n1, n2, n3, hk']
  · simp only [getP, if_neg (show ¬ (6 = 1) by decide), if_neg (show ¬ (6 = 2) by decide), if_neg (show ¬ (6 = 3) by decide), if_neg (show ¬ (6 = 4 ∨ 6 = 5) by decide)] at h
    simp only [Option.some.injEq, Prod.mk.injEq] at h
    obtain ⟨rfl, rfl⟩ := h
    refine ⟨?_, rfl, fun e => by cases e⟩
    simp [fieldsP, zeroM]
theorem fields_len (m : Ms) : (fieldsP m).length ≤ 4 := by
  unfold fieldsP
  repeat' split
  all_goals simp
/-- What is encoded is read. -/
theorem dec_enc {m : Ms} {s : List UInt8} (h : encP m = (s, 0)) : mayP m = true ∧ decP (tb s) = some m := by
  unfold encP at h
  split at h
  · cases h
  · rename_i hm
    have hm : mayP m = true := by simpa using hm
    split at h
    · cases h
    · rename_i hl
      have hl' : m.kind = 1 → (membersT m.mem).2 = 0 := fun e => by
        by_cases z : (membersT m.mem).2 = 0
        · exact z
        · exact absurd ⟨e, z⟩ hl
      obtain ⟨k1, k6⟩ := may_kind hm
      have hw := word_kind k1 k6
      obtain ⟨d1, d2, d3, d4⟩ := data_read (x := wordP m.kind) (by have := word_len m.kind; omega)
      refine ⟨hm, ?_⟩
      have hf := fields_len m
      have hg : msgG (((dataP (wordP m.kind)).1 :: fieldsP m).map tb) = some (m, []) := by
        rw [d1, List.map_cons]
        simp only [msgG, kindR, bl_tb, d2, d3, hw, if_true, if_neg (show m.kind ≠ 0 by omega), getP_ok hm hl']
      unfold decP
      rw [rowR_row (by rw [List.length_cons]; omega) h, hg]
      simp only [endR, hm, if_true]
/-- What is read is encoded as it was. -/
theorem enc_dec {t : ByteArray} {m : Ms} (h : decP t = some m) : mayP m = true ∧ encP m = (bl t, 0) := by
  unfold decP at h
  split at h
  · rename_i m' k
    split at h
    · rename_i hm
      obtain rfl := Option.some.inj h
      refine ⟨hm, ?_⟩
      obtain ⟨g1, g2, g3, _⟩ := rowR_again k
      unfold msgG at g1
      split at g1
      · cases g1
      · rename_i w r e
        split at g1
        · cases g1
        · rename_i k' kr
          unfold kindR at kr
          split at kr
          · rename_i k1
            split at kr
            · cases kr
            · rename_i k0
              obtain rfl := Option.some.inj kr
              obtain ⟨kw, b1, b6⟩ := kind_word k0
              obtain ⟨q1, q2, q3⟩ := getP_again g1 ⟨b1, b6⟩
              obtain ⟨x, hx, es, et⟩ := data_again k1
              have hd : dataP (wordP m'.kind) = (bl w, 0) := by
                rw [q2, ← kw, et, es]
                exact (data_read hx).1
              unfold encP
              rw [if_neg (by rw [hm]; decide), if_neg (fun z => z.2 (q3 (q2 ▸ z.1))), hd, ← q1]
              rw [e, List.map_cons] at g2
              exact g2
          · cases kr
    · cases h
  · cases h
theorem enc_same {m n : Ms} {s : List UInt8} (h : encP m = (s, 0)) (k : encP n = (s, 0)) : m = n := Option.some.inj ((dec_enc h).2.symm.trans (dec_enc k).2)
end Go.Proofs.YthemopejebioaaaGreat.Pl
