/- ReadMembers of wire. The map of what each kind of messages names; the word of a kind; the kind of a word. The kind of a word: the map is ranged over. How wire reads the fields of a message: a transaction; a decision; a vote. How wire reads the fields of a message: a decision; a vote. -/
import Derived.Test.YthemopejebioaaaGreatWireY9
namespace Go.Proofs.YthemopejebioaaaGreat.Pl
open Go.RowKit

/-- What ReadMembers's closure leaves. -/
def RdMem (c : Int) (t : ByteArray) (w : World) (z : Nat) (V : World) : Prop := (z = if (membersR c t).isSome then 0 else 7) ∧ (∃ v, Boxed V (w.heap.size + 2) 24 v ∧ OwnM V (w.heap.size + 4) v ((membersR c t).getD [])) ∧ Below w.heap.size w V
set_option maxHeartbeats 4000000 in
set_option maxRecDepth 100000 in
theorem readmem1_any (c e q : Int) (t : ByteArray) (ht : t.size ≤ 281474976710656) (w W : World) (hs : W.heap.size = w.heap.size + 4) (h0 : XAt W w.heap.size c e q) (hb : Boxed W (w.heap.size + 1) 9 (.string t)) (h2 : Boxed W (w.heap.size + 2) 24 (.slice none 0 0)) (h3 : Boxed W (w.heap.size + 3) 30 (.int .i64 0)) (hB : Below w.heap.size w W) :
    Calls Tryz.prog 62 #[ptr12 w.heap.size, ptr12 (w.heap.size + 1), ptr12 (w.heap.size + 2)] W (DonePost (w.heap.size + 3) (RdMem c t w)) := by
  have HT := members12_any c e q t ht W
  rw [hs] at HT
  have hg : ∀ z V, RdMem c t w z V ↔ (z = if (membersR c t).isSome then 0 else 7) ∧ (∃ v, Boxed V (w.heap.size + 2) 24 v ∧ OwnM V (w.heap.size + 4) v ((membersR c t).getD [])) ∧ Below w.heap.size w V := fun _ _ => Iff.rfl
  have c0 := hb.cell
  obtain ⟨x0, x1, x2, -⟩ := h0.cells
  have HS := Lib.hid hs
  have HB3 := Lib.hid h3
  have HB2 := Lib.hid h2
  have HBB := Lib.hid hB
  clear hB h3 hb h2 h0 hs
  cases hr : membersR c t with
  | none =>
    rw [hr] at HT hg
    simp only at HT
    have HT := Lib.hid HT
    have HG := Lib.hid hg
    clear hg
    go_enter Tryz.func62, Tryz.ntmps62
    go_wp2_with (first | (go_at_call 63; refine HT.out.mono ?_; rintro e1 V ⟨rfl, b1⟩) | fail)
    rw [← HS.out] at b1
    exact ⟨by first | rfl | trivial, (b1.block _ (by rw [HS.out]; omega)).trans HB3.out, .inr ⟨7, rfl, (HG.out _ _).2 ⟨rfl, ⟨_, (b1.block _ (by rw [HS.out]; omega)).trans HB2.out, ownM_nil _ _⟩, below_step HBB.out b1⟩⟩⟩
  | some l =>
    rw [hr] at HT hg
    simp only at HT
    have HT := Lib.hid HT
    have HG := Lib.hid hg
    clear hg
    go_enter Tryz.func62, Tryz.ntmps62
    go_wp2_with (first | (go_at_call 63; refine HT.out.mono ?_; rintro e1 V ⟨⟨v, rfl, ho⟩, b1⟩; rw [← HS.out] at b1; obtain ⟨ao, cap, rfl, -⟩ := ownM_row ho; have hb2 : Boxed V (w.heap.size + 2) 24 (.slice none 0 0) := (b1.block _ (by rw [HS.out]; omega)).trans HB2.out; have c2 := hb2.cell; have f2 := hb2.frozen) | fail)
    go_end0
    have tr := turn_cell V (w.heap.size + 2) 0 (.slice ao l.length cap)
    have hlt := b1.size
    have hsz := HS.out
    exact ⟨(tr.block _ (by omega) (by omega)).trans ((b1.block _ (by omega)).trans HB3.out), .inl ⟨rfl, (HG.out _ _).2 ⟨rfl, ⟨_, hb2.set _, ownM_turn ho tr (fun k e => by omega)⟩, (below_step HBB.out b1).trans (turn_to tr (fun b e => by omega) (by have := HBB.out.size; omega))⟩⟩⟩
theorem call_readmem1 (args : Array Value) (V : World) : (callFunc 62 args).run Tryz.prog V = .ok (.enter 62 args) V := by kernel_rfl
set_option maxHeartbeats 4000000 in
set_option maxRecDepth 100000 in
theorem readmem12_any (c e q : Int) (t : ByteArray) (ht : t.size ≤ 281474976710656) (w : World) : Calls Tryz.prog 29 #[.agg #[.int .i64 c, .int .i64 e, .int .i64 q], .string t] w fun x w' => (∃ v, x = .returned (.tuple #[v, .bool (membersR c t).isSome]) ∧ OwnM w' w.heap.size v ((membersR c t).getD [])) ∧ Below w.heap.size w w' := by
  obtain ⟨W0, hW0⟩ : ∃ V, V = ((w.alloc (.cells #[.int .i64 c, .int .i64 e, .int .i64 q] 23)).alloc (.cells #[.string t] 9)).alloc (.cells #[.slice none 0 0] 24) := ⟨_, rfl⟩
  have sz : W0.heap.size = w.heap.size + 3 := by rw [hW0]; simp
  have h0 : XAt W0 w.heap.size c e q := by
    rw [hW0]
    exact (xat_new w c e q).below (((Below.refl _ _).alloc (Nat.le_refl _) _).alloc (by simp) _)
  have hb : Boxed W0 (w.heap.size + 1) 9 (.string t) := by rw [hW0]; have h := (Boxed.new (w.alloc (.cells #[.int .i64 c, .int .i64 e, .int .i64 q] 23)) 9 (.string t)).alloc (.cells #[.slice none 0 0] 24); simpa using h
  have h2 : Boxed W0 (w.heap.size + 2) 24 (.slice none 0 0) := by rw [hW0]; have h := Boxed.new ((w.alloc (.cells #[.int .i64 c, .int .i64 e, .int .i64 q] 23)).alloc (.cells #[.string t] 9)) 24 (.slice none 0 0); simpa using h
  have B0 : Below w.heap.size w W0 := by rw [hW0]; exact (((Below.refl _ w).alloc (Nat.le_refl _) _).alloc (by simp) _).alloc (by simp; omega) _
  have ba := (Below.refl W0.heap.size W0).alloc (Nat.le_refl _) (.cells #[.int .i64 0] 30)
  have h3 : Boxed (W0.alloc (.cells #[.int .i64 0] 30)) (w.heap.size + 3) 30 (.int .i64 0) := by rw [← sz]; exact Boxed.new _ _ _
  have HC := caught_any 62 #[ptr12 w.heap.size, ptr12 (w.heap.size + 1), ptr12 (w.heap.size + 2)] call_readmem1 W0 (RdMem c t w) (by
    rw [sz]
    exact readmem1_any c e q t ht w _ (by simp [sz]) (h0.below ba) ((ba.block _ (by omega)).trans hb) ((ba.block _ (by omega)).trans h2) h3 (below_step B0 ba))
  rw [sz] at HC
  have HC2 : Calls Tryz.prog 34 #[.func (.func 62) #[] #[ptr12 w.heap.size, ptr12 (w.heap.size + 1), ptr12 (w.heap.size + 1 + 1)]] W0 (fun x V => x = .returned (.int .i64 ((if (membersR c t).isSome then 0 else 7 : Nat) : Int)) ∧ (∃ v, Boxed V (w.heap.size + 1 + 1) 24 v ∧ OwnM V w.heap.size v ((membersR c t).getD [])) ∧ Below w.heap.size w V) := by
    refine HC.mono ?_
    rintro e V ⟨z, V1, rfl, ⟨rfl, ⟨v, hv, ho⟩, bV⟩, rfl⟩
    have tc := turn_cell V1 (w.heap.size + 3) 0 (.int .i64 ((if (membersR c t).isSome then 0 else 7 : Nat) : Int))
    exact ⟨rfl, ⟨v, (tc.block _ (Array.getElem?_eq_some_iff.1 hv).1 (by omega)).trans hv, ownM_low (ownM_turn ho tc (fun k e => by omega)) (by omega)⟩, bV.trans (turn_to tc (fun b e => by omega) bV.size)⟩
  clear HC
  generalize (membersR c t).isSome = ok at *
  generalize (membersR c t).getD [] = r at *
  have HW0 := Lib.hid hW0
  clear hW0 sz hb h0 h2 B0 ba h3
  cases ok
  · have HC := Lib.hid HC2
    clear HC2
    go_enter Tryz.func29, Tryz.ntmps29
    go_wp2_with (first | (go_at_call 34; rw [← HW0.out]; refine HC.out.mono ?_; rintro e1 V ⟨rfl, ⟨v, hv, ho⟩, bV⟩; obtain ⟨ao, cap, rfl, -⟩ := ownM_row ho; have c0 := hv.cell) | fail)
    go_ret2
    exact ⟨⟨_, rfl, ho⟩, bV⟩
  · have HC := Lib.hid HC2
    clear HC2
    go_enter Tryz.func29, Tryz.ntmps29
    go_wp2_with (first | (go_at_call 34; rw [← HW0.out]; refine HC.out.mono ?_; rintro e1 V ⟨rfl, ⟨v, hv, ho⟩, bV⟩; obtain ⟨ao, cap, rfl, -⟩ := ownM_row ho; have c0 := hv.cell) | fail)
    go_ret2
    exact ⟨⟨_, rfl, ho⟩, bV⟩
end Go.Proofs.YthemopejebioaaaGreat.Pl

namespace Go.Proofs.YthemopejebioaaaGreat.Pl
open Go.RowKit Go.Maps
open Go.WideElems (rg)

def mayF (k : Nat) : FuncId := if k = 1 then 67 else if k = 2 then 70 else if k = 3 then 73 else if k = 4 ∨ k = 5 then 76 else 79
def putF (k : Nat) : FuncId := if k = 1 then 68 else if k = 2 then 71 else if k = 3 then 74 else if k = 4 ∨ k = 5 then 77 else 80
def getF (k : Nat) : FuncId := if k = 1 then 69 else if k = 2 then 72 else if k = 3 then 75 else if k = 4 ∨ k = 5 then 78 else 81
abbrev nameV (k : Nat) : Value := .agg #[.string (tb (wordP k)), .func (.func (mayF k)) #[] #[], .func (.func (putF k)) #[] #[], .func (.func (getF k)) #[] #[]]
def namT : List (Lit × Value) := [(.int .u8 1, nameV 1), (.int .u8 2, nameV 2), (.int .u8 3, nameV 3), (.int .u8 4, nameV 4), (.int .u8 5, nameV 5), (.int .u8 6, nameV 6)]
theorem zero_nam (w : World) : (zeroValue 59).run Tryz.prog w = .ok (.agg #[.string ⟨#[]⟩, .nilFunc, .nilFunc, .nilFunc]) w := by kernel_rfl
theorem field_word (a : ByteArray) (b c d : Value) (w : World) : (Instr.field 59 (.agg #[.string a, b, c, d]) 0).run Tryz.prog w = .ok (.string a) w := by kernel_rfl
theorem field_put (a b d : Value) (f : Fn) (x y : Array Value) (w : World) : (Instr.field 59 (.agg #[a, b, .func f x y, d]) 2).run Tryz.prog w = .ok (.func f x y) w := by kernel_rfl
theorem field_get (a b c : Value) (f : Fn) (x y : Array Value) (w : World) : (Instr.field 59 (.agg #[a, b, c, .func f x y]) 3).run Tryz.prog w = .ok (.func f x y) w := by kernel_rfl
set_option maxHeartbeats 8000000 in
set_option maxRecDepth 100000 in
theorem namings_any (w : World) : Calls Tryz.prog 33 #[] w fun e w' => (∃ m, e = .returned (.map (some m)) ∧ MapV w' 5 m namT) ∧ Below w.heap.size w w' := by
  have hmm := @run_makeMap Tryz.prog
  have M0 := mapV_new w 5
  have B0 : Below w.heap.size w (w.alloc (.map #[] 0)) := (Below.refl _ _).alloc (Nat.le_refl _) _
  obtain ⟨w1, r1, M1, t1⟩ := M0.store (by simp) keyed_u8 Tryz.underlying60 (.int .u8 1) (.agg #[.string ⟨#[112, 114, 101, 112, 97, 114, 101]⟩, .func (.func 67) #[] #[], .func (.func 68) #[] #[], .func (.func 69) #[] #[]]) (.int .u8 1) (key_u8l (by decide)) trivial (by simp)
  have B1 := below_turned12 B0 B0.size t1 (Nat.le_refl _)
  obtain ⟨w2, r2, M2, t2⟩ := M1.store (by simp) keyed_u8 Tryz.underlying60 (.int .u8 2) (.agg #[.string ⟨#[118, 111, 116, 101]⟩, .func (.func 70) #[] #[], .func (.func 71) #[] #[], .func (.func 72) #[] #[]]) (.int .u8 2) (key_u8l (by decide)) trivial (by simp)
  have B2 := below_turned12 B1 B1.size t2 (Nat.le_refl _)
  obtain ⟨w3, r3, M3, t3⟩ := M2.store (by simp) keyed_u8 Tryz.underlying60 (.int .u8 3) (.agg #[.string ⟨#[100, 101, 99, 105, 115, 105, 111, 110]⟩, .func (.func 73) #[] #[], .func (.func 74) #[] #[], .func (.func 75) #[] #[]]) (.int .u8 3) (key_u8l (by decide)) trivial (by simp)
  have B3 := below_turned12 B2 B2.size t3 (Nat.le_refl _)
  obtain ⟨w4, r4, M4, t4⟩ := M3.store (by simp) keyed_u8 Tryz.underlying60 (.int .u8 4) (.agg #[.string ⟨#[97, 99, 107]⟩, .func (.func 76) #[] #[], .func (.func 77) #[] #[], .func (.func 78) #[] #[]]) (.int .u8 4) (key_u8l (by decide)) trivial (by simp)
  have B4 := below_turned12 B3 B3.size t4 (Nat.le_refl _)
  obtain ⟨w5, r5, M5, t5⟩ := M4.store (by simp) keyed_u8 Tryz.underlying60 (.int .u8 5) (.agg #[.string ⟨#[113, 117, 101, 114, 121]⟩, .func (.func 76) #[] #[], .func (.func 77) #[] #[], .func (.func 78) #[] #[]]) (.int .u8 5) (key_u8l (by decide)) trivial (by simp)
  have B5 := below_turned12 B4 B4.size t5 (Nat.le_refl _)
  obtain ⟨w6, r6, M6, t6⟩ := M5.store (by simp) keyed_u8 Tryz.underlying60 (.int .u8 6) (.agg #[.string ⟨#[104, 101, 108, 108, 111]⟩, .func (.func 79) #[] #[], .func (.func 80) #[] #[], .func (.func 81) #[] #[]]) (.int .u8 6) (key_u8l (by decide)) trivial (by simp)
  have B6 := below_turned12 B5 B5.size t6 (Nat.le_refl _)
  have HM := Lib.hid M6
  have HB := Lib.hid B6
  clear M0 B0 M1 B1 M2 B2 M3 B3 M4 B4 M5 B5 M6 B6 t1 t2 t3 t4 t5 t6
  go_enter Tryz.func33, Tryz.ntmps33
  go_wp2_with fail
  go_ret
  exact ⟨⟨_, rfl, HM.out⟩, HB.out⟩
theorem name_in {k : Nat} (h : 1 ≤ k ∧ k ≤ 6) : (Lit.int .u8 (k : Int), nameV k) ∈ namT := by
  have hf : k = 1 ∨ k = 2 ∨ k = 3 ∨ k = 4 ∨ k = 5 ∨ k = 6 := by omega
  rcases hf with rfl | rfl | rfl | rfl | rfl | rfl <;> (unfold namT; simp)
theorem name_out {k : Nat} (h : ¬ (1 ≤ k ∧ k ≤ 6)) : (Lit.int .u8 (k : Int)) ∉ namT.map Prod.fst := by
  unfold namT
  simp only [List.map_cons, List.map_nil, List.mem_cons, List.not_mem_nil, or_false, Lit.int.injEq, true_and]
  omega
theorem word_none {k : Nat} (h : ¬ (1 ≤ k ∧ k ≤ 6)) : wordP k = [] := by
  unfold wordP
  rw [if_neg (by omega), if_neg (by omega), if_neg (by omega), if_neg (by omega), if_neg (by omega), if_neg (by omega)]
set_option maxHeartbeats 4000000 in
set_option maxRecDepth 100000 in
theorem word12_any (k : Nat) (hk : k ≤ 255) (w : World) : Calls Tryz.prog 14 #[.int .u8 k] w fun e w' => e = .returned (.string (tb (wordP k))) ∧ Below w.heap.size w w' := by
  have HN := Lib.hid (fun V => namings_any V)
  have HK := Lib.hid hk
  have hfw := field_word
  by_cases h : 1 ≤ k ∧ k ≤ 6
  · have HI : Hid ((Lit.int .u8 (k : Int), (.agg #[.string (tb (wordP k)), .func (.func (mayF k)) #[] #[], .func (.func (putF k)) #[] #[], .func (.func (getF k)) #[] #[]] : Value)) ∈ namT) := Lib.hid (name_in h)
    clear h
    generalize tb (wordP k) = wd at *
    generalize mayF k = f1 at *
    generalize putF k = f2 at *
    generalize getF k = f3 at *
    go_enter Tryz.func14, Tryz.ntmps14
    go_wp2_with (first | (go_at_call 33; refine (HN.out _).mono ?_; rintro e w1 ⟨⟨m, rfl, hm⟩, b1⟩) | (at_lookup; refine wpList_lookV rfl _ _ 60 false rfl _ _ _ rfl rfl (hm.look keyed_u8 Tryz.underlying60 (zero_nam _) (key_u8 HK.out) HI.out).1 ?_) | fail)
    go_ret
    exact ⟨rfl, b1⟩
  · have HI := Lib.hid (name_out h)
    rw [word_none h]
    clear h
    go_enter Tryz.func14, Tryz.ntmps14
    go_wp2_with (first | (go_at_call 33; refine (HN.out _).mono ?_; rintro e w1 ⟨⟨m, rfl, hm⟩, b1⟩) | (at_lookup; refine wpList_lookV rfl _ _ 60 false rfl _ _ _ rfl rfl (hm.miss keyed_u8 Tryz.underlying60 (zero_nam _) (key_u8 HK.out) HI.out).1 ?_) | fail)
    go_ret
    exact ⟨rfl, b1⟩
end Go.Proofs.YthemopejebioaaaGreat.Pl

namespace Go.Proofs.YthemopejebioaaaGreat.Pl
open Go.RowKit Go.Maps
open Go.WideElems (rg)

/-- D reads as just these pairs. -/
def PairsV (X : List (Lit × Value)) (D : DataW Value) : Prop := Maps.size D = X.length ∧ (∀ s, s ∉ X.map Prod.fst → Maps.has D s = false ∧ ∀ z, D.atKey s z = z) ∧ ∀ p ∈ X, Maps.has D p.1 = true ∧ ∀ z, D.atKey p.1 z = .held p.2
section
variable {ops : Array Oper} {rest : List Oper} {o : Oper} {a : Act} {Q : Exit → Act → World → Prop} {w : World}
theorem wpList_rangeV (hg : o.guard = none) (mo : Operand) (t e : TypeId) (hop : o.op = Op.range t mo) (ht : Tryz.prog.underlying t = some (.map 5 e)) (m : Nat) (X : List (Lit × Value)) (hm : a.eval mo = .map (some m)) (h : MapV w 5 m X)
    (hK : ∀ w' D, PairsV X D → w'.ranges Tryz.prog 5 valE m w.heap.size X.length D (Maps.has D) X.length → w.grownBy w' none → w'.heap.size = w.heap.size + 1 → wpList Tryz.prog ops Q rest (a.put o.dst (.pointer (some ⟨w.heap.size, 0, none⟩))) w') : wpList Tryz.prog ops Q (o :: rest) a w := by
  obtain ⟨D, h1, h2, h3⟩ := h
  refine wpList_range_own w hg mo t hop 5 e keyed_u8 ht valE m X.length D hm h1 ?_
  intro w' k1 k2 k3
  rw [h2] at k1
  exact hK w' D ⟨h2, h3⟩ k1 k2 k3
theorem wpList_nextV (hg : o.guard = none) (it : Operand) (hop : o.op = Op.next it false) (m r n : Nat) (X : List (Lit × Value)) (D : DataW Value) (left : Lit → Bool) (cnt : Nat) (hit : a.eval it = .pointer (some ⟨r, 0, none⟩))
    (h : w.ranges Tryz.prog 5 valE m r n D left cnt) (hD : PairsV X D)
    (hDone : (∀ kl, left kl = false) → wpList Tryz.prog ops Q rest (a.put o.dst (.tuple #[.bool false])) w)
    (hMore : ∀ (x : Int) (v : Value) (w' : World) (cnt' : Nat), (Lit.int .u8 x, v) ∈ X → w'.ranges Tryz.prog 5 valE m r n D (fun z => left z && !z.sameKey (.int .u8 x)) cnt' → cnt' < cnt → w.grownBy w' (some r) → w'.heap.size = w.heap.size →
      (Instr.entry (.pointer (some ⟨r, 0, none⟩))).run Tryz.prog w' = .ok (.tuple #[.int .u8 x, v]) w' → wpList Tryz.prog ops Q rest (a.put o.dst (.tuple #[.bool true, .int .u8 x, v])) w') :
    wpList Tryz.prog ops Q (o :: rest) a w := by
  refine wpList_next_ranges w hg it hop 5 keyed_u8 valE (fun x : Int => .int .u8 x) (fun v : Value => v) (fun key kl hk => by obtain ⟨x, hx, _⟩ := Maps.keyOf_int_inv Tryz.underlying5 hk; exact ⟨x, hx⟩) (fun v y hv => ⟨v, rfl⟩) m r n D left cnt hit h ?_ ?_
  · intro _ hl
    exact hDone hl
  · intro x v kl y w' cnt' hkey hlk hv hat hrg hlt hgr hsz hen
    obtain ⟨x', ex, rfl, _⟩ := Maps.keyOf_int_inv Tryz.underlying5 hkey
    obtain rfl : x = x' := by injection ex
    have hhas := Maps.has_true_of_atKey hat
    have hin : (Lit.int .u8 x) ∈ X.map Prod.fst := by
      apply Classical.byContradiction
      intro hn
      rw [(hD.2.1 _ hn).1] at hhas
      cases hhas
    obtain ⟨p, hp, ep⟩ := List.mem_map.1 hin
    have hc := (hat (.nil)).symm.trans (ep ▸ (hD.2.2 p hp).2 .nil)
    have hv' : v = p.2 := by
      have hv2 : valE v = some y := hv
      have : y = (.held v, []) := (Option.some.inj hv2).symm
      rw [this] at hc
      injection hc
    refine hMore x v w' cnt' ?_ hrg hlt hgr hsz hen
    rw [hv', ← ep]
    exact hp
end
theorem str_ne12 {a b : ByteArray} (h : a ≠ b) : (a.toList == b.toList) = false ∧ (a.toList != b.toList) = true := by
  have h' : a.toList ≠ b.toList := fun e => h (by
    rw [Lib.toList_data, Lib.toList_data] at e
    apply ByteArray.ext
    exact Array.ext' e)
  exact ⟨beq_eq_false_iff_ne.2 h', bne_iff_ne.2 h'⟩

set_option maxHeartbeats 1000000 in
set_option maxRecDepth 100000 in
theorem below_grown12 {w w' : World} (h : Below w.heap.size w w') (r : Option Nat) : w.grownBy w' r := ⟨h.os, h.tape, h.output, h.size, fun k hk _ => h.block k hk⟩
theorem range_below12 {w w' : World} {m r n cnt : Nat} {D : DataW Value} {left : Lit → Bool} (h : w.ranges Tryz.prog 5 valE m r n D left cnt) (hb : Below w.heap.size w w') : w'.ranges Tryz.prog 5 valE m r n D left cnt := h.kept (below_grown12 hb none) (by simp) (by simp)
theorem nam_mem {x : Int} {v : Value} (h : (Lit.int .u8 x, v) ∈ namT) : ∃ k : Nat, 1 ≤ k ∧ k ≤ 6 ∧ x = k ∧ v = .agg #[.string (tb (wordP k)), .func (.func (mayF k)) #[] #[], .func (.func (putF k)) #[] #[], .func (.func (getF k)) #[] #[]] := by
  unfold namT at h
  simp only [List.mem_cons, Prod.mk.injEq, Lit.int.injEq, true_and, List.not_mem_nil, or_false] at h
  rcases h with ⟨rfl, rfl⟩ | ⟨rfl, rfl⟩ | ⟨rfl, rfl⟩ | ⟨rfl, rfl⟩ | ⟨rfl, rfl⟩ | ⟨rfl, rfl⟩
  · exact ⟨1, by decide, by decide, rfl, rfl⟩
  · exact ⟨2, by decide, by decide, rfl, rfl⟩
  · exact ⟨3, by decide, by decide, rfl, rfl⟩
  · exact ⟨4, by decide, by decide, rfl, rfl⟩
  · exact ⟨5, by decide, by decide, rfl, rfl⟩
  · exact ⟨6, by decide, by decide, rfl, rfl⟩
theorem kindOf_none {w : List UInt8} (h : ∀ k, 1 ≤ k ∧ k ≤ 6 → w ≠ wordP k) : kindOf w = 0 := by
  unfold kindOf
  rw [if_neg (h 1 (by decide)), if_neg (h 2 (by decide)), if_neg (h 3 (by decide)), if_neg (h 4 (by decide)), if_neg (h 5 (by decide)), if_neg (h 6 (by decide))]
theorem nam_info (a b c d : Value) : (Tryz.prog.info? 59).map (·.size) = some (#[a, b, c, d].size) := by kernel_rfl
theorem nam_one (a : ByteArray) (f g h : Fn) : (#[.string a, .func f #[] #[], .func g #[] #[], .func h #[] #[]] : Array Value).all (·.oneCell') = true := by simp [Value.oneCell']
set_option maxHeartbeats 4000000 in
set_option maxRecDepth 100000 in
theorem kind12_any (t : ByteArray) (ht : t.size ≤ 281474976710656) (w : World) : Calls Tryz.prog 47 #[.string t] w fun e w' => e = Out12 (kindR t) (fun k => .int .u8 k) ∧ Below w.heap.size w w' := by
  have HK := fun V => tkind_any t ht V
  have HT := fun V => text6_any t ht V
  have HM := Lib.hid (fun V => namings_any V)
  have hz : kindR t = if kindP (bl t) = 1 then (if kindOf (textP (bl t)).1 = 0 then none else some (kindOf (textP (bl t)).1)) else none := rfl
  have h6 := kindP_le (bl t)
  generalize kindR t = z at *
  by_cases hk : kindP (bl t) = 1
  · rw [if_pos hk] at hz
    rw [hk] at HK
    have HK := Lib.hid HK
    clear hk h6
    generalize hp : textP (bl t) = p at *
    obtain ⟨s, ok⟩ := p
    rw [show tb2 (s, ok) = .tuple #[.string (tb s), .bool ok] from rfl] at HT
    dsimp only at hz
    have HT := Lib.hid HT
    have HZ := Lib.hid hz
    have hbl : Hid (bl (tb s) = s) := Lib.hid (bl_tb s)
    clear hz hp
    generalize tb s = S at *
    go_enter Tryz.func47, Tryz.ntmps47
    go_wp2_with (first | (go_at_call 89; refine (HK.out _).mono ?_; rintro e w1 ⟨rfl, b1⟩) | (go_at_call 48; refine (needw_ok 7 _).mono ?_; rintro e w2 ⟨rfl, hw2⟩; rw [hw2]; clear hw2 w2) | (go_at_call 91; refine (HT.out _).mono ?_; rintro e w3 ⟨rfl, b3⟩) | (go_at_call 33; refine (HM.out _).mono ?_; rintro e w4 ⟨⟨m, rfl, hm⟩, b4⟩) | (at_range; refine wpList_rangeV rfl _ _ _ rfl Tryz.underlying60 m namT rfl hm ?_; intro w0 D hD hrg0 hg0 hs0) | fail)
    go_frame
    have HD := Lib.hid hD
    have B4 := Lib.hid (below_step (below_step b1 b3) b4)
    have BG : Hid (Below w.heap.size w w0) := Lib.hid (B4.out.grown hg0 B4.out.size (fun j hj => by cases hj))
    have HRG := Lib.hid hrg0
    have HS4 : Hid (w.heap.size ≤ w4.heap.size ∧ w0.heap.size = w4.heap.size + 1) := Lib.hid ⟨B4.out.size, hs0⟩
    clear hD hrg0 hg0 hs0 b1 b3 b4 hm
    go_loopw [] (fun wr => ∃ (left : Lit → Bool) (cnt : Nat), Hid (wr.ranges Tryz.prog 5 valE m w4.heap.size namT.length D left cnt) ∧ Hid (∀ k : Nat, 1 ≤ k ∧ k ≤ 6 → left (.int .u8 k) = false → s ≠ wordP k) ∧ Hid (Below w.heap.size w wr) ∧ Hid (w4.heap.size < wr.heap.size)) (fun wr => wr.rangeLeft m w4.heap.size)
    case atStart =>
      refine ⟨_, _, HRG, Lib.hid (fun k hk hl => ?_), BG, Lib.hid (by rw [HS4.out.2]; exact Nat.lt_succ_self _)⟩
      have := (HD.out.2.2 _ (name_in hk)).1
      rw [this] at hl
      cases hl
    case round =>
      obtain ⟨left, cnt, hrg, hno, hb, hlt4⟩ := hrel
      go_wp2_with (first | (at_next; refine wpList_nextV rfl _ rfl m w4.heap.size namT.length namT D left cnt rfl hrg.out HD.out ?_ ?_) | fail)
      · intro hall
        have hz : z = none := by rw [HZ.out, kindOf_none (fun k hk => hno.out k hk (hall _)), if_pos rfl]
        subst hz
        go_wp2_with fail
        exact ⟨rfl, rfl, hb.out⟩
      · intro x v w1 cnt' hx hrg' hlt hg1 hs1 hen
        obtain ⟨k, hk1, hk6, rfl, rfl⟩ := nam_mem hx
        obtain ⟨W2, hW2, n0, k2, b2, s2⟩ := row_box w1 #[.string ⟨#[]⟩, .nilFunc, .nilFunc, .nilFunc] #[.string (tb (wordP k)), .func (.func (mayF k)) #[] #[], .func (.func (putF k)) #[] #[], .func (.func (getF k)) #[] #[]] 59
        have c0 : W2.cell? ⟨w1.heap.size, 0, none⟩ = some (.string (tb (wordP k))) := cell_of_row _ _ _ _ _ _ k2
        have hwd : wordP k = bl (tb (wordP k)) := rfl
        have hko : s = wordP k → kindOf s = k := fun e => by rw [e]; exact word_kind hk1 hk6
        have HNO : Hid (s ≠ wordP k → ∀ k' : Nat, 1 ≤ k' ∧ k' ≤ 6 → (left (.int .u8 k') && !(Lit.int .u8 k').sameKey (.int .u8 k)) = false → s ≠ wordP k') := Lib.hid (fun hne k' hk' hl => by
          by_cases e : k' = k
          · rw [e]; exact hne
          · rw [sameKey_ne (fun h => e (by injection h with _ h; omega))] at hl
            simp only [Bool.not_false, Bool.and_true] at hl
            exact hno.out k' hk' hl)
        have HSE : s = wordP k ↔ S = tb (wordP k) := ⟨fun e => by rw [← hbl.out] at e; exact bl_inj e, fun e => by rw [← hbl.out, e]; rfl⟩
        generalize tb (wordP k) = wd at *
        generalize mayF k = f1 at *
        generalize putF k = f2 at *
        generalize getF k = f3 at *
        have hB2 := hb.out.grown hg1 hb.out.size (fun j hj => by cases hj; exact HS4.out.1)
        have B2 := Lib.hid (below_step hB2 b2)
        have R2 := Lib.hid (range_below12 hrg' b2)
        have L2 : Hid (w4.heap.size < W2.heap.size) := Lib.hid (by have := hlt4.out; have := b2.size; omega)
        have HLT := Lib.hid hlt
        have N0 := Lib.hid n0
        have HW2 := Lib.hid hW2
        have HKB : Hid (1 ≤ k ∧ k ≤ 6) := Lib.hid ⟨hk1, hk6⟩
        clear hx hrg' hlt hg1 hs1 hB2 b2 s2 k2 hW2 n0 hwd
        by_cases hw : s = wordP k
        · have hz : z = some k := by rw [HZ.out, hko hw, if_neg (by omega)]
          subst hz
          obtain rfl := HSE.1 hw
          clear hko hw HSE HNO
          go_wp2_with (first | (refine wpList_store_row rfl 59 _ _ rfl w1.heap.size #[.string S, .func (.func f1) #[] #[], .func (.func f2) #[] #[], .func (.func f3) #[] #[]] rfl rfl 59 #[.string ⟨#[]⟩, .nilFunc, .nilFunc, .nilFunc] N0.out (nam_info _ _ _ _) rfl (nam_one _ _ _ _) ?_; rw [← HW2.out]) | fail)
          go_ret
          exact ⟨rfl, B2.out⟩
        · have hne := str_ne12 (fun e => hw (HSE.2 e.symm) : wd ≠ S)
          have hne1 := hne.1
          have HN2 := Lib.hid (HNO.out hw)
          clear hko hw HSE HNO hne
          go_wp2_with (first | (refine wpList_store_row rfl 59 _ _ rfl w1.heap.size #[.string wd, .func (.func f1) #[] #[], .func (.func f2) #[] #[], .func (.func f3) #[] #[]] rfl rfl 59 #[.string ⟨#[]⟩, .nilFunc, .nilFunc, .nilFunc] N0.out (nam_info _ _ _ _) rfl (nam_one _ _ _ _) ?_; rw [← HW2.out]) | fail)
          go_roundw
          case rel => exact ⟨_, cnt', R2, HN2, B2, L2⟩
          case measure => rw [R2.out.left_eq, hrg.out.left_eq]; exact HLT.out
  · have hz0 : z = none := hz.trans (if_neg hk)
    subst hz0
    have hk2 : ((kindP (bl t) : Nat) : Int) ≠ 1 := by omega
    have hk3 : (((kindP (bl t) : Nat) : Int) == 1) = false := beq_eq_false_iff_ne.2 hk2
    generalize kindP (bl t) = kd at *
    have HK := Lib.hid HK
    clear hz
    go_enter Tryz.func47, Tryz.ntmps47
    go_wp2_with (first | (go_at_call 89; refine (HK.out _).mono ?_; rintro e w1 ⟨rfl, b1⟩) | (go_at_call 48; refine (needw_bad 7 _).mono ?_; rintro e w2 ⟨rfl, hw2⟩; rw [hw2]; clear hw2 w2) | fail)
    exact ⟨by first | rfl | trivial, rfl, b1⟩
end Go.Proofs.YthemopejebioaaaGreat.Pl

namespace Go.Proofs.YthemopejebioaaaGreat.Pl
open Go.RowKit

/-- A message's cells, its members at v. -/
abbrev msC (m : Ms) (v : Value) : Array Value := #[.int .u8 m.kind, .int .i64 m.c, .int .i64 m.e, .int .i64 m.q, .int .i64 m.aud, v, .string m.body, .bool m.yes, .string m.tag]
/-- Block g is a message. -/
def GAt (w : World) (g : Nat) (m : Ms) (v : Value) : Prop := w.heap[g]? = some (.cells (msC m v) 26 (0, 0))
theorem GAt.lt {w : World} {g : Nat} {m : Ms} {v : Value} (h : GAt w g m v) : g < w.heap.size := (Array.getElem?_eq_some_iff.1 h).1
theorem GAt.turn {F : Nat → Prop} {w w' : World} {g : Nat} {m : Ms} {v : Value} (h : GAt w g m v) (ht : Turn F w w') (hx : ¬ F g) : GAt w' g m v := (ht.block g h.lt hx).trans h
theorem GAt.below {w w' : World} {g : Nat} {m : Ms} {v : Value} (h : GAt w g m v) (hb : Below w.heap.size w w') : GAt w' g m v := (hb.block g h.lt).trans h
theorem GAt.cells {w : World} {g : Nat} {m : Ms} {v : Value} (h : GAt w g m v) : w.cell? ⟨g, 0, none⟩ = some (.int .u8 m.kind) ∧ w.cell? ⟨g, 1, none⟩ = some (.int .i64 m.c) ∧ w.cell? ⟨g, 2, none⟩ = some (.int .i64 m.e) ∧ w.cell? ⟨g, 3, none⟩ = some (.int .i64 m.q) ∧ w.cell? ⟨g, 4, none⟩ = some (.int .i64 m.aud) ∧ w.cell? ⟨g, 5, none⟩ = some v ∧ w.cell? ⟨g, 6, none⟩ = some (.string m.body) ∧ w.cell? ⟨g, 7, none⟩ = some (.bool m.yes) ∧ w.cell? ⟨g, 8, none⟩ = some (.string m.tag) := by
  unfold GAt msC at h
  exact ⟨cell_of_row _ _ _ _ _ _ h, cell_of_row _ _ _ _ _ _ h, cell_of_row _ _ _ _ _ _ h, cell_of_row _ _ _ _ _ _ h, cell_of_row _ _ _ _ _ _ h, cell_of_row _ _ _ _ _ _ h, cell_of_row _ _ _ _ _ _ h, cell_of_row _ _ _ _ _ _ h, cell_of_row _ _ _ _ _ _ h⟩
theorem GAt.frozen {w : World} {g : Nat} {m : Ms} {v : Value} (h : GAt w g m v) (k : Nat) : w.frozen? ⟨g, k, none⟩ = false := by
  unfold GAt at h
  simp [World.frozen?, h]
theorem gset {w : World} {g : Nat} {cs : Array Value} {t : TypeId} (h : w.heap[g]? = some (.cells cs t (0, 0))) (k : Nat) (v : Value) : (w.setCell ⟨g, k, none⟩ v).heap[g]? = some (.cells (cs.setIfInBounds k v) t (0, 0)) := by
  rw [setCell_eq_setRow w g k _ _ (0, 0) _ h, setRow_heap w g _ _ _ _ h]
/-- A message that is being read. -/
def GSt (w0 : World) (g : Nat) (m : Ms) (V : World) : Prop := Turn (· = g) w0 V ∧ ∃ v, GAt V g m v ∧ OwnM V w0.heap.size v m.mem
theorem ownM_next {V V1 : World} {B b : Nat} {v u : Value} {l : List Mb} (h : OwnM V B v l) (hb : Boxed V b 53 u) (t1 : Turn (· = b) V V1) : OwnM V1 B v l := by
  refine ⟨h.1, ?_⟩
  rcases h.2 with hn | ⟨g, cap, cur, hv, hbg, hg, rest⟩
  · exact .inl hn
  · refine .inr ⟨g, cap, cur, hv, hbg, (t1.block g (Array.getElem?_eq_some_iff.1 hg).1 fun e => ?_).trans hg, rest⟩
    unfold Boxed at hb
    rw [← e, hg] at hb
    injection hb with hb
    injection hb with _ hb
    exact absurd hb (by decide)
theorem GSt.next {w0 : World} {g b : Nat} {m : Ms} {V V1 : World} {l : List ByteArray} (h : GSt w0 g m V) (hg : g < w0.heap.size) (hN : NextAt V w0.heap.size b l) (t1 : Turn (· = b) V V1) : GSt w0 g m V1 := by
  obtain ⟨hT, v, hG, hO⟩ := h
  have hb := hN.fresh
  obtain ⟨ao, cap, h1, _⟩ := hN
  exact ⟨turn_trans hT t1 (fun _ e => .inr (e ▸ hb)), v, hG.turn t1 (fun e => by omega), ownM_next hO h1 t1⟩
theorem GSt.below {w0 : World} {g : Nat} {m : Ms} {V V1 : World} (h : GSt w0 g m V) (b1 : Below V.heap.size V V1) : GSt w0 g m V1 := by
  obtain ⟨hT, v, hG, hO⟩ := h
  exact ⟨turn_trans hT (turn_none b1) (fun _ e => e.elim), v, hG.below b1, ownM_below hO b1⟩
theorem GSt.turnd {w0 : World} {g : Nat} {m : Ms} {V : World} (h : GSt w0 g m V) : Turn (· = g) w0 V := h.1
/-- The worlds behind a store of a transaction into a message. -/
theorem GSt.setX {w0 : World} {g : Nat} {m : Ms} {V : World} (h : GSt w0 g m V) (hg : g < w0.heap.size) (c e q : Int) : GSt w0 g { m with c := c, e := e, q := q } (((V.setCell ⟨g, 1, none⟩ (.int .i64 c)).setCell ⟨g, 2, none⟩ (.int .i64 e)).setCell ⟨g, 3, none⟩ (.int .i64 q)) := by
  obtain ⟨hT, v, hG, hO⟩ := h
  have t1 := turn_cell V g 1 (.int .i64 c)
  have t2 := turn_cell (V.setCell ⟨g, 1, none⟩ (.int .i64 c)) g 2 (.int .i64 e)
  have t3 := turn_cell ((V.setCell ⟨g, 1, none⟩ (.int .i64 c)).setCell ⟨g, 2, none⟩ (.int .i64 e)) g 3 (.int .i64 q)
  have hF : ∀ k, k = g → k < w0.heap.size := fun k e => e ▸ hg
  refine ⟨turn_trans (turn_trans (turn_trans hT t1 (fun _ e => .inl e)) t2 (fun _ e => .inl e)) t3 (fun _ e => .inl e), v, ?_, ownM_turn (ownM_turn (ownM_turn hO t1 hF) t2 hF) t3 hF⟩
  exact gset (gset (gset hG 1 _) 2 _) 3 _
set_option maxHeartbeats 4000000 in
set_option maxRecDepth 100000 in
theorem gettxn_any (w0 : World) (g b : Nat) (hg : g < w0.heap.size) (m : Ms) (l : List ByteArray) (V : World) (hN : NextAt V w0.heap.size b l) (hS : GSt w0 g m V) :
    Calls Tryz.prog 78 #[ptr12 g, nextV b] V (ReadP w0.heap.size b (getX m l) (GSt w0 g) (Turn (· = g) w0)) := by
  obtain ⟨z, hz⟩ : ∃ z, z = getX m l := ⟨_, rfl⟩
  rw [← hz]
  have HZ := Lib.hid hz
  have HN := Lib.hid hN
  have HS := Lib.hid hS
  have HG := Lib.hid hg
  clear hz hN hS hg
  go_enter Tryz.func78, Tryz.ntmps78
  go_wp2_with fail
  cases l with
  | nil =>
    have hz : z = none := by rw [HZ.out]; rfl
    subst hz
    refine (next_none _ b _ HN.out).mono ?_; rintro e V1 ⟨rfl, hw⟩; rw [hw]; clear hw V1
    go_wp2_with fail
    exact ⟨by first | rfl | trivial, rfl, HS.out.turnd⟩
  | cons a r =>
    have HSZ := Lib.hid (HN.out.size a (List.mem_cons_self ..))
    refine (next_some _ b a r _ HN.out).mono ?_; rintro e V1 ⟨rfl, n1, t1⟩
    have S1 := Lib.hid (HS.out.next HG.out HN.out t1)
    have N1 := Lib.hid n1
    clear n1 t1 HS HN
    go_wp2_with fail
    have HT := fun W => txn12_any a HSZ.out W
    cases hr : txnR a with
    | none =>
      rw [hr] at HT; simp only [Out12] at HT
      have hz : z = none := by rw [HZ.out]; simp [getX, hr]
      subst hz
      refine (HT _).mono ?_; rintro e V2 ⟨rfl, b2⟩
      have S2 := Lib.hid (S1.out.below b2)
      go_wp2_with fail
      exact ⟨by first | rfl | trivial, rfl, S2.out.turnd⟩
    | some x =>
      obtain ⟨c, e', q⟩ := x
      rw [hr] at HT; simp only [Out12] at HT
      have hz : z = some ({ m with c := c, e := e', q := q }, r) := by rw [HZ.out]; simp [getX, hr]
      subst hz
      refine (HT _).mono ?_; rintro e V2 ⟨rfl, b2⟩
      have S2 := Lib.hid (S1.out.below b2)
      have N2 := Lib.hid (N1.out.below b2)
      obtain ⟨v, hG, -⟩ := S2.out.2
      obtain ⟨x0, x1, x2, x3, x4, x5, x6, x7, x8⟩ := hG.cells
      have f1 := hG.frozen 1
      have f2 := hG.frozen 2
      have f3 := hG.frozen 3
      clear hG b2 S1 N1 HT
      go_wp2_with fail
      have N3 := ((N2.out.turn (turn_cell V2 g 1 (.int .i64 c)) (fun k e => e ▸ HG.out)).turn (turn_cell (V2.setCell ⟨g, 1, none⟩ (.int .i64 c)) g 2 (.int .i64 e')) (fun k e => e ▸ HG.out)).turn (turn_cell ((V2.setCell ⟨g, 1, none⟩ (.int .i64 c)).setCell ⟨g, 2, none⟩ (.int .i64 e')) g 3 (.int .i64 q)) (fun k e => e ▸ HG.out)
      go_end0
      exact ⟨rfl, N3, S2.out.setX HG.out c e' q⟩
end Go.Proofs.YthemopejebioaaaGreat.Pl

namespace Go.Proofs.YthemopejebioaaaGreat.Pl
open Go.RowKit

theorem GSt.setN {w0 : World} {g : Nat} {m : Ms} {V : World} (h : GSt w0 g m V) (hg : g < w0.heap.size) (v : Int) : GSt w0 g { m with aud := v } (V.setCell ⟨g, 4, none⟩ (.int .i64 v)) := by
  obtain ⟨hT, u, hG, hO⟩ := h
  have t1 := turn_cell V g 4 (.int .i64 v)
  exact ⟨turn_trans hT t1 (fun _ e => .inl e), u, gset hG 4 _, ownM_turn hO t1 (fun k e => e ▸ hg)⟩
theorem GSt.setB {w0 : World} {g : Nat} {m : Ms} {V : World} (h : GSt w0 g m V) (hg : g < w0.heap.size) (v : ByteArray) : GSt w0 g { m with body := v } (V.setCell ⟨g, 6, none⟩ (.string v)) := by
  obtain ⟨hT, u, hG, hO⟩ := h
  have t1 := turn_cell V g 6 (.string v)
  exact ⟨turn_trans hT t1 (fun _ e => .inl e), u, gset hG 6 _, ownM_turn hO t1 (fun k e => e ▸ hg)⟩
theorem GSt.setY {w0 : World} {g : Nat} {m : Ms} {V : World} (h : GSt w0 g m V) (hg : g < w0.heap.size) (v : Bool) : GSt w0 g { m with yes := v } (V.setCell ⟨g, 7, none⟩ (.bool v)) := by
  obtain ⟨hT, u, hG, hO⟩ := h
  have t1 := turn_cell V g 7 (.bool v)
  exact ⟨turn_trans hT t1 (fun _ e => .inl e), u, gset hG 7 _, ownM_turn hO t1 (fun k e => e ▸ hg)⟩
theorem GSt.setT {w0 : World} {g : Nat} {m : Ms} {V : World} (h : GSt w0 g m V) (hg : g < w0.heap.size) (v : ByteArray) : GSt w0 g { m with tag := v } (V.setCell ⟨g, 8, none⟩ (.string v)) := by
  obtain ⟨hT, u, hG, hO⟩ := h
  have t1 := turn_cell V g 8 (.string v)
  exact ⟨turn_trans hT t1 (fun _ e => .inl e), u, gset hG 8 _, ownM_turn hO t1 (fun k e => e ▸ hg)⟩
theorem GSt.setM {w0 : World} {g : Nat} {m : Ms} {V : World} (h : GSt w0 g m V) (hg : g < w0.heap.size) (v : Value) (l : List Mb) (hl : OwnM V w0.heap.size v l) : GSt w0 g { m with mem := l } (V.setCell ⟨g, 5, none⟩ v) := by
  obtain ⟨hT, u, hG, hO⟩ := h
  have t1 := turn_cell V g 5 v
  exact ⟨turn_trans hT t1 (fun _ e => .inl e), v, gset hG 5 _, ownM_turn hl t1 (fun k e => e ▸ hg)⟩
theorem NextAt.cell {V : World} {B b g k : Nat} {v : Value} {l : List ByteArray} (h : NextAt V B b l) (hg : g < B) : NextAt (V.setCell ⟨g, k, none⟩ v) B b l := h.turn (turn_cell V g k v) (fun _ e => e ▸ hg)
theorem rdB_is {a : ByteArray} {v : Int} (h : rdN a = some v) : rdB a = if v ≤ 1 then some (v == 1) else none := by unfold rdB; rw [h]
theorem rdB_none {a : ByteArray} (h : rdN a = none) : rdB a = none := by unfold rdB; rw [h]

set_option maxHeartbeats 4000000 in
set_option maxRecDepth 100000 in
theorem getdec_any (w0 : World) (g b : Nat) (hg : g < w0.heap.size) (m : Ms) (l : List ByteArray) (V : World) (hN : NextAt V w0.heap.size b l) (hS : GSt w0 g m V) :
    Calls Tryz.prog 75 #[ptr12 g, nextV b] V (ReadP w0.heap.size b (getD12 m l) (GSt w0 g) (Turn (· = g) w0)) := by
  obtain ⟨z, hz⟩ : ∃ z, z = getD12 m l := ⟨_, rfl⟩
  rw [← hz]
  have HZ := Lib.hid hz
  have HN := Lib.hid hN
  have HS := Lib.hid hS
  have HG := Lib.hid hg
  clear hz hN hS hg
  go_enter Tryz.func75, Tryz.ntmps75
  go_wp2_with fail
  refine (gettxn_any w0 g b HG.out m l V HN.out HS.out).mono ?_
  intro e V1 h
  cases hr : getX m l with
  | none =>
    rw [hr] at h
    obtain ⟨rfl, hT⟩ := h
    have hz : z = none := by rw [HZ.out]; simp [getD12, hr]
    subst hz
    have HT := Lib.hid hT
    clear hT
    go_wp2_with fail
    exact ⟨by first | rfl | trivial, rfl, HT.out⟩
  | some y =>
    obtain ⟨m1, l1⟩ := y
    rw [hr] at h
    obtain ⟨rfl, hN1, hS1⟩ := h
    have HN := Lib.hid hN1
    have HS := Lib.hid hS1
    clear hN1 hS1
    go_wp2_with fail
    cases l1 with
    | nil =>
      have hz : z = none := by rw [HZ.out]; simp [getD12, getN, hr]
      subst hz
      refine (next_none _ b _ HN.out).mono ?_; rintro e V1 ⟨rfl, hw⟩; rw [hw]; clear hw V1
      go_wp2_with fail
      exact ⟨by first | rfl | trivial, rfl, HS.out.turnd⟩
    | cons a r =>
      have HSZ := Lib.hid (HN.out.size a (List.mem_cons_self ..))
      refine (next_some _ b a r _ HN.out).mono ?_; rintro e V1 ⟨rfl, n1, t1⟩
      have S1 := Lib.hid (HS.out.next HG.out HN.out t1)
      have N1 := Lib.hid n1
      clear n1 t1 HS HN
      go_wp2_with fail
      have HT := fun W => isset_any a HSZ.out W
      cases hb : rdB a with
      | none =>
        rw [hb] at HT; simp only [Out12] at HT
        have hz : z = none := by
          rw [HZ.out]
          cases hn : rdN a with
          | none => simp [getD12, hr, getN_cons, hn]
          | some v =>
            rw [rdB_is hn] at hb
            by_cases h1 : v ≤ 1
            · rw [if_pos h1] at hb; cases hb
            · simp only [getD12, hr, getN_cons, hn, Option.map_some, if_neg h1]
        subst hz
        refine (HT _).mono ?_; rintro e V2 ⟨rfl, b2⟩
        have S2 := Lib.hid (S1.out.below b2)
        go_wp2_with fail
        exact ⟨by first | rfl | trivial, rfl, S2.out.turnd⟩
      | some y =>
        rw [hb] at HT; simp only [Out12] at HT
        have hz : z = some ({ m1 with yes := y }, r) := by
          rw [HZ.out]
          cases hn : rdN a with
          | none => rw [rdB_none hn] at hb; cases hb
          | some v =>
            rw [rdB_is hn] at hb
            by_cases h1 : v ≤ 1
            · rw [if_pos h1] at hb
              simp only [getD12, hr, getN_cons, hn, Option.map_some, if_pos h1, Option.some.inj hb]
            · rw [if_neg h1] at hb; cases hb
        subst hz
        refine (HT _).mono ?_; rintro e V2 ⟨rfl, b2⟩
        have S2 := Lib.hid (S1.out.below b2)
        have N2 := Lib.hid (N1.out.below b2)
        obtain ⟨vv, hG, -⟩ := S2.out.2
        obtain ⟨x0, x1, x2, x3, x4, x5, x6, x7, x8⟩ := hG.cells
        have fk := hG.frozen 7
        clear hG
        clear b2 S1 N1 HT
        go_wp2_with fail
        go_end0
        exact ⟨rfl, N2.out.cell HG.out, S2.out.setY HG.out y⟩
set_option maxHeartbeats 4000000 in
set_option maxRecDepth 100000 in
theorem getvote_any (w0 : World) (g b : Nat) (hg : g < w0.heap.size) (m : Ms) (l : List ByteArray) (V : World) (hN : NextAt V w0.heap.size b l) (hS : GSt w0 g m V) :
    Calls Tryz.prog 72 #[ptr12 g, nextV b] V (ReadP w0.heap.size b (getV m l) (GSt w0 g) (Turn (· = g) w0)) := by
  obtain ⟨z, hz⟩ : ∃ z, z = getV m l := ⟨_, rfl⟩
  rw [← hz]
  have HZ := Lib.hid hz
  have HN := Lib.hid hN
  have HS := Lib.hid hS
  have HG := Lib.hid hg
  clear hz hN hS hg
  go_enter Tryz.func72, Tryz.ntmps72
  go_wp2_with fail
  refine (getdec_any w0 g b HG.out m l V HN.out HS.out).mono ?_
  intro e V1 h
  cases hr : getD12 m l with
  | none =>
    rw [hr] at h
    obtain ⟨rfl, hT⟩ := h
    have hz : z = none := by rw [HZ.out]; simp [getV, hr]
    subst hz
    have HT := Lib.hid hT
    clear hT
    go_wp2_with fail
    exact ⟨by first | rfl | trivial, rfl, HT.out⟩
  | some y =>
    obtain ⟨m1, l1⟩ := y
    rw [hr] at h
    obtain ⟨rfl, hN1, hS1⟩ := h
    have HN := Lib.hid hN1
    have HS := Lib.hid hS1
    clear hN1 hS1
    obtain ⟨vv, hG, -⟩ := HS.out.2
    obtain ⟨x0, x1, x2, x3, x4, x5, x6, x7, x8⟩ := hG.cells
    have fk := hG.frozen 8
    clear hG
    cases hy : m1.yes with
    | false =>
      rw [hy] at x7
      have hz : z = some (m1, l1) := by rw [HZ.out]; simp [getV, hr, hy]
      subst hz
      go_wp2_with fail
      go_end0
      exact ⟨rfl, HN.out, HS.out⟩
    | true =>
      rw [hy] at x7
      go_wp2_with fail
      clear x0 x1 x2 x3 x4 x5 x6 x7 x8 fk
      cases l1 with
      | nil =>
        have hz : z = none := by rw [HZ.out]; simp [getV, hr, hy]
        subst hz
        refine (next_none _ b _ HN.out).mono ?_; rintro e V1 ⟨rfl, hw⟩; rw [hw]; clear hw V1
        go_wp2_with fail
        exact ⟨by first | rfl | trivial, rfl, HS.out.turnd⟩
      | cons a r =>
        have HSZ := Lib.hid (HN.out.size a (List.mem_cons_self ..))
        refine (next_some _ b a r _ HN.out).mono ?_; rintro e V1 ⟨rfl, n1, t1⟩
        have S1 := Lib.hid (HS.out.next HG.out HN.out t1)
        have N1 := Lib.hid n1
        clear n1 t1 HS HN
        have hz : z = some ({ m1 with tag := a }, r) := by rw [HZ.out]; simp [getV, hr, hy]
        subst hz
        obtain ⟨vv, hG, -⟩ := S1.out.2
        obtain ⟨x0, x1, x2, x3, x4, x5, x6, x7, x8⟩ := hG.cells
        have fk := hG.frozen 8
        clear hG
        go_wp2_with fail
        go_end0
        exact ⟨rfl, N1.out.cell HG.out, S1.out.setT HG.out a⟩
end Go.Proofs.YthemopejebioaaaGreat.Pl
