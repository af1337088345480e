/- A row of members that the call owns; append of members to it. What wire reads as members. ReadMembers of wire. The kind of a word: the map is ranged over. How wire reads the fields of a message: a decision; a vote. How wire reads the fields of a message: what is asked. append of texts to a row that the call owns; numbers and Txn of wire. Txn of wire; the parts of a transaction, and of a decision. The parts of a decision, and of a vote; what a message's term is made by. Whose ballot it is: the members that are gone over, and the one that is found; mathematics. -/
import Derived.Test.YtbdlegjklfkdmaaGreatDoorBallA11
import Derived.Deep.RegionHeld3
import Derived.Test.YtbdlegjklfkdmaaGreatDoorBallA9
namespace Go.Proofs.YtbdlegjklfkdmaaGreatDoor.Pl
open Go.RowKit

theorem infoMem : (Tryz.prog.info? 51).map (fun i => (i.zero, i.size, i.bytes)) = some (some (.agg #[.int .i64 0, .string ⟨#[]⟩]), 2, 24) := by kernel_rfl
theorem add12 {b off k : Nat} : (⟨b, off, none⟩ : Addr).add k = ⟨b, off + k, none⟩ := by simp [Addr.add]
/-- The cells of a row of members. -/
def flatM : List Mb → List Value
  | [] => []
  | m :: r => .int .i64 m.1 :: .string m.2 :: flatM r
theorem flatM_len : ∀ l : List Mb, (flatM l).length = l.length * 2
  | [] => rfl
  | m :: r => by simp only [flatM, List.length_cons, flatM_len r]; omega
theorem flatM_app : ∀ l m : List Mb, flatM (l ++ m) = flatM l ++ flatM m
  | [], m => rfl
  | x :: r, m => by simp only [List.cons_append, flatM, flatM_app r m]
theorem flatM_at : ∀ (l : List Mb) (j : Nat) (hj : j < l.length), (flatM l)[j * 2]? = some (.int .i64 l[j].1) ∧ (flatM l)[j * 2 + 1]? = some (.string l[j].2)
  | [], j, hj => absurd hj (Nat.not_lt_zero _)
  | m :: r, 0, _ => ⟨rfl, rfl⟩
  | m :: r, j + 1, hj => by
    have h := flatM_at r j (by simpa using hj)
    rw [show (j + 1) * 2 = j * 2 + 1 + 1 by omega]
    simpa only [flatM, List.getElem?_cons_succ, List.getElem_cons_succ] using h
theorem flatM_one : ∀ l : List Mb, ∀ u ∈ flatM l, u.oneCell' = true
  | [], u, h => by cases h
  | m :: r, u, h => by
    simp only [flatM, List.mem_cons] at h
    rcases h with rfl | rfl | h
    · rfl
    · rfl
    · exact flatM_one r u h
theorem flatM_row {w : World} {b off : Nat} {l : List Mb} (h : ∀ j, (hj : j < l.length) → w.cell? ⟨b, off + j * 2, none⟩ = some (.int .i64 l[j].1) ∧ w.cell? ⟨b, off + j * 2 + 1, none⟩ = some (.string l[j].2)) (j : Nat) (u : Value) (hu : (flatM l)[j]? = some u) : w.cell? ⟨b, off + j, none⟩ = some u := by
  have hj := (List.getElem?_eq_some_iff.1 hu).1
  rw [flatM_len] at hj
  have hd : j / 2 < l.length := by omega
  obtain ⟨h1, h2⟩ := h (j / 2) hd
  obtain ⟨f1, f2⟩ := flatM_at l (j / 2) hd
  by_cases hm : j % 2 = 0
  · rw [show j / 2 * 2 = j by omega] at h1 f1
    rw [h1, ← f1, hu]
  · rw [show j / 2 * 2 + 1 = j by omega] at f2
    rw [show off + j / 2 * 2 + 1 = off + j by omega] at h2
    rw [h2, ← f2, hu]
/-- v is a row of these members that the call owns, from block B on. -/
def OwnM (w : World) (B : Nat) (v : Value) (l : List Mb) : Prop := w.ownsRow B 51 2 v l.length (flatM l)
theorem ownM_nil (w : World) (B : Nat) : OwnM w B (.slice none 0 0) [] := World.ownsRow_nil _ _ _ _
theorem ownM_below {w w' : World} {B : Nat} {v : Value} {l : List Mb} (h : OwnM w B v l) (hb : Below w.heap.size w w') : OwnM w' B v l := by
  refine ⟨h.1, ?_⟩
  rcases h.2 with hn | ⟨g, cap, cur, hv, hbg, hg, rest⟩
  · exact .inl hn
  · exact .inr ⟨g, cap, cur, hv, hbg, (hb.block g (Array.getElem?_eq_some_iff.1 hg).1).trans hg, rest⟩
theorem ownM_turn {F : Nat → Prop} {w w' : World} {B : Nat} {v : Value} {l : List Mb} (h : OwnM w B v l) (ht : Turn F w w') (hF : ∀ k, F k → k < B) : OwnM w' B v l := by
  refine ⟨h.1, ?_⟩
  rcases h.2 with hn | ⟨g, cap, cur, hv, hbg, hg, rest⟩
  · exact .inl hn
  · exact .inr ⟨g, cap, cur, hv, hbg, (ht.block g (Array.getElem?_eq_some_iff.1 hg).1 fun e => by have := hF g e; omega).trans hg, rest⟩
theorem ownM_low {w : World} {A B : Nat} {v : Value} {l : List Mb} (h : OwnM w B v l) (hA : A ≤ B) : OwnM w A v l := by
  refine ⟨h.1, ?_⟩
  rcases h.2 with hn | ⟨g, cap, cur, hv, hbg, rest⟩
  · exact .inl hn
  · exact .inr ⟨g, cap, cur, hv, Nat.le_trans hA hbg, rest⟩
theorem ownM_block {w : World} {B : Nat} {v : Value} {l : List Mb} (h : OwnM w B v l) : ∀ k, v.ownBlock = some k → B ≤ k := by
  intro k e
  rcases h.2 with ⟨rfl, _⟩ | ⟨g, cap, cur, rfl, hbg, _⟩
  · cases e
  · obtain rfl : g = k := Option.some.inj e
    exact hbg
theorem ownM_row {w : World} {B : Nat} {v : Value} {l : List Mb} (h : OwnM w B v l) : ∃ ao cap, v = .slice ao l.length cap ∧ MemRow w ao l ∧ (ao = none → cap = 0) ∧ ∀ g off, ao = some ⟨g, off, none⟩ → B ≤ g := by
  have h' := h
  rcases h.2 with ⟨rfl, hn⟩ | ⟨g, cap, cur, rfl, hB, hg, _, _, _, _⟩
  · exact ⟨none, 0, by rw [hn], .inl (List.length_eq_zero_iff.1 hn), fun _ => rfl, fun g off e => by cases e⟩
  · refine ⟨some ⟨g, 0, none⟩, cap, rfl, .inr ⟨g, 0, rfl, (Array.getElem?_eq_some_iff.1 hg).1, fun j hj => ?_⟩, fun h => (by cases h), fun g' off e => (by cases e; exact hB)⟩
    obtain ⟨f1, f2⟩ := flatM_at l j hj
    have c1 := World.ownsRow.cells h' (g := g) rfl _ _ f1
    have c2 := World.ownsRow.cells h' (g := g) rfl _ _ f2
    rw [add12] at c1 c2
    exact ⟨c1, by rw [Nat.add_assoc]; exact c2⟩
theorem appM_run {W : World} {B : Nat} {v : Value} {l m : List Mb} {ao : Option Addr} {cap : Nat} (hown : OwnM W B v l) (hB : B ≤ W.heap.size) (hrow : MemRow W ao m) (hp : ao = none → cap = 0) (hl : l.length + m.length ≤ 1000000) :
    ∃ v' w', (Builtin.append_ #[24, 24] 24 #[v, .slice ao m.length cap]).run Tryz.prog W = .ok v' w' ∧ OwnM w' B v' (l ++ m) ∧ W.grownBy w' v.ownBlock := by
  obtain ⟨i0, hi, hz0, hz1, hz2⟩ := info_parts infoMem
  cases ao with
  | none =>
    have h0 : m = [] := by
      rcases hrow with h0 | ⟨b, off, hb, _⟩
      · exact h0
      · cases hb
    subst h0
    obtain rfl := hp rfl
    have hr := run_append_owned_none (P := Tryz.prog) (w := W) B 24 24 51 i0 2 Tryz.underlying24 hi v l.length _ hown
    exact ⟨v, W, hr, by rw [List.append_nil]; exact hown, ⟨rfl, rfl, rfl, Nat.le_refl _, fun _ _ _ => rfl⟩⟩
  | some ad =>
    have hcell : ∀ j u, (flatM m)[j]? = some u → W.cell? (ad.add j) = some u := by
      intro j u hu
      rcases hrow with h0 | ⟨b, off, hb, hlt, hc⟩
      · subst h0; simp [flatM] at hu
      · cases hb
        rw [add12]
        exact flatM_row hc j u hu
    obtain ⟨v', w', hr, g1, g2, _⟩ := run_append_own (P := Tryz.prog) W B 24 24 51 i0 (.agg #[.int .i64 0, .string ⟨#[]⟩]) 2 24 Tryz.underlying24 hi hz0 hz1 hz2 (by rfl) (by decide) v l.length _ hown ad m.length cap (flatM m) (flatM_len m) hcell (flatM_one m) (by unfold maxLen; omega) (by omega) hB
    exact ⟨v', w', hr, by unfold OwnM; rw [List.length_append, flatM_app]; exact g1, g2⟩
theorem wpList_appM {ops : Array Oper} {rest : List Oper} {o : Oper} {a : Act} {Q : Exit → Act → World → Prop} {W : World} (hgd : o.guard = none) (s x : Operand)
    (ho : o.op = .call { callee := .builtin .append, args := #[s, x], argTypes := #[24, 24] }) (hty : o.type = 24) {B : Nat} {v : Value} {l m : List Mb} {ao : Option Addr} {cap : Nat} (hs : a.eval s = v) (hx : a.eval x = .slice ao m.length cap)
    (hown : OwnM W B v l) (hB : B ≤ W.heap.size) (hrow : MemRow W ao m) (hp : ao = none → cap = 0) (hl : l.length + m.length ≤ 1000000)
    (K : ∀ v' w', OwnM w' B v' (l ++ m) → W.grownBy w' v.ownBlock → wpList Tryz.prog ops Q rest (a.put o.dst v') w') : wpList Tryz.prog ops Q (o :: rest) a W := by
  obtain ⟨v', w', hr, h2, h3⟩ := appM_run hown hB hrow hp hl
  refine wpList_plain hgd fun K' hK' => ?_
  unfold Oper.wp execOp
  simp only [ho, hty, resolve, invoke, builtin, Sem.run_bind, Sem.run_pure, Result.andThen_ok, List.map_toArray, List.map_cons, List.map_nil, hs, hx, hr]
  exact hK' _ _ (K v' w' h2 h3)
theorem memRow_one (V : World) (o : Int) (d : ByteArray) : MemRow (V.alloc (.cells #[.int .i64 o, .string d] 51)) (some ⟨V.heap.size, 0, none⟩) [(o, d)] := by
  have h := Go.heap_alloc_new V (.cells #[.int .i64 o, .string d] 51)
  refine .inr ⟨V.heap.size, 0, rfl, by simp, fun j hj => ?_⟩
  obtain rfl : j = 0 := by simpa using hj
  exact ⟨cell_of_row _ _ _ _ _ _ h, cell_of_row _ _ _ _ _ _ h⟩
/-- Block x is a member. -/
def MAt (w : World) (x : Nat) (o : Int) (d : ByteArray) : Prop := w.heap[x]? = some (.cells #[.int .i64 o, .string d] 51 (0, 0))
theorem MAt.lt {w : World} {x : Nat} {o : Int} {d : ByteArray} (h : MAt w x o d) : x < w.heap.size := (Array.getElem?_eq_some_iff.1 h).1
theorem MAt.turn {F : Nat → Prop} {w w' : World} {x : Nat} {o : Int} {d : ByteArray} (h : MAt w x o d) (ht : Turn F w w') (hx : ¬ F x) : MAt w' x o d := (ht.block x h.lt hx).trans h
theorem MAt.below {w w' : World} {x : Nat} {o : Int} {d : ByteArray} (h : MAt w x o d) (hb : Below w.heap.size w w') : MAt w' x o d := (hb.block x h.lt).trans h
theorem MAt.cells {w : World} {x : Nat} {o : Int} {d : ByteArray} (h : MAt w x o d) : w.cell? ⟨x, 0, none⟩ = some (.int .i64 o) ∧ w.cell? ⟨x, 1, none⟩ = some (.string d) ∧ w.frozen? ⟨x, 0, none⟩ = false ∧ w.frozen? ⟨x, 1, none⟩ = false := by
  unfold MAt at h
  refine ⟨cell_of_row _ _ _ _ _ _ h, cell_of_row _ _ _ _ _ _ h, ?_, ?_⟩ <;> simp [World.frozen?, h]
theorem MAt.set0 {w : World} {x : Nat} {o : Int} {d : ByteArray} (h : MAt w x o d) (v : Int) : MAt (w.setCell ⟨x, 0, none⟩ (.int .i64 v)) x v d := by
  unfold MAt at h ⊢
  rw [setCell_eq_setRow w x 0 _ _ (0, 0) _ h, setRow_heap w x _ _ _ _ h]; rfl
theorem MAt.set1 {w : World} {x : Nat} {o : Int} {d : ByteArray} (h : MAt w x o d) (v : ByteArray) : MAt (w.setCell ⟨x, 1, none⟩ (.string v)) x o v := by
  unfold MAt at h ⊢
  rw [setCell_eq_setRow w x 1 _ _ (0, 0) _ h, setRow_heap w x _ _ _ _ h]; rfl
/-- What reading a member leaves. -/
def MemSt (w0 : World) (x : Nat) (m : Mb) (V : World) : Prop := Turn (· = x) w0 V ∧ MAt V x m.1 m.2
set_option maxHeartbeats 4000000 in
set_option maxRecDepth 100000 in
theorem mem1_any (w0 : World) (x b : Nat) (hx : x < w0.heap.size) (l : List ByteArray) (V : World) (ht : Turn (· = x) w0 V) (hN : NextAt V w0.heap.size b l) (hX : MAt V x 0 ⟨#[]⟩) :
    Calls Tryz.prog 122 #[nextV b, ptr12 x] V (ReadP w0.heap.size b (memG l) (MemSt w0 x) (Turn (· = x) w0)) := by
  obtain ⟨z, hz⟩ : ∃ z, z = memG l := ⟨_, rfl⟩
  rw [← hz]
  have hbx : ¬ x = b := fun e => by have := hN.fresh; omega
  have HX := Lib.hid hx
  have HBX := Lib.hid hbx
  have HF := Lib.hid hN.fresh
  have TT := Lib.hid ht
  have HN := Lib.hid hN
  have HXA := Lib.hid hX
  have HZ := Lib.hid hz
  clear hx hbx ht hN hX hz
  go_enter Tryz.func122, Tryz.ntmps122
  go_wp2_with fail
  cases l with
  | nil =>
    have hz : z = none := by rw [HZ.out]; simp [memG, getN]
    subst hz
    refine (next_none _ b _ HN.out).mono ?_; rintro e V1 ⟨rfl, hw⟩; rw [hw]; clear hw V1
    go_wp2_with fail
    exact ⟨by first | rfl | trivial, rfl, TT.out⟩
  | cons a0 l1 =>
    have HS0 := Lib.hid (HN.out.size a0 (List.mem_cons_self ..))
    refine (next_some _ b a0 l1 _ HN.out).mono ?_; rintro e V1 ⟨rfl, n1, t1⟩
    have T1 := Lib.hid (turn_trans TT.out t1 (fun _ e => .inr (e ▸ HF.out)))
    have X1 := Lib.hid (HXA.out.turn t1 HBX.out)
    have N1 := Lib.hid n1
    clear n1 t1 TT HXA HN
    go_wp2_with fail
    have HNm := fun W => number_any a0 HS0.out W
    cases hc : rdN a0 with
    | none =>
      rw [hc] at HNm; simp only [Out12] at HNm
      have hz : z = none := by rw [HZ.out]; simp [memG, getN_cons, hc]
      subst hz
      refine (HNm _).mono ?_; rintro e V2 ⟨rfl, b2⟩
      have TF := Lib.hid (turn_trans T1.out (turn_none b2) (fun _ e => e.elim))
      go_wp2_with fail
      exact ⟨by first | rfl | trivial, rfl, TF.out⟩
    | some c =>
      rw [hc] at HNm; simp only [Out12] at HNm
      refine (HNm _).mono ?_; rintro e V2 ⟨rfl, b2⟩
      have X2 := X1.out.turn (turn_none b2) (fun e => e)
      obtain ⟨x0, x1, f0, f1⟩ := X2.cells
      have T2 := turn_trans T1.out (turn_none b2) (fun _ e => e.elim)
      obtain ⟨W1, hW1⟩ : ∃ W, W = V2.setCell ⟨x, 0, none⟩ (.int .i64 c) := ⟨_, rfl⟩
      have TT := Lib.hid (show Turn (· = x) w0 W1 from hW1 ▸ turn_trans T2 (turn_cell V2 x 0 _) (fun _ e => .inl e))
      have HXA := Lib.hid (show MAt W1 x c ⟨#[]⟩ from hW1 ▸ X2.set0 c)
      have HN := Lib.hid (show NextAt W1 w0.heap.size b l1 from hW1 ▸ (N1.out.below b2).turn (turn_cell V2 x 0 _) (fun k e => by have := HX.out; omega))
      have HW1 := Lib.hid hW1
      clear b2 X2 T2 T1 X1 N1 HNm hW1
      go_wp2_with fail
      (try rw [← HW1.out])
      clear HW1 x0 x1 f0 f1
      cases l1 with
      | nil =>
        have hz : z = none := by rw [HZ.out]; simp [memG, getN_cons, hc]
        subst hz
        refine (next_none _ b _ HN.out).mono ?_; rintro e V1 ⟨rfl, hw⟩; rw [hw]; clear hw V1
        go_wp2_with fail
        exact ⟨by first | rfl | trivial, rfl, TT.out⟩
      | cons a1 l2 =>
        have hz : z = some ((c, a1), l2) := by rw [HZ.out]; simp [memG, getN_cons, hc]
        subst hz
        refine (next_some _ b a1 l2 _ HN.out).mono ?_; rintro e V1 ⟨rfl, n1, t1⟩
        have T1 := turn_trans TT.out t1 (fun _ e => .inr (e ▸ HF.out))
        have X1 := HXA.out.turn t1 HBX.out
        obtain ⟨x0, x1, f0, f1⟩ := X1.cells
        have TE := Lib.hid (turn_trans T1 (turn_cell V1 x 1 (.string a1)) (fun _ e => .inl e))
        have XE := Lib.hid (X1.set1 a1)
        have NE := Lib.hid (n1.turn (turn_cell V1 x 1 (.string a1)) (fun k e => by have := HX.out; omega))
        clear T1 X1 n1 t1 TT HXA HN
        go_wp2_with fail
        go_end0
        exact ⟨rfl, NE.out, TE.out, XE.out⟩
end Go.Proofs.YtbdlegjklfkdmaaGreatDoor.Pl

namespace Go.Proofs.YtbdlegjklfkdmaaGreatDoor.Pl
open Go.RowKit

theorem call_mem1 (args : Array Value) (V : World) : (callFunc 122 args).run Tryz.prog V = .ok (.enter 122 args) V := by kernel_rfl
theorem memsR_drop {ps : List ByteArray} {j : Nat} (hj : j < ps.length) {l : List Mb} (h : memsR (ps.take j) = some l) : memsR (ps.take (j + 1)) = (rowR ps[j] memG).map fun m => l ++ [m] := by
  induction ps generalizing j l with
  | nil => simp at hj
  | cons p ps ih =>
    cases j with
    | zero =>
      rw [List.take_zero, memsR] at h
      obtain rfl := Option.some.inj h
      simp only [List.take_succ_cons, List.take_zero, memsR, List.getElem_cons_zero]
      cases rowR p memG <;> rfl
    | succ j =>
      rw [List.take_succ_cons, memsR] at h
      split at h
      · cases h
      · rename_i m hm
        rw [Option.map_eq_some_iff] at h
        obtain ⟨l', h1, rfl⟩ := h
        have := ih (by simpa using hj) h1
        rw [List.take_succ_cons, memsR, hm]
        simp only [List.getElem_cons_succ]
        rw [this]
        cases rowR (ps[j]'(by simpa using hj)) memG <;> rfl
theorem memsR_none {ps : List ByteArray} : ∀ {j : Nat}, memsR (ps.take j) = none → memsR ps = none := by
  induction ps with
  | nil => intro j h; rwa [List.take_nil] at h
  | cons p ps ih =>
    intro j h
    cases j with
    | zero => rw [List.take_zero, memsR] at h; cases h
    | succ j =>
      rw [List.take_succ_cons, memsR] at h
      rw [memsR]
      split at h
      · rename_i hm; first | rfl | rw [hm]
      · rename_i m hm
        (try rw [hm])
        (try simp only at h ⊢)
        rw [Option.map_eq_none_iff] at h ⊢
        exact ih h
theorem memsR_size {ps : List ByteArray} {l : List Mb} (h : memsR ps = some l) : (∀ m ∈ l, m.2.size ≤ 16384) ∧ l.length = ps.length := by
  obtain ⟨h1, h2⟩ := memsR_again h
  refine ⟨fun m hm => ?_, by have := congrArg List.length h2; simpa using this⟩
  have k := h1 m hm
  have : rowP [(numP m.1).1, bl m.2] = ((memT m).1, 0) := row_ok k
  obtain ⟨_, k2, _⟩ := row_read (by simp) this
  have hc : checkP (bl m.2) = 0 := by
    have k3 := (row_again (s := (memT m).1) (row_read (by simp) this).1).2.2
    rw [k2] at k3
    exact k3 _ (by simp)
  exact check_len hc
/-- Behind an append of a member. -/
theorem own12_grown {w3 wr V w' : World} {lv : Value} {L : List Mb} {o : Obj} (hown : OwnM wr w3.heap.size lv L) (hb3 : Below w3.heap.size w3 wr) (hb : Below wr.heap.size wr V) (hg : (V.alloc o).grownBy w' lv.ownBlock) : Below w3.heap.size w3 w' := by
  have h1 := (hb3.trans (hb.mono hb3.size)).alloc (by have := hb3.size; have := hb.size; omega) o
  exact h1.grown hg (by have := h1.size; omega) (ownM_block hown)
set_option maxHeartbeats 8000000 in
set_option maxRecDepth 100000 in
theorem members12_any (c e q : Int) (t : ByteArray) (ht : t.size ≤ 281474976710656) (w : World) : Calls Tryz.prog 89 #[.agg #[.int .i64 c, .int .i64 e, .int .i64 q], .string t] w fun x w' =>
    (match membersR c t with | some l => ∃ v, x = .returned v ∧ OwnM w' w.heap.size v l | none => x = boom12 7) ∧ Below w.heap.size w w' := by
  have HK := fun V => tkind_any t ht V
  have HP := Lib.hid (fun V => parts12_any t ht V)
  have HPL := Lib.hid (partsB_len t)
  have HPS := Lib.hid (partsB_size t)
  have hz : membersR c t = if kindP (bl t) = 3 then (match memsR (partsB t) with | some l => if mayL c l = true then some l else none | none => none) else none := rfl
  have h6 := kindP_le (bl t)
  generalize membersR c t = z at *
  have B0 := Lib.hid ((Below.refl w.heap.size w).alloc (Nat.le_refl _) (.cells #[.int .i64 c, .int .i64 e, .int .i64 q] 23))
  have X0 := Lib.hid (xat_new w c e q)
  obtain ⟨W0, hW0⟩ : ∃ V, V = w.alloc (.cells #[.int .i64 c, .int .i64 e, .int .i64 q] 23) := ⟨_, rfl⟩
  rw [← hW0] at B0 X0
  have SZ : Hid (W0.heap.size = w.heap.size + 1) := Lib.hid (by rw [hW0]; simp)
  have HW0 := Lib.hid hW0
  clear hW0
  by_cases hk : kindP (bl t) = 3
  · rw [if_pos hk] at hz
    rw [hk] at HK
    have HK := Lib.hid HK
    have HZ := Lib.hid hz
    clear hk h6 hz
    go_enter Tryz.func89, Tryz.ntmps89
    go_wp2_with (first | (go_at_call 85; rw [← HW0.out]; refine (HK.out _).mono ?_; rintro e w1 ⟨rfl, b1⟩) | (go_at_call 110; refine (needw_ok 7 _).mono ?_; rintro e w2 ⟨rfl, hw2⟩; rw [hw2]; clear hw2 w2) | (go_at_call 23; refine (HP.out _).mono ?_; rintro e w3 ⟨ao, cap, rfl, hcap, hrow, haB, b3⟩) | fail)
    have BW3 : Hid (Below W0.heap.size W0 w3) := Lib.hid (by first | exact below_step b1 b3 | exact b3)
    have HROW := Lib.hid (fun V (hV : Below w3.heap.size w3 V) => hrow.below hV)
    clear b1 b3 hrow haB hcap
    generalize hps : partsB t = ps at *
    obtain ⟨n, hn⟩ : ∃ n, n = ps.length := ⟨_, rfl⟩
    rw [← hn]
    have HN := Lib.hid hn
    have hn32 : n ≤ 32 := by rw [hn]; exact HPL.out
    clear hps hn HK HP
    go_loopw [22, 7] (fun iv lv wr => ∃ (j : Nat) (L : List Mb), iv = .int .i64 j ∧ j ≤ n ∧ Hid (OwnM wr w3.heap.size lv L) ∧ Hid (memsR (ps.take j) = some L) ∧ Hid (L.length = j) ∧ Hid (Below w3.heap.size w3 wr)) (fun iv _ _ => n - (intOf iv).toNat)
    case atStart => exact ⟨0, [], rfl, Nat.zero_le _, Lib.hid (ownM_nil _ _), Lib.hid rfl, Lib.hid rfl, Lib.hid (Below.refl _ _)⟩
    case round =>
      obtain ⟨j, L, rfl, hjn, hown, hst, hLj, hb⟩ := hrel
      by_cases hj : j < n
      · have hj' : (j : Int) < (n : Int) := by omega
        have hjl : j < ps.length := by rw [← HN.out]; exact hj
        rcases HROW.out _ hb.out with e | ⟨bb, off, rfl, hlt, hcs⟩
        · exfalso
          rw [e] at hjl
          exact absurd hjl (Nat.not_lt_zero _)
        have x0 := hcs j hjl
        have hgd : ps.getD j ByteArray.empty = ps[j] := by simp [List.getD_eq_getElem?_getD, hjl]
        rw [hgd] at x0
        have hps' := HPS.out _ (List.getElem_mem hjl)
        have hnext := memsR_drop hjl hst.out
        have hno : memsR (ps.take (j + 1)) = none → memsR ps = none := memsR_none
        obtain ⟨W1, hW1⟩ : ∃ V, V = wr.alloc (.cells #[.int .i64 0, .string ⟨#[]⟩] 51) := ⟨_, rfl⟩
        have m1 : MAt W1 wr.heap.size 0 ⟨#[]⟩ := by rw [hW1]; exact Go.heap_alloc_new _ _
        have s1 : W1.heap.size = wr.heap.size + 1 := by rw [hW1]; simp
        have b1 : Below wr.heap.size wr W1 := by rw [hW1]; exact (Below.refl _ _).alloc (Nat.le_refl _) _
        have HR := row12_any ps[j] (by omega) 122 #[ptr12 wr.heap.size] call_mem1 memG (MemSt W1 wr.heap.size) (Turn (· = wr.heap.size) W1) W1 (fun V hV => turn_below hV) (fun _ V h => h.1)
          (fun V b hV hN => mem1_any W1 wr.heap.size b (by omega) _ V (turn_below hV) hN (m1.below hV))
        generalize ps[j] = p at *
        have HW1 := Lib.hid hW1
        have BT : Hid (∀ V, Turn (· = wr.heap.size) W1 V → Below wr.heap.size wr V) := Lib.hid (fun V h => b1.trans (turn_to h (fun b e => by omega) (by omega)))
        have HSW : Hid (w.heap.size ≤ wr.heap.size) := Lib.hid (by have := hb.out.size; have := BW3.out.size; have := SZ.out; omega)
        clear hcs hlt hgd m1 s1 b1 hW1 hjl
        cases hg : rowR p memG with
        | none =>
          rw [hg] at HR hnext
          have hz : z = none := by rw [HZ.out, hno (by rw [hnext]; rfl)]
          subst hz
          (unfold RowP at HR; dsimp only at HR)
          have HR := Lib.hid HR
          clear hnext hno
          go_wp2_with (first | (go_at_call 117; rw [← HW1.out]; refine HR.out.mono ?_; rintro e V ⟨rfl, hT⟩) | fail)
          exact ⟨by first | rfl | trivial, rfl, B0.out.trans ((BW3.out.trans ((hb.out.trans ((BT.out _ hT).mono hb.out.size)).mono BW3.out.size)).mono B0.out.size)⟩
        | some m =>
          obtain ⟨o, d⟩ := m
          rw [hg] at HR hnext
          (unfold RowP MemSt at HR; dsimp only at HR)
          have HR := Lib.hid HR
          have HNX := Lib.hid hnext
          clear hnext hno
          go_wp2_with (first | (go_at_call 117; rw [← HW1.out]; refine HR.out.mono ?_; rintro e V ⟨rfl, hT, hX⟩; obtain ⟨y0, y1, -, -⟩ := hX.cells) | (at_builtin; refine wpList_appM (B := w3.heap.size) (l := L) (m := [(o, d)]) (ao := some ⟨V.heap.size, 0, none⟩) (cap := 1) rfl (.tmp 29) (.tmp 31) rfl rfl rfl rfl (ownM_below (ownM_below hown.out (BT.out _ hT)) ((Below.refl _ _).alloc (Nat.le_refl _) _)) (by have := (BT.out _ hT).size; have := hb.out.size; rw [World.size_alloc]; omega) (memRow_one V o d) (by intro e; cases e) (by have := hLj.out; have := HPL.out; have := HN.out; simp only [List.length_cons, List.length_nil]; omega) ?_; intro v' w' ho' hg'; have HO' := Lib.hid ho'; have BG := Lib.hid (own12_grown hown.out hb.out (BT.out _ hT) hg'); clear ho' hg') | fail)
          go_roundw
          case rel => exact ⟨j + 1, _, by go_num, by omega, HO', Lib.hid HNX.out, Lib.hid (by rw [List.length_append, hLj.out]; rfl), BG⟩
          case measure => simp [intOf]; omega
      · obtain rfl : j = n := by omega
        have hm : memsR ps = some L := by have := hst.out; rwa [HN.out, List.take_length] at this
        have hz : z = if mayL c L = true then some L else none := by rw [HZ.out, hm]
        obtain ⟨q1, q2⟩ := memsR_size hm
        obtain ⟨bo, bcap, rfl, hmr, _, _⟩ := ownM_row hown.out
        have B3 : Below w.heap.size w wr := B0.out.trans ((BW3.out.trans (hb.out.mono BW3.out.size)).mono B0.out.size)
        have X3 := (X0.out.below BW3.out).below (hb.out)
        obtain ⟨x0, x1, x2, -⟩ := X3.cells
        have HM := fun V (hV : Below wr.heap.size wr V) => maymems_any c e q L bo bcap (fun m hm => Nat.le_trans (q1 m hm) (by decide)) (by have := HPL.out; omega) V (hmr.below hV)
        have HOWN := Lib.hid (ownM_low hown.out (show w.heap.size ≤ w3.heap.size by have := BW3.out.size; have := SZ.out; omega))
        have B3 := Lib.hid B3
        have hb' : Hid (wr.heap.size ≤ wr.heap.size) := Lib.hid (Nat.le_refl _)
        clear hown hst hb hLj hmr X3 q1 q2 hm
        generalize hLn : L.length = ln at *
        cases hmay : mayL c L with
        | true =>
          rw [hmay] at HM hz
          have HM := Lib.hid HM
          rw [if_pos rfl] at hz
          subst hz
          go_wp2_with (first | (go_at_call 66; refine (HM.out _ (Below.refl _ _)).mono ?_; rintro e1 V ⟨rfl, b1⟩) | (go_at_call 110; refine (needw_ok 7 _).mono ?_; rintro e w2 ⟨rfl, hw2⟩; rw [hw2]; clear hw2 w2) | fail)
          go_ret
          exact ⟨⟨_, rfl, ownM_below HOWN.out b1⟩, below_step B3.out b1⟩
        | false =>
          rw [hmay] at HM hz
          have HM := Lib.hid HM
          rw [if_neg (by simp)] at hz
          subst hz
          go_wp2_with (first | (go_at_call 66; refine (HM.out _ (Below.refl _ _)).mono ?_; rintro e1 V ⟨rfl, b1⟩) | (go_at_call 110; refine (needw_bad 7 _).mono ?_; rintro e w2 ⟨rfl, hw2⟩; rw [hw2]; clear hw2 w2) | fail)
          exact ⟨by first | rfl | trivial, rfl, below_step B3.out b1⟩
  · have hz0 : z = none := hz.trans (if_neg hk)
    subst hz0
    have hk2 : ((kindP (bl t) : Nat) : Int) ≠ 3 := by omega
    have hk3 : (((kindP (bl t) : Nat) : Int) == 3) = false := beq_eq_false_iff_ne.2 hk2
    generalize kindP (bl t) = kd at *
    have HK := Lib.hid HK
    clear hz
    go_enter Tryz.func89, Tryz.ntmps89
    go_wp2_with (first | (go_at_call 85; rw [← HW0.out]; refine (HK.out _).mono ?_; rintro e w1 ⟨rfl, b1⟩) | (go_at_call 110; refine (needw_bad 7 _).mono ?_; rintro e w2 ⟨rfl, hw2⟩; rw [hw2]; clear hw2 w2) | fail)
    exact ⟨by first | rfl | trivial, rfl, below_step B0.out b1⟩
end Go.Proofs.YtbdlegjklfkdmaaGreatDoor.Pl

namespace Go.Proofs.YtbdlegjklfkdmaaGreatDoor.Pl
open Go.RowKit

/-- What ReadMembers's closure leaves. -/
def RdMem (c : Int) (t : ByteArray) (w : World) (z : Nat) (V : World) : Prop := (z = if (membersR c t).isSome then 0 else 7) ∧ (∃ v, Boxed V (w.heap.size + 2) 24 v ∧ OwnM V (w.heap.size + 4) v ((membersR c t).getD [])) ∧ Below w.heap.size w V
set_option maxHeartbeats 4000000 in
set_option maxRecDepth 100000 in
theorem readmem1_any (c e q : Int) (t : ByteArray) (ht : t.size ≤ 281474976710656) (w W : World) (hs : W.heap.size = w.heap.size + 4) (h0 : XAt W w.heap.size c e q) (hb : Boxed W (w.heap.size + 1) 9 (.string t)) (h2 : Boxed W (w.heap.size + 2) 24 (.slice none 0 0)) (h3 : Boxed W (w.heap.size + 3) 29 (.int .i64 0)) (hB : Below w.heap.size w W) :
    Calls Tryz.prog 88 #[ptr12 w.heap.size, ptr12 (w.heap.size + 1), ptr12 (w.heap.size + 2)] W (DonePost (w.heap.size + 3) (RdMem c t w)) := by
  have HT := members12_any c e q t ht W
  rw [hs] at HT
  have hg : ∀ z V, RdMem c t w z V ↔ (z = if (membersR c t).isSome then 0 else 7) ∧ (∃ v, Boxed V (w.heap.size + 2) 24 v ∧ OwnM V (w.heap.size + 4) v ((membersR c t).getD [])) ∧ Below w.heap.size w V := fun _ _ => Iff.rfl
  have c0 := hb.cell
  obtain ⟨x0, x1, x2, -⟩ := h0.cells
  have HS := Lib.hid hs
  have HB3 := Lib.hid h3
  have HB2 := Lib.hid h2
  have HBB := Lib.hid hB
  clear hB h3 hb h2 h0 hs
  cases hr : membersR c t with
  | none =>
    rw [hr] at HT hg
    simp only at HT
    have HT := Lib.hid HT
    have HG := Lib.hid hg
    clear hg
    go_enter Tryz.func88, Tryz.ntmps88
    go_wp2_with (first | (go_at_call 89; refine HT.out.mono ?_; rintro e1 V ⟨rfl, b1⟩) | fail)
    rw [← HS.out] at b1
    exact ⟨by first | rfl | trivial, (b1.block _ (by rw [HS.out]; omega)).trans HB3.out, .inr ⟨7, rfl, (HG.out _ _).2 ⟨rfl, ⟨_, (b1.block _ (by rw [HS.out]; omega)).trans HB2.out, ownM_nil _ _⟩, below_step HBB.out b1⟩⟩⟩
  | some l =>
    rw [hr] at HT hg
    simp only at HT
    have HT := Lib.hid HT
    have HG := Lib.hid hg
    clear hg
    go_enter Tryz.func88, Tryz.ntmps88
    go_wp2_with (first | (go_at_call 89; refine HT.out.mono ?_; rintro e1 V ⟨⟨v, rfl, ho⟩, b1⟩; rw [← HS.out] at b1; obtain ⟨ao, cap, rfl, -⟩ := ownM_row ho; have hb2 : Boxed V (w.heap.size + 2) 24 (.slice none 0 0) := (b1.block _ (by rw [HS.out]; omega)).trans HB2.out; have c2 := hb2.cell; have f2 := hb2.frozen) | fail)
    go_end0
    have tr := turn_cell V (w.heap.size + 2) 0 (.slice ao l.length cap)
    have hlt := b1.size
    have hsz := HS.out
    exact ⟨(tr.block _ (by omega) (by omega)).trans ((b1.block _ (by omega)).trans HB3.out), .inl ⟨rfl, (HG.out _ _).2 ⟨rfl, ⟨_, hb2.set _, ownM_turn ho tr (fun k e => by omega)⟩, (below_step HBB.out b1).trans (turn_to tr (fun b e => by omega) (by have := HBB.out.size; omega))⟩⟩⟩
theorem call_readmem1 (args : Array Value) (V : World) : (callFunc 88 args).run Tryz.prog V = .ok (.enter 88 args) V := by kernel_rfl
set_option maxHeartbeats 4000000 in
set_option maxRecDepth 100000 in
theorem readmem12_any (c e q : Int) (t : ByteArray) (ht : t.size ≤ 281474976710656) (w : World) : Calls Tryz.prog 49 #[.agg #[.int .i64 c, .int .i64 e, .int .i64 q], .string t] w fun x w' => (∃ v, x = .returned (.tuple #[v, .bool (membersR c t).isSome]) ∧ OwnM w' w.heap.size v ((membersR c t).getD [])) ∧ Below w.heap.size w w' := by
  obtain ⟨W0, hW0⟩ : ∃ V, V = ((w.alloc (.cells #[.int .i64 c, .int .i64 e, .int .i64 q] 23)).alloc (.cells #[.string t] 9)).alloc (.cells #[.slice none 0 0] 24) := ⟨_, rfl⟩
  have sz : W0.heap.size = w.heap.size + 3 := by rw [hW0]; simp
  have h0 : XAt W0 w.heap.size c e q := by
    rw [hW0]
    exact (xat_new w c e q).below (((Below.refl _ _).alloc (Nat.le_refl _) _).alloc (by simp) _)
  have hb : Boxed W0 (w.heap.size + 1) 9 (.string t) := by rw [hW0]; have h := (Boxed.new (w.alloc (.cells #[.int .i64 c, .int .i64 e, .int .i64 q] 23)) 9 (.string t)).alloc (.cells #[.slice none 0 0] 24); simpa using h
  have h2 : Boxed W0 (w.heap.size + 2) 24 (.slice none 0 0) := by rw [hW0]; have h := Boxed.new ((w.alloc (.cells #[.int .i64 c, .int .i64 e, .int .i64 q] 23)).alloc (.cells #[.string t] 9)) 24 (.slice none 0 0); simpa using h
  have B0 : Below w.heap.size w W0 := by rw [hW0]; exact (((Below.refl _ w).alloc (Nat.le_refl _) _).alloc (by simp) _).alloc (by simp; omega) _
  have ba := (Below.refl W0.heap.size W0).alloc (Nat.le_refl _) (.cells #[.int .i64 0] 29)
  have h3 : Boxed (W0.alloc (.cells #[.int .i64 0] 29)) (w.heap.size + 3) 29 (.int .i64 0) := by rw [← sz]; exact Boxed.new _ _ _
  have HC := caught_any 88 #[ptr12 w.heap.size, ptr12 (w.heap.size + 1), ptr12 (w.heap.size + 2)] call_readmem1 W0 (RdMem c t w) (by
    rw [sz]
    exact readmem1_any c e q t ht w _ (by simp [sz]) (h0.below ba) ((ba.block _ (by omega)).trans hb) ((ba.block _ (by omega)).trans h2) h3 (below_step B0 ba))
  rw [sz] at HC
  have HC2 : Calls Tryz.prog 67 #[.func (.func 88) #[] #[ptr12 w.heap.size, ptr12 (w.heap.size + 1), ptr12 (w.heap.size + 1 + 1)]] W0 (fun x V => x = .returned (.int .i64 ((if (membersR c t).isSome then 0 else 7 : Nat) : Int)) ∧ (∃ v, Boxed V (w.heap.size + 1 + 1) 24 v ∧ OwnM V w.heap.size v ((membersR c t).getD [])) ∧ Below w.heap.size w V) := by
    refine HC.mono ?_
    rintro e V ⟨z, V1, rfl, ⟨rfl, ⟨v, hv, ho⟩, bV⟩, rfl⟩
    have tc := turn_cell V1 (w.heap.size + 3) 0 (.int .i64 ((if (membersR c t).isSome then 0 else 7 : Nat) : Int))
    exact ⟨rfl, ⟨v, (tc.block _ (Array.getElem?_eq_some_iff.1 hv).1 (by omega)).trans hv, ownM_low (ownM_turn ho tc (fun k e => by omega)) (by omega)⟩, bV.trans (turn_to tc (fun b e => by omega) bV.size)⟩
  clear HC
  generalize (membersR c t).isSome = ok at *
  generalize (membersR c t).getD [] = r at *
  have HW0 := Lib.hid hW0
  clear hW0 sz hb h0 h2 B0 ba h3
  cases ok
  · have HC := Lib.hid HC2
    clear HC2
    go_enter Tryz.func49, Tryz.ntmps49
    go_wp2_with (first | (go_at_call 67; rw [← HW0.out]; refine HC.out.mono ?_; rintro e1 V ⟨rfl, ⟨v, hv, ho⟩, bV⟩; obtain ⟨ao, cap, rfl, -⟩ := ownM_row ho; have c0 := hv.cell) | fail)
    go_ret2
    exact ⟨⟨_, rfl, ho⟩, bV⟩
  · have HC := Lib.hid HC2
    clear HC2
    go_enter Tryz.func49, Tryz.ntmps49
    go_wp2_with (first | (go_at_call 67; rw [← HW0.out]; refine HC.out.mono ?_; rintro e1 V ⟨rfl, ⟨v, hv, ho⟩, bV⟩; obtain ⟨ao, cap, rfl, -⟩ := ownM_row ho; have c0 := hv.cell) | fail)
    go_ret2
    exact ⟨⟨_, rfl, ho⟩, bV⟩
end Go.Proofs.YtbdlegjklfkdmaaGreatDoor.Pl

namespace Go.Proofs.YtbdlegjklfkdmaaGreatDoor.Pl
open Go.RowKit Go.Maps
open Go.WideElems (rg)

section
variable {ops : Array Oper} {rest : List Oper} {o : Oper} {a : Act} {Q : Exit → Act → World → Prop} {w : World}
end
theorem str_ne12 {a b : ByteArray} (h : a ≠ b) : (a.toList == b.toList) = false ∧ (a.toList != b.toList) = true := by
  have h' : a.toList ≠ b.toList := fun e => h (by
    rw [Lib.toList_data, Lib.toList_data] at e
    apply ByteArray.ext
    exact Array.ext' e)
  exact ⟨beq_eq_false_iff_ne.2 h', bne_iff_ne.2 h'⟩

end Go.Proofs.YtbdlegjklfkdmaaGreatDoor.Pl

namespace Go.Proofs.YtbdlegjklfkdmaaGreatDoor.Pl
open Go.RowKit

theorem NextAt.cell {V : World} {B b g k : Nat} {v : Value} {l : List ByteArray} (h : NextAt V B b l) (hg : g < B) : NextAt (V.setCell ⟨g, k, none⟩ v) B b l := h.turn (turn_cell V g k v) (fun _ e => e ▸ hg)
end Go.Proofs.YtbdlegjklfkdmaaGreatDoor.Pl

namespace Go.Proofs.YtbdlegjklfkdmaaGreatDoor.Pl
open Go.RowKit

theorem drew12 (W : World) : Below W.heap.size W W.drew := (Below.refl _ _).drew

end Go.Proofs.YtbdlegjklfkdmaaGreatDoor.Pl

namespace Go.Proofs.YtbdlegjklfkdmaaGreatDoor.Pl
open Go.RowKit

theorem appT12_run {W : World} {B : Nat} {v : Value} {l m : List ByteArray} {ao : Option Addr} {cap : Nat} (hown : OwnT W B v l) (hB : B ≤ W.heap.size) (hrow : TxtRow W ao m) (hp : ao = none → cap = 0) (hl : l.length + m.length ≤ 1000000) :
    ∃ v' w', (Builtin.append_ #[53, 53] 53 #[v, .slice ao m.length cap]).run Tryz.prog W = .ok v' w' ∧ OwnT w' B v' (l ++ m) ∧ W.grownBy w' v.ownBlock := by
  obtain ⟨i0, hi, hz0, hz1, hz2⟩ := info_parts infoStr
  cases ao with
  | none =>
    have h0 : m = [] := by
      rcases hrow with h0 | ⟨b, off, hb, _⟩
      · exact h0
      · cases hb
    subst h0
    obtain rfl := hp rfl
    have hr := run_append_owned_none (P := Tryz.prog) (w := W) B 53 53 9 i0 1 Tryz.underlying53 hi v l.length _ hown
    exact ⟨v, W, hr, by rw [List.append_nil]; exact hown, ⟨rfl, rfl, rfl, Nat.le_refl _, fun _ _ _ => rfl⟩⟩
  | some ad =>
    have hcell : ∀ j u, (txts m)[j]? = some u → W.cell? (ad.add j) = some u := by
      intro j u hu
      have hj := (List.getElem?_eq_some_iff.1 hu).1
      rw [txts_length] at hj
      rcases hrow with h0 | ⟨b, off, hb, hlt, hc⟩
      · subst h0; simp at hj
      · cases hb
        rw [add12, hc j hj, ← txts_at m j hj, hu]
    have hone : ∀ u ∈ txts m, u.oneCell' = true := by
      intro u hu
      obtain ⟨x, _, rfl⟩ := List.mem_map.1 hu
      rfl
    obtain ⟨v', w', hr, g1, g2, _⟩ := run_append_own (P := Tryz.prog) W B 53 53 9 i0 (.string ⟨#[]⟩) 1 16 Tryz.underlying53 hi hz0 hz1 hz2 (by rfl) (by decide) v l.length _ hown ad m.length cap (txts m) (by rw [txts_length, Nat.mul_one]) hcell hone (by unfold maxLen; omega) (by omega) hB
    refine ⟨v', w', hr, ?_, g2⟩
    unfold OwnT
    rw [List.length_append, show txts (l ++ m) = txts l ++ txts m from List.map_append]
    exact g1
theorem wpList_appT {ops : Array Oper} {rest : List Oper} {o : Oper} {a : Act} {Q : Exit → Act → World → Prop} {W : World} (hgd : o.guard = none) (s x : Operand)
    (ho : o.op = .call { callee := .builtin .append, args := #[s, x], argTypes := #[53, 53] }) (hty : o.type = 53) {B : Nat} {v : Value} {l m : List ByteArray} {ao : Option Addr} {cap : Nat} (hs : a.eval s = v) (hx : a.eval x = .slice ao m.length cap)
    (hown : OwnT W B v l) (hB : B ≤ W.heap.size) (hrow : TxtRow W ao m) (hp : ao = none → cap = 0) (hl : l.length + m.length ≤ 1000000)
    (K : ∀ v' w', OwnT w' B v' (l ++ m) → W.grownBy w' v.ownBlock → wpList Tryz.prog ops Q rest (a.put o.dst v') w') : wpList Tryz.prog ops Q (o :: rest) a W := by
  obtain ⟨v', w', hr, h2, h3⟩ := appT12_run hown hB hrow hp hl
  refine wpList_plain hgd fun K' hK' => ?_
  unfold Oper.wp execOp
  simp only [ho, hty, resolve, invoke, builtin, Sem.run_bind, Sem.run_pure, Result.andThen_ok, List.map_toArray, List.map_cons, List.map_nil, hs, hx, hr]
  exact hK' _ _ (K v' w' h2 h3)
theorem wpOp_appT {ops : Array Oper} {o : Oper} {a : Act} {K : Act → World → Prop} {Q : Exit → Act → World → Prop} {W : World} (hw : Region.wanted o (yielded ops a.tmps) = true) (s x : Operand)
    (ho : o.op = .call { callee := .builtin .append, args := #[s, x], argTypes := #[53, 53] }) (hty : o.type = 53) {B : Nat} {v : Value} {l m : List ByteArray} {ao : Option Addr} {cap : Nat} (hs : a.eval s = v) (hx : a.eval x = .slice ao m.length cap)
    (hown : OwnT W B v l) (hB : B ≤ W.heap.size) (hrow : TxtRow W ao m) (hp : ao = none → cap = 0) (hl : l.length + m.length ≤ 1000000)
    (h : ∀ v' w', OwnT w' B v' (l ++ m) → W.grownBy w' v.ownBlock → K (a.put o.dst v') w') :
    if Region.wanted o (yielded ops a.tmps) = true then Oper.wp Tryz.prog o a W K Q else K (a.put o.dst undef) W := by
  obtain ⟨v', w', hr, h2, h3⟩ := appT12_run hown hB hrow hp hl
  rw [if_pos hw]
  unfold Oper.wp execOp
  simp only [ho, hty, resolve, invoke, builtin, Sem.run_bind, Sem.run_pure, Result.andThen_ok, List.map_toArray, List.map_cons, List.map_nil, hs, hx, hr]
  exact h v' w' h2 h3
theorem txt_one (V : World) (x : ByteArray) : TxtRow (V.alloc (.cells #[.string x] 9)) (some ⟨V.heap.size, 0, none⟩) [x] := by
  have h := Go.heap_alloc_new V (.cells #[.string x] 9)
  refine .inr ⟨V.heap.size, 0, rfl, by simp, fun j hj => ?_⟩
  obtain rfl : j = 0 := by simpa using hj
  exact cell_of_row _ _ _ _ _ _ h
theorem txt_two12 (V : World) (x y : ByteArray) : TxtRow (V.alloc (.cells #[.string x, .string y] 9)) (some ⟨V.heap.size, 0, none⟩) [x, y] := by
  have h := Go.heap_alloc_new V (.cells #[.string x, .string y] 9)
  refine .inr ⟨V.heap.size, 0, rfl, by simp, fun j hj => ?_⟩
  have : j = 0 ∨ j = 1 := by simp at hj; omega
  rcases this with rfl | rfl <;> exact cell_of_row _ _ _ _ _ _ h
theorem txt_three (V : World) (x y z : ByteArray) : TxtRow (V.alloc (.cells #[.string x, .string y, .string z] 9)) (some ⟨V.heap.size, 0, none⟩) [x, y, z] := by
  have h := Go.heap_alloc_new V (.cells #[.string x, .string y, .string z] 9)
  refine .inr ⟨V.heap.size, 0, rfl, by simp, fun j hj => ?_⟩
  have : j = 0 ∨ j = 1 ∨ j = 2 := by simp at hj; omega
  rcases this with rfl | rfl | rfl <;> exact cell_of_row _ _ _ _ _ _ h
theorem ownT_blk {w : World} {B : Nat} {v : Value} {l : List ByteArray} (h : OwnT w B v l) : ∀ k, v.ownBlock = some k → B ≤ k := by
  intro k e
  rcases h.2 with ⟨rfl, _⟩ | ⟨g, cap, cur, rfl, hbg, _⟩
  · cases e
  · obtain rfl : g = k := Option.some.inj e
    exact hbg
/-- A row of numbers. -/
def IntR (w : World) (ao : Option Addr) (l : List Int) : Prop := ∃ b off, ao = some ⟨b, off, none⟩ ∧ b < w.heap.size ∧ ∀ j, (hj : j < l.length) → w.cell? ⟨b, off + j, none⟩ = some (.int .i64 l[j])
theorem IntR.below {w w' : World} {ao : Option Addr} {l : List Int} (h : IntR w ao l) (hb : Below w.heap.size w w') : IntR w' ao l := by
  obtain ⟨b, off, e, hlt, hc⟩ := h
  exact ⟨b, off, e, Nat.lt_of_lt_of_le hlt hb.size, fun j hj => (hb.cell (p := ⟨b, off + j, none⟩) hlt).trans (hc j hj)⟩
def numT (v : Int) : ByteArray := tb (numP v).1
set_option maxHeartbeats 4000000 in
set_option maxRecDepth 100000 in
theorem numbers_any (c e q : Int) (hm : mayX c e q = true) (ao : Option Addr) (cap : Nat) (w : World) (hrow : IntR w ao [c, e, q]) :
    Calls Tryz.prog 72 #[.slice ao 3 cap] w fun x w' => x = .returned (.string (tb (txnT c e q))) ∧ Below w.heap.size w w' := by
  obtain ⟨h1, h2, h3⟩ := mayX_iff.1 hm
  obtain ⟨t1, -⟩ := txn_ok hm
  have hnum : ∀ v ∈ [c, e, q], -9223372036854775808 ≤ v ∧ v ≤ 9223372036854775807 ∧ numP v = ((numP v).1, 0) ∧ (numT v).size ≤ 19 := by
    intro v hv
    have hv2 : 0 ≤ v ∧ v ≤ 2147483647 := by
      simp only [List.mem_cons, List.not_mem_nil, or_false] at hv
      rcases hv with rfl | rfl | rfl <;> omega
    obtain ⟨n1, n2, -⟩ := num_ok hv2.1 hv2.2
    exact ⟨by omega, by omega, Prod.ext rfl n1, by unfold numT tb; rw [size_lit]; exact n2⟩
  have HL : Hid (∀ bo bc V, 3 ≤ bc → TxtRow V bo ([c, e, q].map numT) → Calls Tryz.prog 70 #[.slice bo 3 bc] V fun x w' => x = .returned (.tuple #[.string (tb (txnT c e q)), .int .i64 0]) ∧ Below V.heap.size V w') := Lib.hid (fun bo bc V hbc hV => by
    have h := row6_any ([c, e, q].map numT) bo bc (by simpa using hbc) (by simp) (fun x hx => by
      obtain ⟨v, hv, rfl⟩ := List.mem_map.1 hx
      have := (hnum v hv).2.2.2
      omega) V hV
    have e : rowP (([c, e, q].map numT).map bl) = (txnT c e q, 0) := t1
    rw [e] at h
    exact h)
  have HNUM := Lib.hid hnum
  have HROW := Lib.hid (fun V (hV : Below w.heap.size w V) => hrow.below hV)
  clear hrow hnum t1 h1 h2 h3 hm
  obtain ⟨li, hli⟩ : ∃ li, li = [c, e, q] := ⟨_, rfl⟩
  rw [← hli] at HROW HNUM HL
  have h3 : Hid (li.length = 3) := Lib.hid (by rw [hli]; rfl)
  generalize tb (txnT c e q) = res at *
  clear hli
  go_enter Tryz.func72, Tryz.ntmps72
  go_wp2_with fail
  go_loopw [8, 3] (fun iv pv wr => ∃ j : Nat, iv = .int .i64 j ∧ j ≤ 3 ∧ Hid (OwnT wr w.heap.size pv ((li.take j).map numT)) ∧ Hid (Below w.heap.size w wr)) (fun iv _ _ => 3 - (intOf iv).toNat)
  case atStart => exact ⟨0, rfl, by decide, Lib.hid (ownT_nil _ _), Lib.hid (Below.refl _ _)⟩
  case round =>
    obtain ⟨j, rfl, hj3, hown, hb⟩ := hrel
    by_cases hj : j < 3
    · have hj' : (j : Int) < 3 := by omega
      have hjl : j < li.length := by rw [h3.out]; exact hj
      obtain ⟨b, off, rfl, hlt, hcs⟩ := HROW.out _ hb.out
      have x0 := hcs j hjl
      obtain ⟨n1, n2, n3, n4⟩ := HNUM.out _ (List.getElem_mem hjl)
      have HN := fun V => num6_any li[j] n1 n2 V
      have HTK : Hid ((li.take (j + 1)).map numT = (li.take j).map numT ++ [numT li[j]]) := Lib.hid (by rw [List.take_succ_eq_append_getElem hjl, List.map_append]; rfl)
      rw [n3, show st2 ((numP li[j]).1, 0) = .tuple #[.string (numT li[j]), .int .i64 0] from rfl] at HN
      have HN := Lib.hid HN
      have HLN : Hid (((li.take j).map numT).length ≤ 3) := Lib.hid (by rw [List.length_map, List.length_take]; omega)
      generalize numT li[j] = y at *
      generalize li[j] = v at *
      clear n3 n4 hcs hjl
      go_wp2_with (first | (go_at_call 28; refine (HN.out _).mono ?_; rintro e w1 ⟨rfl, b1⟩) | (go_at_call 69; refine (made12_ok _ _).mono ?_; rintro e w2 ⟨rfl, hw⟩; rw [hw]; clear hw w2) | (at_builtin; refine wpList_appT (B := w.heap.size) (l := (li.take j).map numT) (m := [y]) (ao := some ⟨w1.heap.size, 0, none⟩) (cap := 1) rfl _ _ rfl rfl rfl rfl (ownT_below (ownT_below hown.out b1) ((Below.refl _ _).alloc (Nat.le_refl _) _)) (by have := b1.size; have := hb.out.size; rw [World.size_alloc]; omega) (txt_one w1 y) (by intro e; cases e) (by have := HLN.out; simp only [List.length_cons, List.length_nil]; omega) ?_; intro v' w' ho' hg'; have HO' := Lib.hid ho'; have HB' := Lib.hid (((hb.out.trans (b1.mono hb.out.size)).alloc (by have := b1.size; have := hb.out.size; omega) (.cells #[.string y] 9)).grown hg' (by have := b1.size; have := hb.out.size; rw [World.size_alloc]; omega) (ownT_blk hown.out)); clear ho' hg') | fail)
      go_roundw
      case rel => exact ⟨j + 1, by go_num, by omega, Lib.hid (by rw [HTK.out]; exact HO'.out), HB'⟩
      case measure => simp [intOf]; omega
    · obtain rfl : j = 3 := by omega
      have hown2 := hown.out
      rw [List.take_of_length_le (by rw [h3.out]; exact Nat.le_refl _)] at hown2
      obtain ⟨bo, bcap, rfl, hc, hr, _⟩ := own_shape12 hown2
      have hl3 : (li.map numT).length = 3 := by rw [List.length_map]; exact h3.out
      rw [hl3] at hc ⊢
      have HC := Lib.hid hc
      have HR := Lib.hid hr
      clear hown hown2 hr hc
      go_wp2_with (first | (go_at_call 70; refine (HL.out _ _ _ HC.out HR.out).mono ?_; rintro e w1 ⟨rfl, b1⟩) | (go_at_call 69; refine (made12_ok _ _).mono ?_; rintro e w2 ⟨rfl, hw⟩; rw [hw]; clear hw w2) | fail)
      go_ret
      exact ⟨rfl, below_step hb.out b1⟩
end Go.Proofs.YtbdlegjklfkdmaaGreatDoor.Pl

namespace Go.Proofs.YtbdlegjklfkdmaaGreatDoor.Pl
open Go.RowKit

theorem int_three (V : World) (c e q : Int) : IntR (V.alloc (.cells #[.int .i64 c, .int .i64 e, .int .i64 q] 3)) (some ⟨V.heap.size, 0, none⟩) [c, e, q] := by
  have h := Go.heap_alloc_new V (.cells #[.int .i64 c, .int .i64 e, .int .i64 q] 3)
  refine ⟨V.heap.size, 0, rfl, by simp, fun j hj => ?_⟩
  have : j = 0 ∨ j = 1 ∨ j = 2 := by simp at hj; omega
  rcases this with rfl | rfl | rfl <;> exact cell_of_row _ _ _ _ _ _ h
/-- A transaction's term, or why there is none. -/
def txP (c e q : Int) : List UInt8 × Nat := if mayX c e q = true then (txnT c e q, 0) else ([], 2)
set_option maxHeartbeats 4000000 in
set_option maxRecDepth 100000 in
theorem txn12x_any (c e q : Int) (w : World) : Calls Tryz.prog 27 #[.agg #[.int .i64 c, .int .i64 e, .int .i64 q]] w fun x w' => x = .returned (st2 (txP c e q)) ∧ Below w.heap.size w w' := by
  have HM := fun V => maytxn_any c e q V
  obtain ⟨W0, hW0⟩ : ∃ V, V = w.alloc (.cells #[.int .i64 c, .int .i64 e, .int .i64 q] 23) := ⟨_, rfl⟩
  have X0 := Lib.hid (show XAt W0 w.heap.size c e q from hW0 ▸ xat_new w c e q)
  have B0 := Lib.hid (show Below w.heap.size w W0 from hW0 ▸ (Below.refl _ _).alloc (Nat.le_refl _) _)
  have HW0 := Lib.hid hW0
  clear hW0
  unfold txP
  cases hm : mayX c e q with
  | false =>
    rw [hm] at HM
    rw [if_neg (by simp)]
    have HM := Lib.hid HM
    go_enter Tryz.func27, Tryz.ntmps27
    go_wp2_with (first | (go_at_call 71; rw [← HW0.out]; refine (HM.out _).mono ?_; rintro e1 V ⟨rfl, b1⟩) | fail)
    go_ret2
    exact ⟨rfl, below_step B0.out b1⟩
  | true =>
    have HNB := Lib.hid (fun ao cap V hV => numbers_any c e q hm ao cap V hV)
    rw [hm] at HM
    rw [if_pos rfl, show st2 (txnT c e q, 0) = .tuple #[.string (tb (txnT c e q)), .int .i64 0] from rfl]
    have HM := Lib.hid HM
    clear hm
    generalize tb (txnT c e q) = res at *
    go_enter Tryz.func27, Tryz.ntmps27
    go_wp2_with (first | (go_at_call 71; rw [← HW0.out]; refine (HM.out _).mono ?_; rintro e1 V ⟨rfl, b1⟩; obtain ⟨x0, x1, x2, -⟩ := (X0.out.below b1).cells) | (go_at_call 72; refine (HNB.out _ _ _ (int_three V c e q)).mono ?_; rintro e2 V2 ⟨rfl, b2⟩) | fail)
    go_ret2
    exact ⟨rfl, below_step ((below_step B0.out b1).alloc (by have := b1.size; have := B0.out.size; omega) _) b2⟩
end Go.Proofs.YtbdlegjklfkdmaaGreatDoor.Pl

namespace Go.Proofs.YtbdlegjklfkdmaaGreatDoor.Pl
open Go.RowKit

theorem num12_any (v : Int) (h0 : 0 ≤ v) (h1 : v ≤ 2147483647) (w : World) : Calls Tryz.prog 28 #[.int .i64 v] w fun e w' => e = .returned (.tuple #[.string (numT v), .int .i64 0]) ∧ Below w.heap.size w w' := by
  have h := num6_any v (by omega) (by omega) w
  rw [show numP v = ((numP v).1, 0) from Prod.ext rfl (num_ok h0 h1).1] at h
  exact h
theorem numT_size {v : Int} (h0 : 0 ≤ v) (h1 : v ≤ 2147483647) : (numT v).size ≤ 19 := by
  unfold numT tb
  rw [size_lit]
  exact (num_ok h0 h1).2.1
/-- Behind an append of texts that were laid out just before. -/
theorem app_grown12 {B : Nat} {w V w' : World} {v : Value} {l : List ByteArray} {o : Obj} (hB : Below B w V) (hs : B ≤ V.heap.size) (hown : OwnT V B v l) (hg : (V.alloc o).grownBy w' v.ownBlock) : Below B w w' :=
  (hB.alloc hs o).grown hg (by rw [World.size_alloc]; omega) (ownT_blk hown)
end Go.Proofs.YtbdlegjklfkdmaaGreatDoor.Pl

namespace Go.Proofs.YtbdlegjklfkdmaaGreatDoor.Pl
open Go.RowKit

/-- The members that are gone over. -/
def listL (b : Bt) : List Mb := if mayX b.c b.e b.q = true ∧ orgP b.aud = true ∧ mayL b.c b.mem = true then b.mem else []
def zeroMb : Mb := (0, ⟨#[]⟩)
/-- The member whose ballot it is. -/
def voterP (b : Bt) : Mb × Bool := match placeP b.org (listL b) with | some i => ((listL b).getD i zeroMb, true) | none => (zeroMb, false)
theorem place_nil (o : Int) : placeP o [] = none := rfl
theorem place_no {o : Int} : ∀ {l : List Mb}, (∀ m ∈ l, m.1 ≠ o) → placeP o l = none
  | [], _ => rfl
  | a :: r, h => by
    unfold placeP
    rw [if_neg (h a (by simp)), place_no (fun m hm => h m (by simp [hm]))]
    rfl
theorem place_hit {o : Int} {x : Mb} {r : List Mb} : ∀ {q : List Mb}, (∀ m ∈ q, m.1 ≠ o) → x.1 = o → placeP o (q ++ x :: r) = some q.length
  | [], _, e => by unfold placeP; exact if_pos e
  | a :: q, h, e => by
    show (if a.1 = o then some 0 else (placeP o (q ++ x :: r)).map (· + 1)) = some (q.length + 1)
    rw [if_neg (h a (by simp)), place_hit (fun m hm => h m (by simp [hm])) e]
    rfl
theorem mayMs_low {c : Int} : ∀ {last : Int} {l : List Mb}, mayMs c last l = true → ∀ m ∈ l, last < m.1
  | _, [], _, m, hm => by cases hm
  | last, x :: r, h, m, hm => by
    simp only [mayMs, Bool.and_eq_true] at h
    have h1 : last < x.1 := by
      have := h.1
      simp only [mayM1, Bool.and_eq_true, decide_eq_true_eq] at this
      exact this.1.2
    rcases List.mem_cons.1 hm with rfl | hm
    · exact h1
    · have := mayMs_low h.2 m hm; omega
theorem mayMs_after {c : Int} {x : Mb} {r : List Mb} : ∀ {last : Int} {q : List Mb}, mayMs c last (q ++ x :: r) = true → ∀ m ∈ r, x.1 < m.1
  | _, [], h, m, hm => by
    have h' : mayMs c _ (x :: r) = true := h
    simp only [mayMs, Bool.and_eq_true] at h'
    exact mayMs_low h'.2 m hm
  | _, a :: q, h, m, hm => by
    have h' : mayMs c _ (a :: (q ++ x :: r)) = true := h
    simp only [mayMs, Bool.and_eq_true] at h'
    exact mayMs_after h'.2 m hm
theorem listL_asc {b : Bt} {q r : List Mb} {x : Mb} (h : listL b = q ++ x :: r) : ∀ m ∈ r, x.1 < m.1 := by
  unfold listL at h
  split at h
  · rename_i k
    have := (mayL_iff.1 k.2.2).2.2
    rw [h] at this
    exact mayMs_after this
  · exact absurd (congrArg List.length h) (by simp)
theorem voter_all {b : Bt} (h : ∀ m ∈ listL b, m.1 < b.org) : voterP b = (zeroMb, false) := by
  unfold voterP
  rw [place_no (fun m hm => by have := h m hm; omega)]
theorem voter_hit {b : Bt} {q : List Mb} {x : Mb} (hp : q ++ [x] <+: listL b) (h : ∀ m ∈ q, m.1 < b.org) (e : x.1 = b.org) : voterP b = (x, true) := by
  obtain ⟨r, hr⟩ := hp
  rw [List.append_assoc] at hr
  have k : placeP b.org (listL b) = some q.length := by
    rw [← hr]
    exact place_hit (fun m hm => by have := h m hm; omega) e
  unfold voterP
  rw [k]
  show ((listL b).getD q.length zeroMb, true) = _
  rw [← hr]
  simp
theorem voter_miss {b : Bt} {q : List Mb} {x : Mb} (hp : q ++ [x] <+: listL b) (h : ∀ m ∈ q, m.1 < b.org) (e : b.org < x.1) : voterP b = (zeroMb, false) := by
  obtain ⟨r, hr⟩ := hp
  rw [List.append_assoc] at hr
  have hr' : listL b = q ++ x :: r := hr.symm
  unfold voterP
  rw [place_no (fun m hm => by
    rw [hr'] at hm
    rcases List.mem_append.1 hm with hm | hm
    · have := h m hm; omega
    · rcases List.mem_cons.1 hm with rfl | hm
      · omega
      · have := listL_asc hr' m hm; omega)]
theorem voter_may (b : Bt) : (voterP b).2 = mayBt b := by
  unfold voterP listL mayBt
  by_cases k : mayX b.c b.e b.q = true ∧ orgP b.aud = true ∧ mayL b.c b.mem = true
  · rw [if_pos k, k.1, k.2.1, k.2.2]
    cases placeP b.org b.mem <;> rfl
  · rw [if_neg k, place_nil]
    show false = _
    cases h1 : mayX b.c b.e b.q <;> cases h2 : orgP b.aud <;> cases h3 : mayL b.c b.mem <;> first | rfl | exact absurd ⟨h1, h2, h3⟩ k
theorem voter_digest (b : Bt) : (voterP b).1.2 = digestP b := by
  unfold voterP listL digestP
  by_cases k : mayX b.c b.e b.q = true ∧ orgP b.aud = true ∧ mayL b.c b.mem = true
  · rw [if_pos k]
    have hm : mayBt b = (placeP b.org b.mem).isSome := by unfold mayBt; rw [k.1, k.2.1, k.2.2]; rfl
    rw [hm]
    cases h : placeP b.org b.mem with
    | none => rfl
    | some i =>
      obtain ⟨hi, _⟩ := place_at h
      show (b.mem.getD i zeroMb).2 = (b.mem.getD i (0, ByteArray.empty)).2
      rw [List.getD_eq_getElem?_getD, List.getD_eq_getElem?_getD, List.getElem?_eq_getElem hi]
      rfl
  · rw [if_neg k, place_nil]
    have hm : mayBt b = false := by
      unfold mayBt
      cases h1 : mayX b.c b.e b.q <;> cases h2 : orgP b.aud <;> cases h3 : mayL b.c b.mem <;> first | rfl | exact absurd ⟨h1, h2, h3⟩ k
    rw [hm]
    rfl
end Go.Proofs.YtbdlegjklfkdmaaGreatDoor.Pl
