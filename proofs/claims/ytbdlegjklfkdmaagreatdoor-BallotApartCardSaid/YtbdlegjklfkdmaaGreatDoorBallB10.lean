/- Members of wire. The tag of a ballot in a suite, over plain bytes; of a suite of terms it fits one ballot alone. Members of wire, as a whole. -/
import Derived.Test.YtbdlegjklfkdmaaGreatDoorBallB9
import Derived.Test.YtbdlegjklfkdmaaGreatDoorBallB2
import Derived.Test.YtbdlegjklfkdmaaGreatDoorBallB1
namespace Go.Proofs.YtbdlegjklfkdmaaGreatDoor.Pl
open Go.RowKit

def memT2 (m : Mb) : ByteArray := tb (memT m).1
theorem memT_err {m : Mb} (ho : orgP m.1 = true) (hc : checkP (bl m.2) = 0) : (memT m).2 = 0 ∨ memT m = ([], 5) := by
  have h := orgP_iff.1 ho
  refine row_err fun x hx => ?_
  simp only [List.mem_cons, List.not_mem_nil, or_false] at hx
  rcases hx with rfl | rfl
  · obtain ⟨s, e, h2, _⟩ := num_read (v := m.1) (by omega) (by omega)
    rw [e]; exact h2
  · exact hc
theorem memT_size (m : Mb) : (memT2 m).size ≤ 16384 := by
  unfold memT2 tb
  rw [size_lit]
  unfold memT rowP madeP
  split
  · split
    · rename_i h; exact check_len h
    · simp
  · simp
theorem rowP_size (l : List (List UInt8)) : (rowP l).1.length ≤ 16384 := by
  unfold rowP madeP
  split
  · split
    · rename_i h; exact check_len h
    · simp
  · simp
theorem membersT_no {l : List Mb} {m : Mb} (hm : m ∈ l) (h : (memT m).2 ≠ 0) : membersT l = ([], 5) := by
  unfold membersT
  rw [if_neg (fun k => h (k m hm))]
/-- What Members's closure leaves. -/
def RdMt (l : List Mb) (w : World) (s : Nat) (z : Nat) (V : World) : Prop := (z = if (membersT l).2 = 0 then 0 else 5) ∧ Boxed V s 9 (.string (if (membersT l).2 = 0 then tb (membersT l).1 else ⟨#[]⟩)) ∧ Below w.heap.size w V

set_option maxHeartbeats 8000000 in
set_option maxRecDepth 100000 in
theorem mt1_any (l : List Mb) (c : Int) (hl : mayL c l = true) (hsz : ∀ x ∈ l, x.2.size ≤ 30000) (ao : Option Addr) (cap : Nat) (lb s : Nat) (w0 W : World) (eb : Nat) (hlb : Boxed W lb 24 (.slice ao l.length cap)) (hrow : MemRow W ao l) (hs : Boxed W s 9 (.string ⟨#[]⟩)) (he : Boxed W eb 29 (.int .i64 0)) (hne : eb ≠ s) (hs0 : w0.heap.size ≤ s) (hB : Below w0.heap.size w0 W) :
    Calls Tryz.prog 68 #[ptr12 lb, ptr12 s] W (DonePost eb (RdMt l w0 s)) := by
  obtain ⟨hl1, hl6, hms⟩ := mayL_iff.1 hl
  have hall := mayMs_all hms
  have c0 := hlb.cell
  obtain ⟨B, hBB⟩ : ∃ B, B = W.heap.size := ⟨_, rfl⟩
  have HKEEP : Hid (∀ V, Below B W V → Boxed V s 9 (.string ⟨#[]⟩) ∧ Boxed V eb 29 (.int .i64 0) ∧ Below w0.heap.size w0 V) := Lib.hid (fun V h => by
    rw [hBB] at h
    exact ⟨(h.block _ (Array.getElem?_eq_some_iff.1 hs).1).trans hs, (h.block _ (Array.getElem?_eq_some_iff.1 he).1).trans he, below_step hB h⟩)
  have HROW := Lib.hid (fun V (hV : Below B W V) => hrow.below (by rw [hBB] at hV; exact hV))
  have HALL := Lib.hid hall
  have HSZM := Lib.hid hsz
  have HBZ : Hid (B = W.heap.size) := Lib.hid hBB
  have HSL : Hid (s < W.heap.size ∧ eb ≠ s ∧ w0.heap.size ≤ s) := Lib.hid ⟨(Array.getElem?_eq_some_iff.1 hs).1, hne, hs0⟩
  obtain ⟨n, hn⟩ : ∃ n, n = l.length := ⟨_, rfl⟩
  have hn6 : n ≤ 6 := by omega
  have HN6 := Lib.hid hn
  rw [← hn] at c0
  clear hl1 hl6 hms hall hlb hrow hs he hB hBB hn hsz hl
  go_enter Tryz.func68, Tryz.ntmps68
  go_wp2_with fail
  go_loopw [7, 2] (fun iv pv wr => ∃ j : Nat, iv = .int .i64 j ∧ j ≤ n ∧ Hid (OwnT wr B pv ((l.take j).map memT2)) ∧ Hid (∀ m ∈ l.take j, (memT m).2 = 0) ∧ Hid (Below B W wr)) (fun iv _ _ => n - (intOf iv).toNat)
  case atStart => exact ⟨0, rfl, Nat.zero_le _, Lib.hid (ownT_nil _ _), Lib.hid (fun m hm => by cases hm), Lib.hid (Below.refl _ _)⟩
  case round =>
    obtain ⟨j, rfl, hjn, hown, hok, hb⟩ := hrel
    by_cases hj : j < n
    · have hj' : (j : Int) < (n : Int) := by omega
      have hjl : j < l.length := by rw [← HN6.out]; exact hj
      rcases HROW.out _ hb.out with e | ⟨b, off, rfl, hlt, hcs⟩
      · exfalso
        rw [e] at hjl
        exact absurd hjl (Nat.not_lt_zero _)
      obtain ⟨y0, y1⟩ := hcs j hjl
      have hml := List.getElem_mem hjl
      obtain ⟨ho1, ho2, _⟩ := HALL.out _ hml
      have hod := HSZM.out _ hml
      have hio := orgP_iff.1 ho1
      have HN := Lib.hid (fun V => num12_any l[j].1 hio.1 (by omega) V)
      have herr := memT_err ho1 ho2
      have HRW : ∀ (bo : Option Addr) (V : World), TxtRow V bo [numT l[j].1, l[j].2] → Calls Tryz.prog 70 #[.slice bo 2 2] V fun e w' => e = .returned (st2 (memT l[j])) ∧ Below V.heap.size V w' := fun bo V hR => row6_any [numT l[j].1, l[j].2] bo 2 (by simp) (by simp) (fun x hx => by
        simp only [List.mem_cons, List.not_mem_nil, or_false] at hx
        rcases hx with rfl | rfl
        · have := numT_size hio.1 (show l[j].1 ≤ 2147483647 by omega); omega
        · omega) V hR
      have HTK : Hid ((l.take (j + 1)).map memT2 = (l.take j).map memT2 ++ [memT2 l[j]]) := Lib.hid (by rw [List.take_succ_eq_append_getElem hjl, List.map_append]; rfl)
      have HOK : Hid ((memT l[j]).2 = 0 → ∀ m ∈ l.take (j + 1), (memT m).2 = 0) := Lib.hid (fun h m hm => by
        rw [List.take_succ_eq_append_getElem hjl] at hm
        rcases List.mem_append.1 hm with hm | hm
        · exact hok.out m hm
        · rw [List.mem_singleton.1 hm]; exact h)
      have HNOT : Hid ((memT l[j]).2 ≠ 0 → membersT l = ([], 5)) := Lib.hid (fun h => membersT_no hml h)
      have HMT2 : Hid (memT2 l[j] = tb (memT l[j]).1) := Lib.hid rfl
      have HLN : Hid (((l.take j).map memT2).length ≤ 100) := Lib.hid (by rw [List.length_map, List.length_take]; omega)
      generalize numT l[j].1 = nt at *
      generalize memT2 l[j] = mt at *
      generalize memT l[j] = mr at *
      generalize l[j] = m at *
      obtain ⟨og, dg⟩ := m
      dsimp only at *
      generalize (l.take j).map memT2 = L at *
      obtain ⟨W2, hW2, n0, k2, b2, s2⟩ := row_box wr #[.int .i64 0, .string ⟨#[]⟩] #[.int .i64 og, .string dg] 51
      have MM : Hid (MAt W2.drew wr.heap.size og dg) := Lib.hid k2
      have BB := Lib.hid (below_step b2 (drew12 W2))
      have HMC : Hid (∀ V, MAt V wr.heap.size og dg → V.cell? ⟨wr.heap.size, 0, none⟩ = some (.int .i64 og) ∧ V.cell? ⟨wr.heap.size, 1, none⟩ = some (.string dg)) := Lib.hid (fun V h => ⟨h.cells.1, h.cells.2.1⟩)
      have KS := HMC.out _ MM.out
      have HOWN : Hid (∀ V, Below wr.heap.size wr V → OwnT V B u2 L) := Lib.hid (fun V hV => ownT_below hown.out hV)
      have HSZ : Hid (∀ V, Below wr.heap.size wr V → B ≤ V.heap.size) := Lib.hid (fun V hV => by have := hb.out.size; have := hV.size; have := HBZ.out; omega)
      have HBW : Hid (B ≤ wr.heap.size) := Lib.hid (by have := hb.out.size; have := HBZ.out; omega)
      have HNB : Hid (some wr.heap.size ≠ u2.ownBlock) := Lib.hid (fun e => by have := hown.out.lt _ e.symm; omega)
      have N0 := Lib.hid n0
      have HW2 := Lib.hid hW2
      have HBX := hb
      clear hcs hlt hml ho1 ho2 hod hio hjl n0 hW2 k2 b2 s2 hown hb
      rcases herr with h0 | h5
      · have e1 : st2 mr = .tuple #[.string mt, .int .i64 0] := by rw [HMT2.out, show mr = (mr.1, 0) from Prod.ext rfl h0]; rfl
        rw [e1] at HRW
        have HRW := Lib.hid HRW
        have HOK2 := Lib.hid (HOK.out h0)
        clear h0 e1 HOK HNOT HMT2
        go_wp2_with (first | (refine wpList_store_row rfl 51 _ _ rfl wr.heap.size #[.int .i64 og, .string dg] rfl rfl 51 #[.int .i64 0, .string ⟨#[]⟩] N0.out (mem_info _ _) rfl (mem_one _ _) ?_; rw [← HW2.out]) | fail)
        refine wp_region_held_drew (S := fun W => W.cell? ⟨wr.heap.size, 0, none⟩ = some (.int .i64 og) ∧ W.cell? ⟨wr.heap.size, 1, none⟩ = some (.string dg)) (by kernel_rfl) (by first | assumption | exact KS) (fun hHeld => ?_)
        generalize W2.drew = wz at *
        refine wpAnyH_take (i := 0) (oi := { dst := some 11, op := Op.move (Operand.tmp 2), type := 53, pos := "wire.go:138", after := #[], guard := none }) (v := ?_) rfl (by kernel_rfl) (by kernel_rfl) (by kernel_rfl) (fun _ _ _ h => h) (Or.inl ⟨by rfl, ?_⟩) (by assumption) ?_
        rotate_left 1
        · (intro w hSw; (try dsimp only at hSw); go_simp; try with_reducible rfl)
        (try simp only [Act.put, List.setIfInBounds_toArray, List.set_cons_zero, List.set_cons_succ])
        refine wpAnyH_take (i := 1) (oi := { dst := some 12, op := Op.fieldAddr 51 (Operand.tmp 4) 0, type := 0, pos := "wire.go:138", after := #[], guard := none }) (v := ?_) rfl (by kernel_rfl) (by kernel_rfl) (by kernel_rfl) (fun _ _ _ h => h) (Or.inl ⟨by rfl, ?_⟩) (by assumption) ?_
        rotate_left 1
        · (intro w hSw; (try dsimp only at hSw); go_simp; try with_reducible rfl)
        (try simp only [Act.put, List.setIfInBounds_toArray, List.set_cons_zero, List.set_cons_succ])
        refine wpAnyH_take (i := 2) (oi := { dst := some 13, op := Op.load 3 (Operand.tmp 12), type := 3, pos := "wire.go:138", after := #[{ on := 1, ground := Ground.data }], guard := none }) (v := ?_) rfl (by kernel_rfl) (by kernel_rfl) (by kernel_rfl) (fun _ _ _ h => h) (Or.inl ⟨by rfl, ?_⟩) (by assumption) ?_
        rotate_left 1
        · (intro w hSw; (try dsimp only at hSw); go_simp; try with_reducible rfl)
        (try simp only [Act.put, List.setIfInBounds_toArray, List.set_cons_zero, List.set_cons_succ])
        refine wpAnyH_take (i := 7) (oi := { dst := some 18, op := Op.fieldAddr 51 (Operand.tmp 4) 1, type := 0, pos := "wire.go:138", after := #[], guard := none }) (v := ?_) rfl (by kernel_rfl) (by kernel_rfl) (by kernel_rfl) (fun _ _ _ h => h) (Or.inl ⟨by rfl, ?_⟩) (by assumption) ?_
        rotate_left 1
        · (intro w hSw; (try dsimp only at hSw); go_simp; try with_reducible rfl)
        (try simp only [Act.put, List.setIfInBounds_toArray, List.set_cons_zero, List.set_cons_succ])
        refine wpAnyH_take (i := 8) (oi := { dst := some 19, op := Op.load 9 (Operand.tmp 18), type := 9, pos := "wire.go:138", after := #[{ on := 7, ground := Ground.data }], guard := none }) (v := ?_) rfl (by kernel_rfl) (by kernel_rfl) (by kernel_rfl) (fun _ _ _ h => h) (Or.inl ⟨by rfl, ?_⟩) (by assumption) ?_
        rotate_left 1
        · (intro w hSw; (try dsimp only at hSw); go_simp; try with_reducible rfl)
        (try simp only [Act.put, List.setIfInBounds_toArray, List.set_cons_zero, List.set_cons_succ])
        refine wpAnyH_ready (rs := [3]) (by kernel_rfl) (by simp) ?_
        refine AllReadyH.cons (o := { dst := some 14, op := Op.call { callee := Callee.value (Operand.func 28), args := #[Operand.tmp 13], argTypes := #[3] }, type := 30, pos := "wire.go:138", after := #[{ on := 2, ground := Ground.data }], guard := none }) rfl (fun K hK => ?_) AllReadyH.nil
        go_simp
        refine (HN.out _).mono ?_; rintro e w1 ⟨rfl, b1⟩
        have MM := Lib.hid (MM.out.below b1)
        have BB := Lib.hid (below_step BB.out b1)
        clear b1
        refine hK.out _ _ (HMC.out _ MM.out) (fun hHeld => ?_)
        clear hK K
        (try simp only [Act.put, List.setIfInBounds_toArray, List.set_cons_zero, List.set_cons_succ])
        refine wpAnyH_take (i := 4) (oi := { dst := some 15, op := Op.extract (Operand.tmp 14) 0, type := 9, pos := "wire.go:138", after := #[{ on := 3, ground := Ground.data }], guard := none }) (v := ?_) rfl (by kernel_rfl) (by kernel_rfl) (by kernel_rfl) (fun _ _ _ h => h) (Or.inl ⟨by rfl, ?_⟩) (by assumption) ?_
        rotate_left 1
        · (intro w hSw; (try dsimp only at hSw); go_simp; try with_reducible rfl)
        (try simp only [Act.put, List.setIfInBounds_toArray, List.set_cons_zero, List.set_cons_succ])
        refine wpAnyH_take (i := 5) (oi := { dst := some 16, op := Op.extract (Operand.tmp 14) 1, type := 29, pos := "wire.go:138", after := #[{ on := 3, ground := Ground.data }], guard := none }) (v := ?_) rfl (by kernel_rfl) (by kernel_rfl) (by kernel_rfl) (fun _ _ _ h => h) (Or.inl ⟨by rfl, ?_⟩) (by assumption) ?_
        rotate_left 1
        · (intro w hSw; (try dsimp only at hSw); go_simp; try with_reducible rfl)
        (try simp only [Act.put, List.setIfInBounds_toArray, List.set_cons_zero, List.set_cons_succ])
        refine wpAnyH_ready (rs := [6]) (by kernel_rfl) (by simp) ?_
        refine AllReadyH.cons (o := { dst := some 17, op := Op.call { callee := Callee.value (Operand.func 69), args := #[Operand.tmp 15, Operand.tmp 16], argTypes := #[9, 29] }, type := 9, pos := "wire.go:138", after := #[{ on := 4, ground := Ground.data }, { on := 5, ground := Ground.data }, { on := 3, ground := Ground.chain }], guard := none }) rfl (fun K hK => ?_) AllReadyH.nil
        go_simp
        refine (made12_ok _ _).mono ?_; rintro e w2 ⟨rfl, hw⟩; rw [hw]; clear hw w2
        refine hK.out _ _ (HMC.out _ MM.out) (fun hHeld => ?_)
        clear hK K
        (try simp only [Act.put, List.setIfInBounds_toArray, List.set_cons_zero, List.set_cons_succ])
        refine wpAnyH_ready (rs := [9]) (by kernel_rfl) (by simp) ?_
        refine AllReadyH.cons (o := { dst := some 20, op := Op.buildSlice 53 2 #[(0, Operand.tmp 17), (1, Operand.tmp 19)], type := 53, pos := "wire.go:138", after := #[{ on := 6, ground := Ground.data }, { on := 8, ground := Ground.data }], guard := none }) rfl (fun K hK => ?_) AllReadyH.nil
        go_simp
        obtain ⟨W4, hW4⟩ : ∃ V, V = w1.alloc (.cells #[.string nt, .string dg] 9) := ⟨_, rfl⟩
        have ba : Below w1.heap.size w1 W4 := by rw [hW4]; exact (Below.refl _ _).alloc (Nat.le_refl _) _
        have T2 := Lib.hid (show TxtRow W4 (some ⟨w1.heap.size, 0, none⟩) [nt, dg] from hW4 ▸ txt_two12 w1 nt dg)
        have MM := Lib.hid (MM.out.below ba)
        have BB := Lib.hid (below_step BB.out ba)
        rw [← hW4]
        clear ba hW4
        refine hK.out _ _ (HMC.out _ MM.out) (fun hHeld => ?_)
        clear hK K
        (try simp only [Act.put, List.setIfInBounds_toArray, List.set_cons_zero, List.set_cons_succ])
        refine wpAnyH_ready (rs := [10]) (by kernel_rfl) (by simp) ?_
        refine AllReadyH.cons (o := { dst := some 21, op := Op.call { callee := Callee.value (Operand.func 70), args := #[Operand.tmp 20], argTypes := #[53] }, type := 30, pos := "wire.go:138", after := #[{ on := 9, ground := Ground.data }, { on := 6, ground := Ground.chain }], guard := none }) rfl (fun K hK => ?_) AllReadyH.nil
        go_simp
        refine (HRW.out _ _ T2.out).mono ?_; rintro e w5 ⟨rfl, b5⟩
        have MM := Lib.hid (MM.out.below b5)
        have BB := Lib.hid (below_step BB.out b5)
        clear b5
        refine hK.out _ _ (HMC.out _ MM.out) (fun hHeld => ?_)
        clear hK K
        (try simp only [Act.put, List.setIfInBounds_toArray, List.set_cons_zero, List.set_cons_succ])
        refine wpAnyH_take (i := 11) (oi := { dst := some 22, op := Op.extract (Operand.tmp 21) 0, type := 9, pos := "wire.go:138", after := #[{ on := 10, ground := Ground.data }], guard := none }) (v := ?_) rfl (by kernel_rfl) (by kernel_rfl) (by kernel_rfl) (fun _ _ _ h => h) (Or.inl ⟨by rfl, ?_⟩) (by assumption) ?_
        rotate_left 1
        · (intro w hSw; (try dsimp only at hSw); go_simp; try with_reducible rfl)
        (try simp only [Act.put, List.setIfInBounds_toArray, List.set_cons_zero, List.set_cons_succ])
        refine wpAnyH_take (i := 12) (oi := { dst := some 23, op := Op.extract (Operand.tmp 21) 1, type := 29, pos := "wire.go:138", after := #[{ on := 10, ground := Ground.data }], guard := none }) (v := ?_) rfl (by kernel_rfl) (by kernel_rfl) (by kernel_rfl) (fun _ _ _ h => h) (Or.inl ⟨by rfl, ?_⟩) (by assumption) ?_
        rotate_left 1
        · (intro w hSw; (try dsimp only at hSw); go_simp; try with_reducible rfl)
        (try simp only [Act.put, List.setIfInBounds_toArray, List.set_cons_zero, List.set_cons_succ])
        refine wpAnyH_ready (rs := [13]) (by kernel_rfl) (by simp) ?_
        refine AllReadyH.cons (o := { dst := some 24, op := Op.call { callee := Callee.value (Operand.func 69), args := #[Operand.tmp 22, Operand.tmp 23], argTypes := #[9, 29] }, type := 9, pos := "wire.go:138", after := #[{ on := 11, ground := Ground.data }, { on := 12, ground := Ground.data }, { on := 10, ground := Ground.chain }], guard := none }) rfl (fun K hK => ?_) AllReadyH.nil
        go_simp
        refine (made12_ok _ _).mono ?_; rintro e w6 ⟨rfl, hw⟩; rw [hw]; clear hw w6
        refine hK.out _ _ (HMC.out _ MM.out) (fun hHeld => ?_)
        clear hK K
        (try simp only [Act.put, List.setIfInBounds_toArray, List.set_cons_zero, List.set_cons_succ])
        refine wpAnyH_ready (rs := [14]) (by kernel_rfl) (by simp) ?_
        refine AllReadyH.cons (o := { dst := some 25, op := Op.buildSlice 53 1 #[(0, Operand.tmp 24)], type := 53, pos := "wire.go:138", after := #[{ on := 13, ground := Ground.data }], guard := none }) rfl (fun K hK => ?_) AllReadyH.nil
        go_simp
        have M7 := Lib.hid (MM.out.below ((Below.refl w5.heap.size w5).alloc (Nat.le_refl _) (.cells #[.string mt] 9)))
        refine hK.out _ _ (HMC.out _ M7.out) (fun hHeld => ?_)
        clear hK K
        (try simp only [Act.put, List.setIfInBounds_toArray, List.set_cons_zero, List.set_cons_succ])
        refine wpAnyH_ready (rs := [15]) (by kernel_rfl) (by simp) ?_
        refine AllReadyH.cons (o := { dst := some 26, op := Op.call { callee := Callee.builtin Builtin.append, args := #[Operand.tmp 11, Operand.tmp 25], argTypes := #[53, 53] }, type := 53, pos := "wire.go:138", after := #[{ on := 0, ground := Ground.data }, { on := 14, ground := Ground.data }, { on := 13, ground := Ground.chain }], guard := none }) rfl (fun K hK => ?_) AllReadyH.nil
        have hO5 := HOWN.out _ BB.out
        have hs5 := HSZ.out _ BB.out
        refine wpOp_appT (by kernel_rfl) _ _ rfl rfl (B := B) (v := u2) (l := L) (m := [mt]) (ao := some ⟨w5.heap.size, 0, none⟩) (cap := 1) rfl rfl (ownT_below hO5 ((Below.refl w5.heap.size w5).alloc (Nat.le_refl _) _)) (by rw [World.size_alloc]; omega) (txt_one w5 mt) (by intro e; cases e) (by have := HLN.out; simp only [List.length_cons, List.length_nil]; omega) ?_
        intro v' w' ho' hg'
        have M8 := Lib.hid (show MAt w' wr.heap.size og dg from (hg'.block _ M7.out.lt HNB.out).trans M7.out)
        have O8 := Lib.hid ho'
        have B8 := Lib.hid (app_grown12 (B := B) (w := wr) (BB.out.mono HBW.out) hs5 hO5 hg')
        clear ho' hg' hO5
        refine hK.out _ _ (HMC.out _ M8.out) (fun hHeld => ?_)
        clear hK K
        (try simp only [Act.put, List.setIfInBounds_toArray, List.set_cons_zero, List.set_cons_succ])
        refine wpAnyH_take (i := 16) (oi := { dst := some 2, op := Op.assign (Operand.tmp 26), type := 53, pos := "wire.go:138", after := #[{ on := 15, ground := Ground.data }, { on := 15, ground := Ground.chain }, { on := 0, ground := Ground.phase }, { on := 1, ground := Ground.phase }, { on := 2, ground := Ground.phase }, { on := 3, ground := Ground.phase }, { on := 4, ground := Ground.phase }, { on := 5, ground := Ground.phase }, { on := 6, ground := Ground.phase }, { on := 7, ground := Ground.phase }, { on := 8, ground := Ground.phase }, { on := 9, ground := Ground.phase }, { on := 10, ground := Ground.phase }, { on := 11, ground := Ground.phase }, { on := 12, ground := Ground.phase }, { on := 13, ground := Ground.phase }, { on := 14, ground := Ground.phase }, { on := 15, ground := Ground.phase }], guard := none }) (v := ?_) rfl (by kernel_rfl) (by kernel_rfl) (by kernel_rfl) (fun _ _ _ h => h) (Or.inl ⟨by rfl, ?_⟩) (by assumption) ?_
        rotate_left 1
        · (intro w hSw; (try dsimp only at hSw); go_simp; try with_reducible rfl)
        (try simp only [Act.put, List.setIfInBounds_toArray, List.set_cons_zero, List.set_cons_succ])
        refine wpAnyH_done (by kernel_rfl) ?_ _
        go_wp2_with fail
        go_roundw
        case rel => exact ⟨j + 1, by go_num, by omega, Lib.hid (by rw [HTK.out]; exact O8.out), HOK2, Lib.hid ((HBX.out.trans B8.out))⟩
        case measure => simp [intOf]; omega
      · rw [h5, show st2 (([] : List UInt8), 5) = .tuple #[.string ⟨#[]⟩, .int .i64 5] from rfl] at HRW
        have HRW := Lib.hid HRW
        have hno := HNOT.out (by rw [h5]; decide)
        have HBAD : Hid (∀ V, Below wr.heap.size wr V → DonePost eb (RdMt l w0 s) (boom12 5) V) := Lib.hid (fun V hV => by
          obtain ⟨k1, k2, k3⟩ := HKEEP.out V (HBX.out.trans (hV.mono HBW.out))
          refine ⟨k2, .inr ⟨5, rfl, ?_, ?_, k3⟩⟩
          · rw [hno]; rfl
          · rw [hno]; exact k1)
        clear h5 HOK HNOT HMT2 hno
        go_wp2_with (first | (refine wpList_store_row rfl 51 _ _ rfl wr.heap.size #[.int .i64 og, .string dg] rfl rfl 51 #[.int .i64 0, .string ⟨#[]⟩] N0.out (mem_info _ _) rfl (mem_one _ _) ?_; rw [← HW2.out]) | fail)
        refine wp_region_held_drew (S := fun W => W.cell? ⟨wr.heap.size, 0, none⟩ = some (.int .i64 og) ∧ W.cell? ⟨wr.heap.size, 1, none⟩ = some (.string dg)) (by kernel_rfl) (by first | assumption | exact KS) (fun hHeld => ?_)
        generalize W2.drew = wz at *
        refine wpAnyH_take (i := 0) (oi := { dst := some 11, op := Op.move (Operand.tmp 2), type := 53, pos := "wire.go:138", after := #[], guard := none }) (v := ?_) rfl (by kernel_rfl) (by kernel_rfl) (by kernel_rfl) (fun _ _ _ h => h) (Or.inl ⟨by rfl, ?_⟩) (by assumption) ?_
        rotate_left 1
        · (intro w hSw; (try dsimp only at hSw); go_simp; try with_reducible rfl)
        (try simp only [Act.put, List.setIfInBounds_toArray, List.set_cons_zero, List.set_cons_succ])
        refine wpAnyH_take (i := 1) (oi := { dst := some 12, op := Op.fieldAddr 51 (Operand.tmp 4) 0, type := 0, pos := "wire.go:138", after := #[], guard := none }) (v := ?_) rfl (by kernel_rfl) (by kernel_rfl) (by kernel_rfl) (fun _ _ _ h => h) (Or.inl ⟨by rfl, ?_⟩) (by assumption) ?_
        rotate_left 1
        · (intro w hSw; (try dsimp only at hSw); go_simp; try with_reducible rfl)
        (try simp only [Act.put, List.setIfInBounds_toArray, List.set_cons_zero, List.set_cons_succ])
        refine wpAnyH_take (i := 2) (oi := { dst := some 13, op := Op.load 3 (Operand.tmp 12), type := 3, pos := "wire.go:138", after := #[{ on := 1, ground := Ground.data }], guard := none }) (v := ?_) rfl (by kernel_rfl) (by kernel_rfl) (by kernel_rfl) (fun _ _ _ h => h) (Or.inl ⟨by rfl, ?_⟩) (by assumption) ?_
        rotate_left 1
        · (intro w hSw; (try dsimp only at hSw); go_simp; try with_reducible rfl)
        (try simp only [Act.put, List.setIfInBounds_toArray, List.set_cons_zero, List.set_cons_succ])
        refine wpAnyH_take (i := 7) (oi := { dst := some 18, op := Op.fieldAddr 51 (Operand.tmp 4) 1, type := 0, pos := "wire.go:138", after := #[], guard := none }) (v := ?_) rfl (by kernel_rfl) (by kernel_rfl) (by kernel_rfl) (fun _ _ _ h => h) (Or.inl ⟨by rfl, ?_⟩) (by assumption) ?_
        rotate_left 1
        · (intro w hSw; (try dsimp only at hSw); go_simp; try with_reducible rfl)
        (try simp only [Act.put, List.setIfInBounds_toArray, List.set_cons_zero, List.set_cons_succ])
        refine wpAnyH_take (i := 8) (oi := { dst := some 19, op := Op.load 9 (Operand.tmp 18), type := 9, pos := "wire.go:138", after := #[{ on := 7, ground := Ground.data }], guard := none }) (v := ?_) rfl (by kernel_rfl) (by kernel_rfl) (by kernel_rfl) (fun _ _ _ h => h) (Or.inl ⟨by rfl, ?_⟩) (by assumption) ?_
        rotate_left 1
        · (intro w hSw; (try dsimp only at hSw); go_simp; try with_reducible rfl)
        (try simp only [Act.put, List.setIfInBounds_toArray, List.set_cons_zero, List.set_cons_succ])
        refine wpAnyH_ready (rs := [3]) (by kernel_rfl) (by simp) ?_
        refine AllReadyH.cons (o := { dst := some 14, op := Op.call { callee := Callee.value (Operand.func 28), args := #[Operand.tmp 13], argTypes := #[3] }, type := 30, pos := "wire.go:138", after := #[{ on := 2, ground := Ground.data }], guard := none }) rfl (fun K hK => ?_) AllReadyH.nil
        go_simp
        refine (HN.out _).mono ?_; rintro e w1 ⟨rfl, b1⟩
        have MM := Lib.hid (MM.out.below b1)
        have BB := Lib.hid (below_step BB.out b1)
        clear b1
        refine hK.out _ _ (HMC.out _ MM.out) (fun hHeld => ?_)
        clear hK K
        (try simp only [Act.put, List.setIfInBounds_toArray, List.set_cons_zero, List.set_cons_succ])
        refine wpAnyH_take (i := 4) (oi := { dst := some 15, op := Op.extract (Operand.tmp 14) 0, type := 9, pos := "wire.go:138", after := #[{ on := 3, ground := Ground.data }], guard := none }) (v := ?_) rfl (by kernel_rfl) (by kernel_rfl) (by kernel_rfl) (fun _ _ _ h => h) (Or.inl ⟨by rfl, ?_⟩) (by assumption) ?_
        rotate_left 1
        · (intro w hSw; (try dsimp only at hSw); go_simp; try with_reducible rfl)
        (try simp only [Act.put, List.setIfInBounds_toArray, List.set_cons_zero, List.set_cons_succ])
        refine wpAnyH_take (i := 5) (oi := { dst := some 16, op := Op.extract (Operand.tmp 14) 1, type := 29, pos := "wire.go:138", after := #[{ on := 3, ground := Ground.data }], guard := none }) (v := ?_) rfl (by kernel_rfl) (by kernel_rfl) (by kernel_rfl) (fun _ _ _ h => h) (Or.inl ⟨by rfl, ?_⟩) (by assumption) ?_
        rotate_left 1
        · (intro w hSw; (try dsimp only at hSw); go_simp; try with_reducible rfl)
        (try simp only [Act.put, List.setIfInBounds_toArray, List.set_cons_zero, List.set_cons_succ])
        refine wpAnyH_ready (rs := [6]) (by kernel_rfl) (by simp) ?_
        refine AllReadyH.cons (o := { dst := some 17, op := Op.call { callee := Callee.value (Operand.func 69), args := #[Operand.tmp 15, Operand.tmp 16], argTypes := #[9, 29] }, type := 9, pos := "wire.go:138", after := #[{ on := 4, ground := Ground.data }, { on := 5, ground := Ground.data }, { on := 3, ground := Ground.chain }], guard := none }) rfl (fun K hK => ?_) AllReadyH.nil
        go_simp
        refine (made12_ok _ _).mono ?_; rintro e w2 ⟨rfl, hw⟩; rw [hw]; clear hw w2
        refine hK.out _ _ (HMC.out _ MM.out) (fun hHeld => ?_)
        clear hK K
        (try simp only [Act.put, List.setIfInBounds_toArray, List.set_cons_zero, List.set_cons_succ])
        refine wpAnyH_ready (rs := [9]) (by kernel_rfl) (by simp) ?_
        refine AllReadyH.cons (o := { dst := some 20, op := Op.buildSlice 53 2 #[(0, Operand.tmp 17), (1, Operand.tmp 19)], type := 53, pos := "wire.go:138", after := #[{ on := 6, ground := Ground.data }, { on := 8, ground := Ground.data }], guard := none }) rfl (fun K hK => ?_) AllReadyH.nil
        go_simp
        obtain ⟨W4, hW4⟩ : ∃ V, V = w1.alloc (.cells #[.string nt, .string dg] 9) := ⟨_, rfl⟩
        have ba : Below w1.heap.size w1 W4 := by rw [hW4]; exact (Below.refl _ _).alloc (Nat.le_refl _) _
        have T2 := Lib.hid (show TxtRow W4 (some ⟨w1.heap.size, 0, none⟩) [nt, dg] from hW4 ▸ txt_two12 w1 nt dg)
        have MM := Lib.hid (MM.out.below ba)
        have BB := Lib.hid (below_step BB.out ba)
        rw [← hW4]
        clear ba hW4
        refine hK.out _ _ (HMC.out _ MM.out) (fun hHeld => ?_)
        clear hK K
        (try simp only [Act.put, List.setIfInBounds_toArray, List.set_cons_zero, List.set_cons_succ])
        refine wpAnyH_ready (rs := [10]) (by kernel_rfl) (by simp) ?_
        refine AllReadyH.cons (o := { dst := some 21, op := Op.call { callee := Callee.value (Operand.func 70), args := #[Operand.tmp 20], argTypes := #[53] }, type := 30, pos := "wire.go:138", after := #[{ on := 9, ground := Ground.data }, { on := 6, ground := Ground.chain }], guard := none }) rfl (fun K hK => ?_) AllReadyH.nil
        go_simp
        refine (HRW.out _ _ T2.out).mono ?_; rintro e w5 ⟨rfl, b5⟩
        have MM := Lib.hid (MM.out.below b5)
        have BB := Lib.hid (below_step BB.out b5)
        clear b5
        refine hK.out _ _ (HMC.out _ MM.out) (fun hHeld => ?_)
        clear hK K
        (try simp only [Act.put, List.setIfInBounds_toArray, List.set_cons_zero, List.set_cons_succ])
        refine wpAnyH_take (i := 11) (oi := { dst := some 22, op := Op.extract (Operand.tmp 21) 0, type := 9, pos := "wire.go:138", after := #[{ on := 10, ground := Ground.data }], guard := none }) (v := ?_) rfl (by kernel_rfl) (by kernel_rfl) (by kernel_rfl) (fun _ _ _ h => h) (Or.inl ⟨by rfl, ?_⟩) (by assumption) ?_
        rotate_left 1
        · (intro w hSw; (try dsimp only at hSw); go_simp; try with_reducible rfl)
        (try simp only [Act.put, List.setIfInBounds_toArray, List.set_cons_zero, List.set_cons_succ])
        refine wpAnyH_take (i := 12) (oi := { dst := some 23, op := Op.extract (Operand.tmp 21) 1, type := 29, pos := "wire.go:138", after := #[{ on := 10, ground := Ground.data }], guard := none }) (v := ?_) rfl (by kernel_rfl) (by kernel_rfl) (by kernel_rfl) (fun _ _ _ h => h) (Or.inl ⟨by rfl, ?_⟩) (by assumption) ?_
        rotate_left 1
        · (intro w hSw; (try dsimp only at hSw); go_simp; try with_reducible rfl)
        (try simp only [Act.put, List.setIfInBounds_toArray, List.set_cons_zero, List.set_cons_succ])
        refine wpAnyH_ready (rs := [13]) (by kernel_rfl) (by simp) ?_
        refine AllReadyH.cons (o := { dst := some 24, op := Op.call { callee := Callee.value (Operand.func 69), args := #[Operand.tmp 22, Operand.tmp 23], argTypes := #[9, 29] }, type := 9, pos := "wire.go:138", after := #[{ on := 11, ground := Ground.data }, { on := 12, ground := Ground.data }, { on := 10, ground := Ground.chain }], guard := none }) rfl (fun K hK => ?_) AllReadyH.nil
        go_simp
        refine (made12_bad _ 5 (by decide) _).mono ?_; rintro e w6 ⟨rfl, hw⟩; rw [hw]; clear hw w6
        have HB5 := Lib.hid (HBAD.out _ BB.out)
        clear hK
        go_wp2_with fail
        exact ⟨by first | rfl | trivial, HB5.out⟩
    · obtain rfl : j = n := by omega
      have hall2 : ∀ m ∈ l, (memT m).2 = 0 := by have := hok.out; rwa [HN6.out, List.take_length] at this
      have hm : membersT l = rowP (l.map fun m => (memT m).1) := by unfold membersT; rw [if_pos hall2]
      have hown2 := hown.out
      rw [HN6.out, List.take_length] at hown2
      obtain ⟨bo, bcap, rfl, hc, hr, _⟩ := own_shape12 hown2
      have HRW := fun V (hV : TxtRow V bo (l.map memT2)) => row6_any (l.map memT2) bo bcap hc (by rw [List.length_map]; have := HN6.out; omega) (fun x hx => by
        obtain ⟨y, hy, rfl⟩ := List.mem_map.1 hx
        have := memT_size y; omega) V hV
      have e1 : (l.map memT2).map bl = l.map fun m => (memT m).1 := by rw [List.map_map]; rfl
      rw [e1, ← hm] at HRW
      have herr : (membersT l).2 = 0 ∨ membersT l = ([], 5) := by
        rw [hm]
        refine row_err fun x hx => ?_
        obtain ⟨y, hy, rfl⟩ := List.mem_map.1 hx
        exact (row_read (by simp) (row_ok (hall2 y hy) : rowP [(numP y.1).1, bl y.2] = ((memT y).1, 0))).2.2
      rw [List.length_map] at HRW ⊢
      have HR2 := Lib.hid hr
      have HRM : Hid (∀ z V, RdMt l w0 s z V ↔ (z = if (membersT l).2 = 0 then 0 else 5) ∧ Boxed V s 9 (.string (if (membersT l).2 = 0 then tb (membersT l).1 else ⟨#[]⟩)) ∧ Below w0.heap.size w0 V) := Lib.hid (fun _ _ => Iff.rfl)
      obtain ⟨k1, k2, k3⟩ := HKEEP.out _ hb.out
      have K1 := Lib.hid k1
      have K2 := Lib.hid k2
      have K3 := Lib.hid k3
      have SLT : Hid (s < wr.heap.size ∧ eb < wr.heap.size) := Lib.hid ⟨(Array.getElem?_eq_some_iff.1 k1).1, (Array.getElem?_eq_some_iff.1 k2).1⟩
      clear hown hok hown2 hc hr hall2 hm e1 k1 k2 k3
      generalize hmm : membersT l = mr at *
      generalize l.length = n2 at *
      rcases herr with h0 | h5
      · obtain ⟨rt, re⟩ := mr
        dsimp only at h0
        subst h0
        rw [show st2 (rt, 0) = .tuple #[.string (tb rt), .int .i64 0] from rfl] at HRW
        have HRW := Lib.hid HRW
        go_wp2_with (first | (go_at_call 70; refine (HRW.out _ HR2.out).mono ?_; rintro e7 V7 ⟨rfl, b7⟩; have q1 : Boxed V7 s 9 (.string ⟨#[]⟩) := (b7.block _ SLT.out.1).trans K1.out; have q2 := q1.cell; have q3 := q1.frozen) | (go_at_call 69; refine (made12_ok _ _).mono ?_; rintro e w2 ⟨rfl, hw⟩; rw [hw]; clear hw w2) | fail)
        go_end0
        have tr := turn_cell V7 s 0 (.string (tb rt))
        have hsl := HSL.out
        have hlt := b7.size
        have hse := SLT.out
        exact ⟨(tr.block _ (by omega) (by omega)).trans ((b7.block _ SLT.out.2).trans K2.out), .inl ⟨rfl, (HRM.out _ _).2 ⟨rfl, q1.set _, (below_step K3.out b7).trans (turn_to tr (fun b e => by omega) (by have := K3.out.size; omega))⟩⟩⟩
      · subst h5
        rw [show st2 (([] : List UInt8), 5) = .tuple #[.string ⟨#[]⟩, .int .i64 5] from rfl] at HRW
        have HRW := Lib.hid HRW
        go_wp2_with (first | (go_at_call 70; refine (HRW.out _ HR2.out).mono ?_; rintro e7 V7 ⟨rfl, b7⟩) | (go_at_call 69; refine (made12_bad _ 5 (by decide) _).mono ?_; rintro e w2 ⟨rfl, hw⟩; rw [hw]; clear hw w2) | fail)
        exact ⟨by first | rfl | trivial, (b7.block _ SLT.out.2).trans K2.out, .inr ⟨5, rfl, (HRM.out _ _).2 ⟨rfl, (b7.block _ SLT.out.1).trans K1.out, below_step K3.out b7⟩⟩⟩
end Go.Proofs.YtbdlegjklfkdmaaGreatDoor.Pl

namespace Go.Proofs.YtbdlegjklfkdmaaGreatDoor.Pl
open Go.RowKit

/-- Sums, tags and seals that say nothing: for what no sum, no tag and no seal is asked of. -/
def cry0 : Cry where
  hash _ := List.replicate 32 0
  mac _ _ := List.replicate 32 0
  shut _ n t := n ++ t ++ List.replicate 32 0
  see _ x := some ((x.drop 12).take (x.length - 44))
  hash_len _ := by simp
  mac_len _ _ := by simp
  shut_len _ n t := by simp; omega
  see_shut _ n t h _ := by
    have h1 : (n ++ t ++ List.replicate 32 (0 : UInt8)).length - 44 = t.length := by simp [h]; omega
    rw [h1, List.append_assoc, List.drop_append_of_le_length (by omega), ← h, List.drop_length, List.nil_append, List.take_append_of_le_length (Nat.le_refl _), List.take_length]
/-- The key for tags of a ballot. -/
noncomputable def keyBt (c : Cry) (k : Bool) (m : List UInt8) (b : Bt) : List UInt8 := (keyP c k m (nameK 107 b.org b.aud).1).1
noncomputable def tagBt (c : Cry) (k : Bool) (m : List UInt8) (b : Bt) : List UInt8 × Nat :=
  if (bodyP b).2 ≠ 0 then ([], (bodyP b).2) else mac8P c k (keyBt c k m b) (bodyP b).1
theorem bodyP_short {b : Bt} : (bodyP b).1.length ≤ 16384 := by
  unfold bodyP
  split
  · exact Nat.zero_le _
  · split
    · exact Nat.zero_le _
    · exact rowP_size _
theorem keyBt_short (c : Cry) (k : Bool) (m : List UInt8) (b : Bt) : (keyBt c k m b).length ≤ 16384 := key_short _ _ _ _
theorem tagBt_short (c : Cry) (k : Bool) (m : List UInt8) (b : Bt) : (tagBt c k m b).1.length ≤ 16384 := by
  unfold tagBt
  split
  · exact Nat.zero_le _
  · exact mac_short _ _ _ _
theorem tagBt_no {c : Cry} {k : Bool} {m : List UInt8} {b : Bt} (h : (bodyP b).2 ≠ 0) : tagBt c k m b = ([], (bodyP b).2) := if_pos h
theorem tagBt_ok {c : Cry} {k : Bool} {m : List UInt8} {b : Bt} (h : (bodyP b).2 = 0) : tagBt c k m b = mac8P c k (keyBt c k m b) (bodyP b).1 := if_neg (fun e => e h)
theorem mac_same {c : Cry} {k t k2 t2 x : List UInt8} (h : mac8P c true k t = (x, 0)) (h2 : mac8P c true k2 t2 = (x, 0)) : t = t2 := by
  obtain ⟨A, B, _, hb, hx⟩ := made2 mac_head (mac8_made h)
  obtain ⟨A2, B2, _, hb2, hx2⟩ := made2 mac_head (mac8_made h2)
  rw [hx] at hx2
  injection hx2 with e
  injection e with _ e
  injection e with _ e
  injection e with e _
  subst e
  exact (treeOf_at hb).2.symm.trans (treeOf_at hb2).2
/-- Of a suite of terms, tags are the same just if the ballots are. -/
theorem tag_same {c : Cry} {m : List UInt8} {a b : Bt} (h : (tagBt c true m a).2 = 0) (k : (tagBt c true m b).2 = 0) : (tagBt c true m a).1 = (tagBt c true m b).1 ↔ a = b := by
  have ha : (bodyP a).2 = 0 := Classical.byContradiction fun e => by rw [tagBt_no e] at h; exact e h
  have hb : (bodyP b).2 = 0 := Classical.byContradiction fun e => by rw [tagBt_no e] at k; exact e k
  refine ⟨fun e => ?_, fun e => by rw [e]⟩
  rw [tagBt_ok ha] at h e
  rw [tagBt_ok hb] at k e
  have q1 : mac8P c true (keyBt c true m a) (bodyP a).1 = ((mac8P c true (keyBt c true m a) (bodyP a).1).1, 0) := Prod.ext rfl h
  have q2 : mac8P c true (keyBt c true m b) (bodyP b).1 = ((mac8P c true (keyBt c true m a) (bodyP a).1).1, 0) := Prod.ext e.symm k
  have q3 := mac_same q1 q2
  exact body_same (s := (bodyP a).1) (Prod.ext rfl ha) (Prod.ext q3.symm hb)
/-- The name of a ballot's key is one. -/
theorem name_ok {b : Bt} (h : (bodyP b).2 = 0) : nameK 107 b.org b.aud = (nm 107 b.org.toNat b.aud.toNat, 0) := by
  obtain ⟨hm, _, _⟩ := body_row (b := b) (s := (bodyP b).1) (Prod.ext rfl h)
  have ho := orgP_iff.1 (mayBt_org hm)
  have ha := orgP_iff.1 (mayBt_iff.1 hm).2.1
  unfold nameK
  rw [if_pos ⟨⟨ho.1, by omega⟩, ⟨ha.1, by omega⟩⟩]
theorem nmT_size (x y : Nat) : (nm 107 x y).length = 5 := rfl
end Go.Proofs.YtbdlegjklfkdmaaGreatDoor.Pl

namespace Go.Proofs.YtbdlegjklfkdmaaGreatDoor.Pl
open Go.RowKit

/-- The members' term, or why there is none. -/
def mtP (c : Int) (l : List Mb) : List UInt8 × Nat := if mayL c l = true then (if (membersT l).2 = 0 then ((membersT l).1, 0) else ([], 5)) else ([], 2)
theorem call_mt1 (args : Array Value) (V : World) : (callFunc 68 args).run Tryz.prog V = .ok (.enter 68 args) V := by kernel_rfl
theorem results_str_tmp {P : Program} {fn : Func} {p u : Tmp} {ty : TypeId} (h : fn.results = #[.cell p ty, .tmp u]) (tmps : Array Value) (w : World) (g : Nat) (v : Value)
    (hp : tmps.getD p undef = ptr12 g) (hl : (loadVar ty ⟨g, 0, none⟩).run P w = .ok v w) :
    (results fn tmps).run P w = .ok (.tuple #[v, tmps.getD u undef]) w := by
  rw [results_cell_tmp h, hp]
  simp [asAddr, hl, Result.andThen]
set_option maxHeartbeats 8000000 in
set_option maxRecDepth 100000 in
theorem members12x_any (c e q : Int) (l : List Mb) (ao : Option Addr) (cap : Nat) (hsz : ∀ x ∈ l, x.2.size ≤ 30000) (hlen : l.length ≤ 9223372036854775807) (w : World) (hrow : MemRow w ao l) :
    Calls Tryz.prog 24 #[.agg #[.int .i64 c, .int .i64 e, .int .i64 q], .slice ao l.length cap] w fun x w' => x = .returned (st2 (mtP c l)) ∧ Below w.heap.size w w' := by
  obtain ⟨W0, hW0⟩ : ∃ V, V = ((w.alloc (.cells #[.int .i64 c, .int .i64 e, .int .i64 q] 23)).alloc (.cells #[.slice ao l.length cap] 24)).alloc (.cells #[.string ⟨#[]⟩] 9) := ⟨_, rfl⟩
  have sz : W0.heap.size = w.heap.size + 3 := by rw [hW0]; simp
  have h0 : XAt W0 w.heap.size c e q := by
    rw [hW0]
    exact (xat_new w c e q).below (((Below.refl _ _).alloc (Nat.le_refl _) _).alloc (by simp) _)
  have h1 : Boxed W0 (w.heap.size + 1) 24 (.slice ao l.length cap) := by rw [hW0]; have h := (Boxed.new (w.alloc (.cells #[.int .i64 c, .int .i64 e, .int .i64 q] 23)) 24 (.slice ao l.length cap)).alloc (.cells #[.string ⟨#[]⟩] 9); simpa using h
  have h2 : Boxed W0 (w.heap.size + 2) 9 (.string ⟨#[]⟩) := by rw [hW0]; have h := Boxed.new ((w.alloc (.cells #[.int .i64 c, .int .i64 e, .int .i64 q] 23)).alloc (.cells #[.slice ao l.length cap] 24)) 9 (.string ⟨#[]⟩); simpa using h
  have B0 : Below w.heap.size w W0 := by rw [hW0]; exact (((Below.refl _ w).alloc (Nat.le_refl _) _).alloc (by simp) _).alloc (by simp; omega) _
  obtain ⟨x0, x1, x2, -⟩ := h0.cells
  have c1 := h1.cell
  have c2 := h2.cell
  rw [hW0] at x0 x1 x2 c1
  have HM := Lib.hid (fun V (hV : Below w.heap.size w V) => maymems_any c e q l ao cap (fun x hx => by have := hsz x hx; omega) hlen V (hrow.below hV))
  have HB0 := Lib.hid B0
  have HW0 := Lib.hid hW0
  have H1 := Lib.hid h1
  have H2 := Lib.hid h2
  have HSZ := Lib.hid sz
  have HROW := Lib.hid (fun V (hV : Below w.heap.size w V) => hrow.below hV)
  have HLL := Lib.hid hsz
  unfold mtP
  cases hm : mayL c l with
  | false =>
    rw [hm] at HM
    simp only [Bool.false_eq_true, if_false]
    rw [show st2 (([] : List UInt8), 2) = .tuple #[.string ⟨#[]⟩, .int .i64 2] from rfl]
    clear hW0 sz h0 h1 h2 B0 c2 hsz hrow hm
    generalize l.length = n at *
    go_enter Tryz.func24, Tryz.ntmps24
    go_wp2_with (first | (go_at_call 66; rw [← HW0.out]; refine (HM.out _ HB0.out).mono ?_; rintro e1 V ⟨rfl, b1⟩; have q1 : Boxed V (w.heap.size + 1 + 1) 9 (.string ⟨#[]⟩) := (b1.block _ (by rw [HSZ.out]; omega)).trans H2.out; have q2 := q1.cell; have q3 := q1.frozen) | fail)
    have q4 := (q1.set (.string ⟨#[]⟩)).cell
    refine bodyPost_ret (results_str_tmp (fn := Tryz.f24) (p := 4) (u := 5) (ty := 9) rfl _ _ (w.heap.size + 1 + 1) (.string ⟨#[]⟩) rfl (by simp [go_sem, q4])) rfl ?_
    exact ⟨rfl, (below_step HB0.out b1).trans (turn_to (turn_cell V (w.heap.size + 1 + 1) 0 _) (fun b e => by omega) (below_step HB0.out b1).size)⟩
  | true =>
    rw [hm] at HM
    simp only [if_true]
    have HC := fun V (hV : Below W0.heap.size W0 V) => caught_any 68 #[ptr12 (w.heap.size + 1), ptr12 (w.heap.size + 2)] call_mt1 V (RdMt l w (w.heap.size + 2)) (by
      have ba := (Below.refl V.heap.size V).alloc (Nat.le_refl _) (.cells #[.int .i64 0] 29)
      have hVs := hV.size
      have bB := below_step B0 hV
      exact mt1_any l c hm hsz ao cap (w.heap.size + 1) (w.heap.size + 2) w _ V.heap.size ((ba.block _ (by omega)).trans ((hV.block _ (by omega)).trans h1)) (HROW.out _ (below_step bB ba)) ((ba.block _ (by omega)).trans ((hV.block _ (by omega)).trans h2)) (Boxed.new _ _ _) (by omega) (by omega) (below_step bB ba))
    have HC2 : Hid (∀ V, Below W0.heap.size W0 V → Calls Tryz.prog 67 #[.func (.func 68) #[] #[ptr12 (w.heap.size + 1), ptr12 (w.heap.size + 1 + 1)]] V (fun x V2 => x = .returned (.int .i64 ((if (membersT l).2 = 0 then 0 else 5 : Nat) : Int)) ∧ Boxed V2 (w.heap.size + 1 + 1) 9 (.string (if (membersT l).2 = 0 then tb (membersT l).1 else ⟨#[]⟩)) ∧ Below w.heap.size w V2)) := Lib.hid (fun V hV => by
      refine (HC V hV).mono ?_
      rintro e V2 ⟨z, V1, rfl, ⟨rfl, q1, bV⟩, rfl⟩
      have tc := turn_cell V1 V.heap.size 0 (.int .i64 ((if (membersT l).2 = 0 then 0 else 5 : Nat) : Int))
      have hVs := hV.size
      exact ⟨rfl, (tc.block _ (Array.getElem?_eq_some_iff.1 q1).1 (by omega)).trans q1, bV.trans (turn_to tc (fun b e => by omega) bV.size)⟩)
    have hres : st2 (if (membersT l).2 = 0 then ((membersT l).1, 0) else ([], 5)) = .tuple #[.string (if (membersT l).2 = 0 then tb (membersT l).1 else ⟨#[]⟩), .int .i64 ((if (membersT l).2 = 0 then 0 else 5 : Nat) : Int)] := by
      by_cases h : (membersT l).2 = 0
      · simp only [h, if_true]; rfl
      · simp only [h, if_false]; rfl
    rw [hres]
    clear hW0 sz h0 h1 h2 B0 c2 hsz hrow hm HC hres
    generalize (if (membersT l).2 = 0 then 0 else 5 : Nat) = z at *
    generalize (if (membersT l).2 = 0 then tb (membersT l).1 else ⟨#[]⟩) = res at *
    generalize l.length = n at *
    go_enter Tryz.func24, Tryz.ntmps24
    go_wp2_with (first | (go_at_call 66; rw [← HW0.out]; refine (HM.out _ HB0.out).mono ?_; rintro e1 V ⟨rfl, b1⟩) | (go_at_call 67; refine (HC2.out _ b1).mono ?_; rintro e2 V2 ⟨rfl, q1, bV⟩; have q2 := q1.cell; have q3 := q1.frozen) | fail)
    have q4 := (q1.set (.string res)).cell
    refine bodyPost_ret (results_str_tmp (fn := Tryz.f24) (p := 4) (u := 5) (ty := 9) rfl _ _ (w.heap.size + 1 + 1) (.string res) rfl (by simp [go_sem, q4])) rfl ?_
    exact ⟨rfl, bV.trans (turn_to (turn_cell V2 (w.heap.size + 1 + 1) 0 _) (fun b e => by omega) bV.size)⟩
end Go.Proofs.YtbdlegjklfkdmaaGreatDoor.Pl
