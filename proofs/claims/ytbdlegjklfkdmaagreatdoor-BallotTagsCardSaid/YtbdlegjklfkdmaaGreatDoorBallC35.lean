/- Members of wire. The tag of a ballot in a suite, over plain bytes; of a suite of terms it fits one ballot alone. Members of wire, as a whole. What the statements leave out; a message with members of its own; the chapter's examples. How members, a transaction, and a message that came in read. The document's Org, MayTxn, num, flag and Word of layer 12. The document's Txn and ReadTxn of layer 12. -/
import Derived.Test.YtbdlegjklfkdmaaGreatDoorBallC34
import Derived.Test.YtbdlegjklfkdmaaGreatDoorBallC15
import Derived.Test.YtbdlegjklfkdmaaGreatDoorBallC1
import Derived.Test.YtbdlegjklfkdmaaGreatDoorBallC12
import Derived.Test.YtbdlegjklfkdmaaGreatDoorBallC13
import Derived.ProofKit
import Derived.SliceStrings
import Derived.Laws.AppendOwnNone
import Derived.ChangeSlices
import Derived.Deep.Slices
import Derived.Test.YtbdlegjklfkdmaaGreatDoorBallC20
import Derived.Deep.RegionHeld3
namespace Go.Proofs.YtbdlegjklfkdmaaGreatDoor.Pl
open Go.RowKit

def memT2 (m : Mb) : ByteArray := tb (memT m).1
theorem memT_err {m : Mb} (ho : orgP m.1 = true) (hc : checkP (bl m.2) = 0) : (memT m).2 = 0 ∨ memT m = ([], 5) := by
  have h := orgP_iff.1 ho
  refine row_err fun x hx => ?_
  simp only [List.mem_cons, List.not_mem_nil, or_false] at hx
  rcases hx with rfl | rfl
  · obtain ⟨s, e, h2, _⟩ := num_read (v := m.1) (by omega) (by omega)
    rw [e]; exact h2
  · exact hc
theorem memT_size (m : Mb) : (memT2 m).size ≤ 16384 := by
  unfold memT2 tb
  rw [size_lit]
  unfold memT rowP madeP
  split
  · split
    · rename_i h; exact check_len h
    · simp
  · simp
theorem rowP_size (l : List (List UInt8)) : (rowP l).1.length ≤ 16384 := by
  unfold rowP madeP
  split
  · split
    · rename_i h; exact check_len h
    · simp
  · simp
theorem membersT_no {l : List Mb} {m : Mb} (hm : m ∈ l) (h : (memT m).2 ≠ 0) : membersT l = ([], 5) := by
  unfold membersT
  rw [if_neg (fun k => h (k m hm))]
/-- What Members's closure leaves. -/
def RdMt (l : List Mb) (w : World) (s : Nat) (z : Nat) (V : World) : Prop := (z = if (membersT l).2 = 0 then 0 else 5) ∧ Boxed V s 9 (.string (if (membersT l).2 = 0 then tb (membersT l).1 else ⟨#[]⟩)) ∧ Below w.heap.size w V

set_option maxHeartbeats 8000000 in
set_option maxRecDepth 100000 in
theorem mt1_any (l : List Mb) (c : Int) (hl : mayL c l = true) (hsz : ∀ x ∈ l, x.2.size ≤ 30000) (ao : Option Addr) (cap : Nat) (lb s : Nat) (w0 W : World) (eb : Nat) (hlb : Boxed W lb 24 (.slice ao l.length cap)) (hrow : MemRow W ao l) (hs : Boxed W s 9 (.string ⟨#[]⟩)) (he : Boxed W eb 29 (.int .i64 0)) (hne : eb ≠ s) (hs0 : w0.heap.size ≤ s) (hB : Below w0.heap.size w0 W) :
    Calls Tryz.prog 68 #[ptr12 lb, ptr12 s] W (DonePost eb (RdMt l w0 s)) := by
  obtain ⟨hl1, hl6, hms⟩ := mayL_iff.1 hl
  have hall := mayMs_all hms
  have c0 := hlb.cell
  obtain ⟨B, hBB⟩ : ∃ B, B = W.heap.size := ⟨_, rfl⟩
  have HKEEP : Hid (∀ V, Below B W V → Boxed V s 9 (.string ⟨#[]⟩) ∧ Boxed V eb 29 (.int .i64 0) ∧ Below w0.heap.size w0 V) := Lib.hid (fun V h => by
    rw [hBB] at h
    exact ⟨(h.block _ (Array.getElem?_eq_some_iff.1 hs).1).trans hs, (h.block _ (Array.getElem?_eq_some_iff.1 he).1).trans he, below_step hB h⟩)
  have HROW := Lib.hid (fun V (hV : Below B W V) => hrow.below (by rw [hBB] at hV; exact hV))
  have HALL := Lib.hid hall
  have HSZM := Lib.hid hsz
  have HBZ : Hid (B = W.heap.size) := Lib.hid hBB
  have HSL : Hid (s < W.heap.size ∧ eb ≠ s ∧ w0.heap.size ≤ s) := Lib.hid ⟨(Array.getElem?_eq_some_iff.1 hs).1, hne, hs0⟩
  obtain ⟨n, hn⟩ : ∃ n, n = l.length := ⟨_, rfl⟩
  have hn6 : n ≤ 6 := by omega
  have HN6 := Lib.hid hn
  rw [← hn] at c0
  clear hl1 hl6 hms hall hlb hrow hs he hB hBB hn hsz hl
  go_enter Tryz.func68, Tryz.ntmps68
  go_wp2_with fail
  go_loopw [7, 2] (fun iv pv wr => ∃ j : Nat, iv = .int .i64 j ∧ j ≤ n ∧ Hid (OwnT wr B pv ((l.take j).map memT2)) ∧ Hid (∀ m ∈ l.take j, (memT m).2 = 0) ∧ Hid (Below B W wr)) (fun iv _ _ => n - (intOf iv).toNat)
  case atStart => exact ⟨0, rfl, Nat.zero_le _, Lib.hid (ownT_nil _ _), Lib.hid (fun m hm => by cases hm), Lib.hid (Below.refl _ _)⟩
  case round =>
    obtain ⟨j, rfl, hjn, hown, hok, hb⟩ := hrel
    by_cases hj : j < n
    · have hj' : (j : Int) < (n : Int) := by omega
      have hjl : j < l.length := by rw [← HN6.out]; exact hj
      rcases HROW.out _ hb.out with e | ⟨b, off, rfl, hlt, hcs⟩
      · exfalso
        rw [e] at hjl
        exact absurd hjl (Nat.not_lt_zero _)
      obtain ⟨y0, y1⟩ := hcs j hjl
      have hml := List.getElem_mem hjl
      obtain ⟨ho1, ho2, _⟩ := HALL.out _ hml
      have hod := HSZM.out _ hml
      have hio := orgP_iff.1 ho1
      have HN := Lib.hid (fun V => num12_any l[j].1 hio.1 (by omega) V)
      have herr := memT_err ho1 ho2
      have HRW : ∀ (bo : Option Addr) (V : World), TxtRow V bo [numT l[j].1, l[j].2] → Calls Tryz.prog 70 #[.slice bo 2 2] V fun e w' => e = .returned (st2 (memT l[j])) ∧ Below V.heap.size V w' := fun bo V hR => row6_any [numT l[j].1, l[j].2] bo 2 (by simp) (by simp) (fun x hx => by
        simp only [List.mem_cons, List.not_mem_nil, or_false] at hx
        rcases hx with rfl | rfl
        · have := numT_size hio.1 (show l[j].1 ≤ 2147483647 by omega); omega
        · omega) V hR
      have HTK : Hid ((l.take (j + 1)).map memT2 = (l.take j).map memT2 ++ [memT2 l[j]]) := Lib.hid (by rw [List.take_succ_eq_append_getElem hjl, List.map_append]; rfl)
      have HOK : Hid ((memT l[j]).2 = 0 → ∀ m ∈ l.take (j + 1), (memT m).2 = 0) := Lib.hid (fun h m hm => by
        rw [List.take_succ_eq_append_getElem hjl] at hm
        rcases List.mem_append.1 hm with hm | hm
        · exact hok.out m hm
        · rw [List.mem_singleton.1 hm]; exact h)
      have HNOT : Hid ((memT l[j]).2 ≠ 0 → membersT l = ([], 5)) := Lib.hid (fun h => membersT_no hml h)
      have HMT2 : Hid (memT2 l[j] = tb (memT l[j]).1) := Lib.hid rfl
      have HLN : Hid (((l.take j).map memT2).length ≤ 100) := Lib.hid (by rw [List.length_map, List.length_take]; omega)
      generalize numT l[j].1 = nt at *
      generalize memT2 l[j] = mt at *
      generalize memT l[j] = mr at *
      generalize l[j] = m at *
      obtain ⟨og, dg⟩ := m
      dsimp only at *
      generalize (l.take j).map memT2 = L at *
      obtain ⟨W2, hW2, n0, k2, b2, s2⟩ := row_box wr #[.int .i64 0, .string ⟨#[]⟩] #[.int .i64 og, .string dg] 51
      have MM : Hid (MAt W2.drew wr.heap.size og dg) := Lib.hid k2
      have BB := Lib.hid (below_step b2 (drew12 W2))
      have HMC : Hid (∀ V, MAt V wr.heap.size og dg → V.cell? ⟨wr.heap.size, 0, none⟩ = some (.int .i64 og) ∧ V.cell? ⟨wr.heap.size, 1, none⟩ = some (.string dg)) := Lib.hid (fun V h => ⟨h.cells.1, h.cells.2.1⟩)
      have KS := HMC.out _ MM.out
      have HOWN : Hid (∀ V, Below wr.heap.size wr V → OwnT V B u2 L) := Lib.hid (fun V hV => ownT_below hown.out hV)
      have HSZ : Hid (∀ V, Below wr.heap.size wr V → B ≤ V.heap.size) := Lib.hid (fun V hV => by have := hb.out.size; have := hV.size; have := HBZ.out; omega)
      have HBW : Hid (B ≤ wr.heap.size) := Lib.hid (by have := hb.out.size; have := HBZ.out; omega)
      have HNB : Hid (some wr.heap.size ≠ u2.ownBlock) := Lib.hid (fun e => by have := hown.out.lt _ e.symm; omega)
      have N0 := Lib.hid n0
      have HW2 := Lib.hid hW2
      have HBX := hb
      clear hcs hlt hml ho1 ho2 hod hio hjl n0 hW2 k2 b2 s2 hown hb
      rcases herr with h0 | h5
      · have e1 : st2 mr = .tuple #[.string mt, .int .i64 0] := by rw [HMT2.out, show mr = (mr.1, 0) from Prod.ext rfl h0]; rfl
        rw [e1] at HRW
        have HRW := Lib.hid HRW
        have HOK2 := Lib.hid (HOK.out h0)
        clear h0 e1 HOK HNOT HMT2
        go_wp2_with (first | (refine wpList_store_row rfl 51 _ _ rfl wr.heap.size #[.int .i64 og, .string dg] rfl rfl 51 #[.int .i64 0, .string ⟨#[]⟩] N0.out (mem_info _ _) rfl (mem_one _ _) ?_; rw [← HW2.out]) | fail)
        refine wp_region_held_drew (S := fun W => W.cell? ⟨wr.heap.size, 0, none⟩ = some (.int .i64 og) ∧ W.cell? ⟨wr.heap.size, 1, none⟩ = some (.string dg)) (by kernel_rfl) (by first | assumption | exact KS) (fun hHeld => ?_)
        generalize W2.drew = wz at *
        refine wpAnyH_take (i := 0) (oi := { dst := some 11, op := Op.move (Operand.tmp 2), type := 53, pos := "wire.go:138", after := #[], guard := none }) (v := ?_) rfl (by kernel_rfl) (by kernel_rfl) (by kernel_rfl) (fun _ _ _ h => h) (Or.inl ⟨by rfl, ?_⟩) (by assumption) ?_
        rotate_left 1
        · (intro w hSw; (try dsimp only at hSw); go_simp; try with_reducible rfl)
        (try simp only [Act.put, List.setIfInBounds_toArray, List.set_cons_zero, List.set_cons_succ])
        refine wpAnyH_take (i := 1) (oi := { dst := some 12, op := Op.fieldAddr 51 (Operand.tmp 4) 0, type := 0, pos := "wire.go:138", after := #[], guard := none }) (v := ?_) rfl (by kernel_rfl) (by kernel_rfl) (by kernel_rfl) (fun _ _ _ h => h) (Or.inl ⟨by rfl, ?_⟩) (by assumption) ?_
        rotate_left 1
        · (intro w hSw; (try dsimp only at hSw); go_simp; try with_reducible rfl)
        (try simp only [Act.put, List.setIfInBounds_toArray, List.set_cons_zero, List.set_cons_succ])
        refine wpAnyH_take (i := 2) (oi := { dst := some 13, op := Op.load 3 (Operand.tmp 12), type := 3, pos := "wire.go:138", after := #[{ on := 1, ground := Ground.data }], guard := none }) (v := ?_) rfl (by kernel_rfl) (by kernel_rfl) (by kernel_rfl) (fun _ _ _ h => h) (Or.inl ⟨by rfl, ?_⟩) (by assumption) ?_
        rotate_left 1
        · (intro w hSw; (try dsimp only at hSw); go_simp; try with_reducible rfl)
        (try simp only [Act.put, List.setIfInBounds_toArray, List.set_cons_zero, List.set_cons_succ])
        refine wpAnyH_take (i := 7) (oi := { dst := some 18, op := Op.fieldAddr 51 (Operand.tmp 4) 1, type := 0, pos := "wire.go:138", after := #[], guard := none }) (v := ?_) rfl (by kernel_rfl) (by kernel_rfl) (by kernel_rfl) (fun _ _ _ h => h) (Or.inl ⟨by rfl, ?_⟩) (by assumption) ?_
        rotate_left 1
        · (intro w hSw; (try dsimp only at hSw); go_simp; try with_reducible rfl)
        (try simp only [Act.put, List.setIfInBounds_toArray, List.set_cons_zero, List.set_cons_succ])
        refine wpAnyH_take (i := 8) (oi := { dst := some 19, op := Op.load 9 (Operand.tmp 18), type := 9, pos := "wire.go:138", after := #[{ on := 7, ground := Ground.data }], guard := none }) (v := ?_) rfl (by kernel_rfl) (by kernel_rfl) (by kernel_rfl) (fun _ _ _ h => h) (Or.inl ⟨by rfl, ?_⟩) (by assumption) ?_
        rotate_left 1
        · (intro w hSw; (try dsimp only at hSw); go_simp; try with_reducible rfl)
        (try simp only [Act.put, List.setIfInBounds_toArray, List.set_cons_zero, List.set_cons_succ])
        refine wpAnyH_ready (rs := [3]) (by kernel_rfl) (by simp) ?_
        refine AllReadyH.cons (o := { dst := some 14, op := Op.call { callee := Callee.value (Operand.func 28), args := #[Operand.tmp 13], argTypes := #[3] }, type := 30, pos := "wire.go:138", after := #[{ on := 2, ground := Ground.data }], guard := none }) rfl (fun K hK => ?_) AllReadyH.nil
        go_simp
        refine (HN.out _).mono ?_; rintro e w1 ⟨rfl, b1⟩
        have MM := Lib.hid (MM.out.below b1)
        have BB := Lib.hid (below_step BB.out b1)
        clear b1
        refine hK.out _ _ (HMC.out _ MM.out) (fun hHeld => ?_)
        clear hK K
        (try simp only [Act.put, List.setIfInBounds_toArray, List.set_cons_zero, List.set_cons_succ])
        refine wpAnyH_take (i := 4) (oi := { dst := some 15, op := Op.extract (Operand.tmp 14) 0, type := 9, pos := "wire.go:138", after := #[{ on := 3, ground := Ground.data }], guard := none }) (v := ?_) rfl (by kernel_rfl) (by kernel_rfl) (by kernel_rfl) (fun _ _ _ h => h) (Or.inl ⟨by rfl, ?_⟩) (by assumption) ?_
        rotate_left 1
        · (intro w hSw; (try dsimp only at hSw); go_simp; try with_reducible rfl)
        (try simp only [Act.put, List.setIfInBounds_toArray, List.set_cons_zero, List.set_cons_succ])
        refine wpAnyH_take (i := 5) (oi := { dst := some 16, op := Op.extract (Operand.tmp 14) 1, type := 29, pos := "wire.go:138", after := #[{ on := 3, ground := Ground.data }], guard := none }) (v := ?_) rfl (by kernel_rfl) (by kernel_rfl) (by kernel_rfl) (fun _ _ _ h => h) (Or.inl ⟨by rfl, ?_⟩) (by assumption) ?_
        rotate_left 1
        · (intro w hSw; (try dsimp only at hSw); go_simp; try with_reducible rfl)
        (try simp only [Act.put, List.setIfInBounds_toArray, List.set_cons_zero, List.set_cons_succ])
        refine wpAnyH_ready (rs := [6]) (by kernel_rfl) (by simp) ?_
        refine AllReadyH.cons (o := { dst := some 17, op := Op.call { callee := Callee.value (Operand.func 69), args := #[Operand.tmp 15, Operand.tmp 16], argTypes := #[9, 29] }, type := 9, pos := "wire.go:138", after := #[{ on := 4, ground := Ground.data }, { on := 5, ground := Ground.data }, { on := 3, ground := Ground.chain }], guard := none }) rfl (fun K hK => ?_) AllReadyH.nil
        go_simp
        refine (made12_ok _ _).mono ?_; rintro e w2 ⟨rfl, hw⟩; rw [hw]; clear hw w2
        refine hK.out _ _ (HMC.out _ MM.out) (fun hHeld => ?_)
        clear hK K
        (try simp only [Act.put, List.setIfInBounds_toArray, List.set_cons_zero, List.set_cons_succ])
        refine wpAnyH_ready (rs := [9]) (by kernel_rfl) (by simp) ?_
        refine AllReadyH.cons (o := { dst := some 20, op := Op.buildSlice 53 2 #[(0, Operand.tmp 17), (1, Operand.tmp 19)], type := 53, pos := "wire.go:138", after := #[{ on := 6, ground := Ground.data }, { on := 8, ground := Ground.data }], guard := none }) rfl (fun K hK => ?_) AllReadyH.nil
        go_simp
        obtain ⟨W4, hW4⟩ : ∃ V, V = w1.alloc (.cells #[.string nt, .string dg] 9) := ⟨_, rfl⟩
        have ba : Below w1.heap.size w1 W4 := by rw [hW4]; exact (Below.refl _ _).alloc (Nat.le_refl _) _
        have T2 := Lib.hid (show TxtRow W4 (some ⟨w1.heap.size, 0, none⟩) [nt, dg] from hW4 ▸ txt_two12 w1 nt dg)
        have MM := Lib.hid (MM.out.below ba)
        have BB := Lib.hid (below_step BB.out ba)
        rw [← hW4]
        clear ba hW4
        refine hK.out _ _ (HMC.out _ MM.out) (fun hHeld => ?_)
        clear hK K
        (try simp only [Act.put, List.setIfInBounds_toArray, List.set_cons_zero, List.set_cons_succ])
        refine wpAnyH_ready (rs := [10]) (by kernel_rfl) (by simp) ?_
        refine AllReadyH.cons (o := { dst := some 21, op := Op.call { callee := Callee.value (Operand.func 70), args := #[Operand.tmp 20], argTypes := #[53] }, type := 30, pos := "wire.go:138", after := #[{ on := 9, ground := Ground.data }, { on := 6, ground := Ground.chain }], guard := none }) rfl (fun K hK => ?_) AllReadyH.nil
        go_simp
        refine (HRW.out _ _ T2.out).mono ?_; rintro e w5 ⟨rfl, b5⟩
        have MM := Lib.hid (MM.out.below b5)
        have BB := Lib.hid (below_step BB.out b5)
        clear b5
        refine hK.out _ _ (HMC.out _ MM.out) (fun hHeld => ?_)
        clear hK K
        (try simp only [Act.put, List.setIfInBounds_toArray, List.set_cons_zero, List.set_cons_succ])
        refine wpAnyH_take (i := 11) (oi := { dst := some 22, op := Op.extract (Operand.tmp 21) 0, type := 9, pos := "wire.go:138", after := #[{ on := 10, ground := Ground.data }], guard := none }) (v := ?_) rfl (by kernel_rfl) (by kernel_rfl) (by kernel_rfl) (fun _ _ _ h => h) (Or.inl ⟨by rfl, ?_⟩) (by assumption) ?_
        rotate_left 1
        · (intro w hSw; (try dsimp only at hSw); go_simp; try with_reducible rfl)
        (try simp only [Act.put, List.setIfInBounds_toArray, List.set_cons_zero, List.set_cons_succ])
        refine wpAnyH_take (i := 12) (oi := { dst := some 23, op := Op.extract (Operand.tmp 21) 1, type := 29, pos := "wire.go:138", after := #[{ on := 10, ground := Ground.data }], guard := none }) (v := ?_) rfl (by kernel_rfl) (by kernel_rfl) (by kernel_rfl) (fun _ _ _ h => h) (Or.inl ⟨by rfl, ?_⟩) (by assumption) ?_
        rotate_left 1
        · (intro w hSw; (try dsimp only at hSw); go_simp; try with_reducible rfl)
        (try simp only [Act.put, List.setIfInBounds_toArray, List.set_cons_zero, List.set_cons_succ])
        refine wpAnyH_ready (rs := [13]) (by kernel_rfl) (by simp) ?_
        refine AllReadyH.cons (o := { dst := some 24, op := Op.call { callee := Callee.value (Operand.func 69), args := #[Operand.tmp 22, Operand.tmp 23], argTypes := #[9, 29] }, type := 9, pos := "wire.go:138", after := #[{ on := 11, ground := Ground.data }, { on := 12, ground := Ground.data }, { on := 10, ground := Ground.chain }], guard := none }) rfl (fun K hK => ?_) AllReadyH.nil
        go_simp
        refine (made12_ok _ _).mono ?_; rintro e w6 ⟨rfl, hw⟩; rw [hw]; clear hw w6
        refine hK.out _ _ (HMC.out _ MM.out) (fun hHeld => ?_)
        clear hK K
        (try simp only [Act.put, List.setIfInBounds_toArray, List.set_cons_zero, List.set_cons_succ])
        refine wpAnyH_ready (rs := [14]) (by kernel_rfl) (by simp) ?_
        refine AllReadyH.cons (o := { dst := some 25, op := Op.buildSlice 53 1 #[(0, Operand.tmp 24)], type := 53, pos := "wire.go:138", after := #[{ on := 13, ground := Ground.data }], guard := none }) rfl (fun K hK => ?_) AllReadyH.nil
        go_simp
        have M7 := Lib.hid (MM.out.below ((Below.refl w5.heap.size w5).alloc (Nat.le_refl _) (.cells #[.string mt] 9)))
        refine hK.out _ _ (HMC.out _ M7.out) (fun hHeld => ?_)
        clear hK K
        (try simp only [Act.put, List.setIfInBounds_toArray, List.set_cons_zero, List.set_cons_succ])
        refine wpAnyH_ready (rs := [15]) (by kernel_rfl) (by simp) ?_
        refine AllReadyH.cons (o := { dst := some 26, op := Op.call { callee := Callee.builtin Builtin.append, args := #[Operand.tmp 11, Operand.tmp 25], argTypes := #[53, 53] }, type := 53, pos := "wire.go:138", after := #[{ on := 0, ground := Ground.data }, { on := 14, ground := Ground.data }, { on := 13, ground := Ground.chain }], guard := none }) rfl (fun K hK => ?_) AllReadyH.nil
        have hO5 := HOWN.out _ BB.out
        have hs5 := HSZ.out _ BB.out
        refine wpOp_appT (by kernel_rfl) _ _ rfl rfl (B := B) (v := u2) (l := L) (m := [mt]) (ao := some ⟨w5.heap.size, 0, none⟩) (cap := 1) rfl rfl (ownT_below hO5 ((Below.refl w5.heap.size w5).alloc (Nat.le_refl _) _)) (by rw [World.size_alloc]; omega) (txt_one w5 mt) (by intro e; cases e) (by have := HLN.out; simp only [List.length_cons, List.length_nil]; omega) ?_
        intro v' w' ho' hg'
        have M8 := Lib.hid (show MAt w' wr.heap.size og dg from (hg'.block _ M7.out.lt HNB.out).trans M7.out)
        have O8 := Lib.hid ho'
        have B8 := Lib.hid (app_grown12 (B := B) (w := wr) (BB.out.mono HBW.out) hs5 hO5 hg')
        clear ho' hg' hO5
        refine hK.out _ _ (HMC.out _ M8.out) (fun hHeld => ?_)
        clear hK K
        (try simp only [Act.put, List.setIfInBounds_toArray, List.set_cons_zero, List.set_cons_succ])
        refine wpAnyH_take (i := 16) (oi := { dst := some 2, op := Op.assign (Operand.tmp 26), type := 53, pos := "wire.go:138", after := #[{ on := 15, ground := Ground.data }, { on := 15, ground := Ground.chain }, { on := 0, ground := Ground.phase }, { on := 1, ground := Ground.phase }, { on := 2, ground := Ground.phase }, { on := 3, ground := Ground.phase }, { on := 4, ground := Ground.phase }, { on := 5, ground := Ground.phase }, { on := 6, ground := Ground.phase }, { on := 7, ground := Ground.phase }, { on := 8, ground := Ground.phase }, { on := 9, ground := Ground.phase }, { on := 10, ground := Ground.phase }, { on := 11, ground := Ground.phase }, { on := 12, ground := Ground.phase }, { on := 13, ground := Ground.phase }, { on := 14, ground := Ground.phase }, { on := 15, ground := Ground.phase }], guard := none }) (v := ?_) rfl (by kernel_rfl) (by kernel_rfl) (by kernel_rfl) (fun _ _ _ h => h) (Or.inl ⟨by rfl, ?_⟩) (by assumption) ?_
        rotate_left 1
        · (intro w hSw; (try dsimp only at hSw); go_simp; try with_reducible rfl)
        (try simp only [Act.put, List.setIfInBounds_toArray, List.set_cons_zero, List.set_cons_succ])
        refine wpAnyH_done (by kernel_rfl) ?_ _
        go_wp2_with fail
        go_roundw
        case rel => exact ⟨j + 1, by go_num, by omega, Lib.hid (by rw [HTK.out]; exact O8.out), HOK2, Lib.hid ((HBX.out.trans B8.out))⟩
        case measure => simp [intOf]; omega
      · rw [h5, show st2 (([] : List UInt8), 5) = .tuple #[.string ⟨#[]⟩, .int .i64 5] from rfl] at HRW
        have HRW := Lib.hid HRW
        have hno := HNOT.out (by rw [h5]; decide)
        have HBAD : Hid (∀ V, Below wr.heap.size wr V → DonePost eb (RdMt l w0 s) (boom12 5) V) := Lib.hid (fun V hV => by
          obtain ⟨k1, k2, k3⟩ := HKEEP.out V (HBX.out.trans (hV.mono HBW.out))
          refine ⟨k2, .inr ⟨5, rfl, ?_, ?_, k3⟩⟩
          · rw [hno]; rfl
          · rw [hno]; exact k1)
        clear h5 HOK HNOT HMT2 hno
        go_wp2_with (first | (refine wpList_store_row rfl 51 _ _ rfl wr.heap.size #[.int .i64 og, .string dg] rfl rfl 51 #[.int .i64 0, .string ⟨#[]⟩] N0.out (mem_info _ _) rfl (mem_one _ _) ?_; rw [← HW2.out]) | fail)
        refine wp_region_held_drew (S := fun W => W.cell? ⟨wr.heap.size, 0, none⟩ = some (.int .i64 og) ∧ W.cell? ⟨wr.heap.size, 1, none⟩ = some (.string dg)) (by kernel_rfl) (by first | assumption | exact KS) (fun hHeld => ?_)
        generalize W2.drew = wz at *
        refine wpAnyH_take (i := 0) (oi := { dst := some 11, op := Op.move (Operand.tmp 2), type := 53, pos := "wire.go:138", after := #[], guard := none }) (v := ?_) rfl (by kernel_rfl) (by kernel_rfl) (by kernel_rfl) (fun _ _ _ h => h) (Or.inl ⟨by rfl, ?_⟩) (by assumption) ?_
        rotate_left 1
        · (intro w hSw; (try dsimp only at hSw); go_simp; try with_reducible rfl)
        (try simp only [Act.put, List.setIfInBounds_toArray, List.set_cons_zero, List.set_cons_succ])
        refine wpAnyH_take (i := 1) (oi := { dst := some 12, op := Op.fieldAddr 51 (Operand.tmp 4) 0, type := 0, pos := "wire.go:138", after := #[], guard := none }) (v := ?_) rfl (by kernel_rfl) (by kernel_rfl) (by kernel_rfl) (fun _ _ _ h => h) (Or.inl ⟨by rfl, ?_⟩) (by assumption) ?_
        rotate_left 1
        · (intro w hSw; (try dsimp only at hSw); go_simp; try with_reducible rfl)
        (try simp only [Act.put, List.setIfInBounds_toArray, List.set_cons_zero, List.set_cons_succ])
        refine wpAnyH_take (i := 2) (oi := { dst := some 13, op := Op.load 3 (Operand.tmp 12), type := 3, pos := "wire.go:138", after := #[{ on := 1, ground := Ground.data }], guard := none }) (v := ?_) rfl (by kernel_rfl) (by kernel_rfl) (by kernel_rfl) (fun _ _ _ h => h) (Or.inl ⟨by rfl, ?_⟩) (by assumption) ?_
        rotate_left 1
        · (intro w hSw; (try dsimp only at hSw); go_simp; try with_reducible rfl)
        (try simp only [Act.put, List.setIfInBounds_toArray, List.set_cons_zero, List.set_cons_succ])
        refine wpAnyH_take (i := 7) (oi := { dst := some 18, op := Op.fieldAddr 51 (Operand.tmp 4) 1, type := 0, pos := "wire.go:138", after := #[], guard := none }) (v := ?_) rfl (by kernel_rfl) (by kernel_rfl) (by kernel_rfl) (fun _ _ _ h => h) (Or.inl ⟨by rfl, ?_⟩) (by assumption) ?_
        rotate_left 1
        · (intro w hSw; (try dsimp only at hSw); go_simp; try with_reducible rfl)
        (try simp only [Act.put, List.setIfInBounds_toArray, List.set_cons_zero, List.set_cons_succ])
        refine wpAnyH_take (i := 8) (oi := { dst := some 19, op := Op.load 9 (Operand.tmp 18), type := 9, pos := "wire.go:138", after := #[{ on := 7, ground := Ground.data }], guard := none }) (v := ?_) rfl (by kernel_rfl) (by kernel_rfl) (by kernel_rfl) (fun _ _ _ h => h) (Or.inl ⟨by rfl, ?_⟩) (by assumption) ?_
        rotate_left 1
        · (intro w hSw; (try dsimp only at hSw); go_simp; try with_reducible rfl)
        (try simp only [Act.put, List.setIfInBounds_toArray, List.set_cons_zero, List.set_cons_succ])
        refine wpAnyH_ready (rs := [3]) (by kernel_rfl) (by simp) ?_
        refine AllReadyH.cons (o := { dst := some 14, op := Op.call { callee := Callee.value (Operand.func 28), args := #[Operand.tmp 13], argTypes := #[3] }, type := 30, pos := "wire.go:138", after := #[{ on := 2, ground := Ground.data }], guard := none }) rfl (fun K hK => ?_) AllReadyH.nil
        go_simp
        refine (HN.out _).mono ?_; rintro e w1 ⟨rfl, b1⟩
        have MM := Lib.hid (MM.out.below b1)
        have BB := Lib.hid (below_step BB.out b1)
        clear b1
        refine hK.out _ _ (HMC.out _ MM.out) (fun hHeld => ?_)
        clear hK K
        (try simp only [Act.put, List.setIfInBounds_toArray, List.set_cons_zero, List.set_cons_succ])
        refine wpAnyH_take (i := 4) (oi := { dst := some 15, op := Op.extract (Operand.tmp 14) 0, type := 9, pos := "wire.go:138", after := #[{ on := 3, ground := Ground.data }], guard := none }) (v := ?_) rfl (by kernel_rfl) (by kernel_rfl) (by kernel_rfl) (fun _ _ _ h => h) (Or.inl ⟨by rfl, ?_⟩) (by assumption) ?_
        rotate_left 1
        · (intro w hSw; (try dsimp only at hSw); go_simp; try with_reducible rfl)
        (try simp only [Act.put, List.setIfInBounds_toArray, List.set_cons_zero, List.set_cons_succ])
        refine wpAnyH_take (i := 5) (oi := { dst := some 16, op := Op.extract (Operand.tmp 14) 1, type := 29, pos := "wire.go:138", after := #[{ on := 3, ground := Ground.data }], guard := none }) (v := ?_) rfl (by kernel_rfl) (by kernel_rfl) (by kernel_rfl) (fun _ _ _ h => h) (Or.inl ⟨by rfl, ?_⟩) (by assumption) ?_
        rotate_left 1
        · (intro w hSw; (try dsimp only at hSw); go_simp; try with_reducible rfl)
        (try simp only [Act.put, List.setIfInBounds_toArray, List.set_cons_zero, List.set_cons_succ])
        refine wpAnyH_ready (rs := [6]) (by kernel_rfl) (by simp) ?_
        refine AllReadyH.cons (o := { dst := some 17, op := Op.call { callee := Callee.value (Operand.func 69), args := #[Operand.tmp 15, Operand.tmp 16], argTypes := #[9, 29] }, type := 9, pos := "wire.go:138", after := #[{ on := 4, ground := Ground.data }, { on := 5, ground := Ground.data }, { on := 3, ground := Ground.chain }], guard := none }) rfl (fun K hK => ?_) AllReadyH.nil
        go_simp
        refine (made12_ok _ _).mono ?_; rintro e w2 ⟨rfl, hw⟩; rw [hw]; clear hw w2
        refine hK.out _ _ (HMC.out _ MM.out) (fun hHeld => ?_)
        clear hK K
        (try simp only [Act.put, List.setIfInBounds_toArray, List.set_cons_zero, List.set_cons_succ])
        refine wpAnyH_ready (rs := [9]) (by kernel_rfl) (by simp) ?_
        refine AllReadyH.cons (o := { dst := some 20, op := Op.buildSlice 53 2 #[(0, Operand.tmp 17), (1, Operand.tmp 19)], type := 53, pos := "wire.go:138", after := #[{ on := 6, ground := Ground.data }, { on := 8, ground := Ground.data }], guard := none }) rfl (fun K hK => ?_) AllReadyH.nil
        go_simp
        obtain ⟨W4, hW4⟩ : ∃ V, V = w1.alloc (.cells #[.string nt, .string dg] 9) := ⟨_, rfl⟩
        have ba : Below w1.heap.size w1 W4 := by rw [hW4]; exact (Below.refl _ _).alloc (Nat.le_refl _) _
        have T2 := Lib.hid (show TxtRow W4 (some ⟨w1.heap.size, 0, none⟩) [nt, dg] from hW4 ▸ txt_two12 w1 nt dg)
        have MM := Lib.hid (MM.out.below ba)
        have BB := Lib.hid (below_step BB.out ba)
        rw [← hW4]
        clear ba hW4
        refine hK.out _ _ (HMC.out _ MM.out) (fun hHeld => ?_)
        clear hK K
        (try simp only [Act.put, List.setIfInBounds_toArray, List.set_cons_zero, List.set_cons_succ])
        refine wpAnyH_ready (rs := [10]) (by kernel_rfl) (by simp) ?_
        refine AllReadyH.cons (o := { dst := some 21, op := Op.call { callee := Callee.value (Operand.func 70), args := #[Operand.tmp 20], argTypes := #[53] }, type := 30, pos := "wire.go:138", after := #[{ on := 9, ground := Ground.data }, { on := 6, ground := Ground.chain }], guard := none }) rfl (fun K hK => ?_) AllReadyH.nil
        go_simp
        refine (HRW.out _ _ T2.out).mono ?_; rintro e w5 ⟨rfl, b5⟩
        have MM := Lib.hid (MM.out.below b5)
        have BB := Lib.hid (below_step BB.out b5)
        clear b5
        refine hK.out _ _ (HMC.out _ MM.out) (fun hHeld => ?_)
        clear hK K
        (try simp only [Act.put, List.setIfInBounds_toArray, List.set_cons_zero, List.set_cons_succ])
        refine wpAnyH_take (i := 11) (oi := { dst := some 22, op := Op.extract (Operand.tmp 21) 0, type := 9, pos := "wire.go:138", after := #[{ on := 10, ground := Ground.data }], guard := none }) (v := ?_) rfl (by kernel_rfl) (by kernel_rfl) (by kernel_rfl) (fun _ _ _ h => h) (Or.inl ⟨by rfl, ?_⟩) (by assumption) ?_
        rotate_left 1
        · (intro w hSw; (try dsimp only at hSw); go_simp; try with_reducible rfl)
        (try simp only [Act.put, List.setIfInBounds_toArray, List.set_cons_zero, List.set_cons_succ])
        refine wpAnyH_take (i := 12) (oi := { dst := some 23, op := Op.extract (Operand.tmp 21) 1, type := 29, pos := "wire.go:138", after := #[{ on := 10, ground := Ground.data }], guard := none }) (v := ?_) rfl (by kernel_rfl) (by kernel_rfl) (by kernel_rfl) (fun _ _ _ h => h) (Or.inl ⟨by rfl, ?_⟩) (by assumption) ?_
        rotate_left 1
        · (intro w hSw; (try dsimp only at hSw); go_simp; try with_reducible rfl)
        (try simp only [Act.put, List.setIfInBounds_toArray, List.set_cons_zero, List.set_cons_succ])
        refine wpAnyH_ready (rs := [13]) (by kernel_rfl) (by simp) ?_
        refine AllReadyH.cons (o := { dst := some 24, op := Op.call { callee := Callee.value (Operand.func 69), args := #[Operand.tmp 22, Operand.tmp 23], argTypes := #[9, 29] }, type := 9, pos := "wire.go:138", after := #[{ on := 11, ground := Ground.data }, { on := 12, ground := Ground.data }, { on := 10, ground := Ground.chain }], guard := none }) rfl (fun K hK => ?_) AllReadyH.nil
        go_simp
        refine (made12_bad _ 5 (by decide) _).mono ?_; rintro e w6 ⟨rfl, hw⟩; rw [hw]; clear hw w6
        have HB5 := Lib.hid (HBAD.out _ BB.out)
        clear hK
        go_wp2_with fail
        exact ⟨by first | rfl | trivial, HB5.out⟩
    · obtain rfl : j = n := by omega
      have hall2 : ∀ m ∈ l, (memT m).2 = 0 := by have := hok.out; rwa [HN6.out, List.take_length] at this
      have hm : membersT l = rowP (l.map fun m => (memT m).1) := by unfold membersT; rw [if_pos hall2]
      have hown2 := hown.out
      rw [HN6.out, List.take_length] at hown2
      obtain ⟨bo, bcap, rfl, hc, hr, _⟩ := own_shape12 hown2
      have HRW := fun V (hV : TxtRow V bo (l.map memT2)) => row6_any (l.map memT2) bo bcap hc (by rw [List.length_map]; have := HN6.out; omega) (fun x hx => by
        obtain ⟨y, hy, rfl⟩ := List.mem_map.1 hx
        have := memT_size y; omega) V hV
      have e1 : (l.map memT2).map bl = l.map fun m => (memT m).1 := by rw [List.map_map]; rfl
      rw [e1, ← hm] at HRW
      have herr : (membersT l).2 = 0 ∨ membersT l = ([], 5) := by
        rw [hm]
        refine row_err fun x hx => ?_
        obtain ⟨y, hy, rfl⟩ := List.mem_map.1 hx
        exact (row_read (by simp) (row_ok (hall2 y hy) : rowP [(numP y.1).1, bl y.2] = ((memT y).1, 0))).2.2
      rw [List.length_map] at HRW ⊢
      have HR2 := Lib.hid hr
      have HRM : Hid (∀ z V, RdMt l w0 s z V ↔ (z = if (membersT l).2 = 0 then 0 else 5) ∧ Boxed V s 9 (.string (if (membersT l).2 = 0 then tb (membersT l).1 else ⟨#[]⟩)) ∧ Below w0.heap.size w0 V) := Lib.hid (fun _ _ => Iff.rfl)
      obtain ⟨k1, k2, k3⟩ := HKEEP.out _ hb.out
      have K1 := Lib.hid k1
      have K2 := Lib.hid k2
      have K3 := Lib.hid k3
      have SLT : Hid (s < wr.heap.size ∧ eb < wr.heap.size) := Lib.hid ⟨(Array.getElem?_eq_some_iff.1 k1).1, (Array.getElem?_eq_some_iff.1 k2).1⟩
      clear hown hok hown2 hc hr hall2 hm e1 k1 k2 k3
      generalize hmm : membersT l = mr at *
      generalize l.length = n2 at *
      rcases herr with h0 | h5
      · obtain ⟨rt, re⟩ := mr
        dsimp only at h0
        subst h0
        rw [show st2 (rt, 0) = .tuple #[.string (tb rt), .int .i64 0] from rfl] at HRW
        have HRW := Lib.hid HRW
        go_wp2_with (first | (go_at_call 70; refine (HRW.out _ HR2.out).mono ?_; rintro e7 V7 ⟨rfl, b7⟩; have q1 : Boxed V7 s 9 (.string ⟨#[]⟩) := (b7.block _ SLT.out.1).trans K1.out; have q2 := q1.cell; have q3 := q1.frozen) | (go_at_call 69; refine (made12_ok _ _).mono ?_; rintro e w2 ⟨rfl, hw⟩; rw [hw]; clear hw w2) | fail)
        go_end0
        have tr := turn_cell V7 s 0 (.string (tb rt))
        have hsl := HSL.out
        have hlt := b7.size
        have hse := SLT.out
        exact ⟨(tr.block _ (by omega) (by omega)).trans ((b7.block _ SLT.out.2).trans K2.out), .inl ⟨rfl, (HRM.out _ _).2 ⟨rfl, q1.set _, (below_step K3.out b7).trans (turn_to tr (fun b e => by omega) (by have := K3.out.size; omega))⟩⟩⟩
      · subst h5
        rw [show st2 (([] : List UInt8), 5) = .tuple #[.string ⟨#[]⟩, .int .i64 5] from rfl] at HRW
        have HRW := Lib.hid HRW
        go_wp2_with (first | (go_at_call 70; refine (HRW.out _ HR2.out).mono ?_; rintro e7 V7 ⟨rfl, b7⟩) | (go_at_call 69; refine (made12_bad _ 5 (by decide) _).mono ?_; rintro e w2 ⟨rfl, hw⟩; rw [hw]; clear hw w2) | fail)
        exact ⟨by first | rfl | trivial, (b7.block _ SLT.out.2).trans K2.out, .inr ⟨5, rfl, (HRM.out _ _).2 ⟨rfl, (b7.block _ SLT.out.1).trans K1.out, below_step K3.out b7⟩⟩⟩
end Go.Proofs.YtbdlegjklfkdmaaGreatDoor.Pl

namespace Go.Proofs.YtbdlegjklfkdmaaGreatDoor.Pl
open Go.RowKit

/-- Sums, tags and seals that say nothing: for what no sum, no tag and no seal is asked of. -/
def cry0 : Cry where
  hash _ := List.replicate 32 0
  mac _ _ := List.replicate 32 0
  shut _ n t := n ++ t ++ List.replicate 32 0
  see _ x := some ((x.drop 12).take (x.length - 44))
  hash_len _ := by simp
  mac_len _ _ := by simp
  shut_len _ n t := by simp; omega
  see_shut _ n t h _ := by
    have h1 : (n ++ t ++ List.replicate 32 (0 : UInt8)).length - 44 = t.length := by simp [h]; omega
    rw [h1, List.append_assoc, List.drop_append_of_le_length (by omega), ← h, List.drop_length, List.nil_append, List.take_append_of_le_length (Nat.le_refl _), List.take_length]
/-- The key for tags of a ballot. -/
noncomputable def keyBt (c : Cry) (k : Bool) (m : List UInt8) (b : Bt) : List UInt8 := (keyP c k m (nameK 107 b.org b.aud).1).1
noncomputable def tagBt (c : Cry) (k : Bool) (m : List UInt8) (b : Bt) : List UInt8 × Nat :=
  if (bodyP b).2 ≠ 0 then ([], (bodyP b).2) else mac8P c k (keyBt c k m b) (bodyP b).1
theorem bodyP_short {b : Bt} : (bodyP b).1.length ≤ 16384 := by
  unfold bodyP
  split
  · exact Nat.zero_le _
  · split
    · exact Nat.zero_le _
    · exact rowP_size _
theorem keyBt_short (c : Cry) (k : Bool) (m : List UInt8) (b : Bt) : (keyBt c k m b).length ≤ 16384 := key_short _ _ _ _
theorem tagBt_short (c : Cry) (k : Bool) (m : List UInt8) (b : Bt) : (tagBt c k m b).1.length ≤ 16384 := by
  unfold tagBt
  split
  · exact Nat.zero_le _
  · exact mac_short _ _ _ _
theorem tagBt_no {c : Cry} {k : Bool} {m : List UInt8} {b : Bt} (h : (bodyP b).2 ≠ 0) : tagBt c k m b = ([], (bodyP b).2) := if_pos h
theorem tagBt_ok {c : Cry} {k : Bool} {m : List UInt8} {b : Bt} (h : (bodyP b).2 = 0) : tagBt c k m b = mac8P c k (keyBt c k m b) (bodyP b).1 := if_neg (fun e => e h)
/-- The name of a ballot's key is one. -/
theorem name_ok {b : Bt} (h : (bodyP b).2 = 0) : nameK 107 b.org b.aud = (nm 107 b.org.toNat b.aud.toNat, 0) := by
  obtain ⟨hm, _, _⟩ := body_row (b := b) (s := (bodyP b).1) (Prod.ext rfl h)
  have ho := orgP_iff.1 (mayBt_org hm)
  have ha := orgP_iff.1 (mayBt_iff.1 hm).2.1
  unfold nameK
  rw [if_pos ⟨⟨ho.1, by omega⟩, ⟨ha.1, by omega⟩⟩]
theorem nameK_len (c : UInt8) (a b : Int) : (nameK c a b).1.length ≤ 5 := by
  unfold nameK
  split
  · exact Nat.le_refl _
  · exact Nat.zero_le _
theorem nmT_size (x y : Nat) : (nm 107 x y).length = 5 := rfl
end Go.Proofs.YtbdlegjklfkdmaaGreatDoor.Pl

namespace Go.Proofs.YtbdlegjklfkdmaaGreatDoor.Pl
open Go.RowKit

/-- The members' term, or why there is none. -/
def mtP (c : Int) (l : List Mb) : List UInt8 × Nat := if mayL c l = true then (if (membersT l).2 = 0 then ((membersT l).1, 0) else ([], 5)) else ([], 2)
theorem call_mt1 (args : Array Value) (V : World) : (callFunc 68 args).run Tryz.prog V = .ok (.enter 68 args) V := by kernel_rfl
theorem results_str_tmp {P : Program} {fn : Func} {p u : Tmp} {ty : TypeId} (h : fn.results = #[.cell p ty, .tmp u]) (tmps : Array Value) (w : World) (g : Nat) (v : Value)
    (hp : tmps.getD p undef = ptr12 g) (hl : (loadVar ty ⟨g, 0, none⟩).run P w = .ok v w) :
    (results fn tmps).run P w = .ok (.tuple #[v, tmps.getD u undef]) w := by
  rw [results_cell_tmp h, hp]
  simp [asAddr, hl, Result.andThen]
set_option maxHeartbeats 8000000 in
set_option maxRecDepth 100000 in
theorem members12x_any (c e q : Int) (l : List Mb) (ao : Option Addr) (cap : Nat) (hsz : ∀ x ∈ l, x.2.size ≤ 30000) (hlen : l.length ≤ 9223372036854775807) (w : World) (hrow : MemRow w ao l) :
    Calls Tryz.prog 24 #[.agg #[.int .i64 c, .int .i64 e, .int .i64 q], .slice ao l.length cap] w fun x w' => x = .returned (st2 (mtP c l)) ∧ Below w.heap.size w w' := by
  obtain ⟨W0, hW0⟩ : ∃ V, V = ((w.alloc (.cells #[.int .i64 c, .int .i64 e, .int .i64 q] 23)).alloc (.cells #[.slice ao l.length cap] 24)).alloc (.cells #[.string ⟨#[]⟩] 9) := ⟨_, rfl⟩
  have sz : W0.heap.size = w.heap.size + 3 := by rw [hW0]; simp
  have h0 : XAt W0 w.heap.size c e q := by
    rw [hW0]
    exact (xat_new w c e q).below (((Below.refl _ _).alloc (Nat.le_refl _) _).alloc (by simp) _)
  have h1 : Boxed W0 (w.heap.size + 1) 24 (.slice ao l.length cap) := by rw [hW0]; have h := (Boxed.new (w.alloc (.cells #[.int .i64 c, .int .i64 e, .int .i64 q] 23)) 24 (.slice ao l.length cap)).alloc (.cells #[.string ⟨#[]⟩] 9); simpa using h
  have h2 : Boxed W0 (w.heap.size + 2) 9 (.string ⟨#[]⟩) := by rw [hW0]; have h := Boxed.new ((w.alloc (.cells #[.int .i64 c, .int .i64 e, .int .i64 q] 23)).alloc (.cells #[.slice ao l.length cap] 24)) 9 (.string ⟨#[]⟩); simpa using h
  have B0 : Below w.heap.size w W0 := by rw [hW0]; exact (((Below.refl _ w).alloc (Nat.le_refl _) _).alloc (by simp) _).alloc (by simp; omega) _
  obtain ⟨x0, x1, x2, -⟩ := h0.cells
  have c1 := h1.cell
  have c2 := h2.cell
  rw [hW0] at x0 x1 x2 c1
  have HM := Lib.hid (fun V (hV : Below w.heap.size w V) => maymems_any c e q l ao cap (fun x hx => by have := hsz x hx; omega) hlen V (hrow.below hV))
  have HB0 := Lib.hid B0
  have HW0 := Lib.hid hW0
  have H1 := Lib.hid h1
  have H2 := Lib.hid h2
  have HSZ := Lib.hid sz
  have HROW := Lib.hid (fun V (hV : Below w.heap.size w V) => hrow.below hV)
  have HLL := Lib.hid hsz
  unfold mtP
  cases hm : mayL c l with
  | false =>
    rw [hm] at HM
    simp only [Bool.false_eq_true, if_false]
    rw [show st2 (([] : List UInt8), 2) = .tuple #[.string ⟨#[]⟩, .int .i64 2] from rfl]
    clear hW0 sz h0 h1 h2 B0 c2 hsz hrow hm
    generalize l.length = n at *
    go_enter Tryz.func24, Tryz.ntmps24
    go_wp2_with (first | (go_at_call 66; rw [← HW0.out]; refine (HM.out _ HB0.out).mono ?_; rintro e1 V ⟨rfl, b1⟩; have q1 : Boxed V (w.heap.size + 1 + 1) 9 (.string ⟨#[]⟩) := (b1.block _ (by rw [HSZ.out]; omega)).trans H2.out; have q2 := q1.cell; have q3 := q1.frozen) | fail)
    have q4 := (q1.set (.string ⟨#[]⟩)).cell
    refine bodyPost_ret (results_str_tmp (fn := Tryz.f24) (p := 4) (u := 5) (ty := 9) rfl _ _ (w.heap.size + 1 + 1) (.string ⟨#[]⟩) rfl (by simp [go_sem, q4])) rfl ?_
    exact ⟨rfl, (below_step HB0.out b1).trans (turn_to (turn_cell V (w.heap.size + 1 + 1) 0 _) (fun b e => by omega) (below_step HB0.out b1).size)⟩
  | true =>
    rw [hm] at HM
    simp only [if_true]
    have HC := fun V (hV : Below W0.heap.size W0 V) => caught_any 68 #[ptr12 (w.heap.size + 1), ptr12 (w.heap.size + 2)] call_mt1 V (RdMt l w (w.heap.size + 2)) (by
      have ba := (Below.refl V.heap.size V).alloc (Nat.le_refl _) (.cells #[.int .i64 0] 29)
      have hVs := hV.size
      have bB := below_step B0 hV
      exact mt1_any l c hm hsz ao cap (w.heap.size + 1) (w.heap.size + 2) w _ V.heap.size ((ba.block _ (by omega)).trans ((hV.block _ (by omega)).trans h1)) (HROW.out _ (below_step bB ba)) ((ba.block _ (by omega)).trans ((hV.block _ (by omega)).trans h2)) (Boxed.new _ _ _) (by omega) (by omega) (below_step bB ba))
    have HC2 : Hid (∀ V, Below W0.heap.size W0 V → Calls Tryz.prog 67 #[.func (.func 68) #[] #[ptr12 (w.heap.size + 1), ptr12 (w.heap.size + 1 + 1)]] V (fun x V2 => x = .returned (.int .i64 ((if (membersT l).2 = 0 then 0 else 5 : Nat) : Int)) ∧ Boxed V2 (w.heap.size + 1 + 1) 9 (.string (if (membersT l).2 = 0 then tb (membersT l).1 else ⟨#[]⟩)) ∧ Below w.heap.size w V2)) := Lib.hid (fun V hV => by
      refine (HC V hV).mono ?_
      rintro e V2 ⟨z, V1, rfl, ⟨rfl, q1, bV⟩, rfl⟩
      have tc := turn_cell V1 V.heap.size 0 (.int .i64 ((if (membersT l).2 = 0 then 0 else 5 : Nat) : Int))
      have hVs := hV.size
      exact ⟨rfl, (tc.block _ (Array.getElem?_eq_some_iff.1 q1).1 (by omega)).trans q1, bV.trans (turn_to tc (fun b e => by omega) bV.size)⟩)
    have hres : st2 (if (membersT l).2 = 0 then ((membersT l).1, 0) else ([], 5)) = .tuple #[.string (if (membersT l).2 = 0 then tb (membersT l).1 else ⟨#[]⟩), .int .i64 ((if (membersT l).2 = 0 then 0 else 5 : Nat) : Int)] := by
      by_cases h : (membersT l).2 = 0
      · simp only [h, if_true]; rfl
      · simp only [h, if_false]; rfl
    rw [hres]
    clear hW0 sz h0 h1 h2 B0 c2 hsz hrow hm HC hres
    generalize (if (membersT l).2 = 0 then 0 else 5 : Nat) = z at *
    generalize (if (membersT l).2 = 0 then tb (membersT l).1 else ⟨#[]⟩) = res at *
    generalize l.length = n at *
    go_enter Tryz.func24, Tryz.ntmps24
    go_wp2_with (first | (go_at_call 66; rw [← HW0.out]; refine (HM.out _ HB0.out).mono ?_; rintro e1 V ⟨rfl, b1⟩) | (go_at_call 67; refine (HC2.out _ b1).mono ?_; rintro e2 V2 ⟨rfl, q1, bV⟩; have q2 := q1.cell; have q3 := q1.frozen) | fail)
    have q4 := (q1.set (.string res)).cell
    refine bodyPost_ret (results_str_tmp (fn := Tryz.f24) (p := 4) (u := 5) (ty := 9) rfl _ _ (w.heap.size + 1 + 1) (.string res) rfl (by simp [go_sem, q4])) rfl ?_
    exact ⟨rfl, bV.trans (turn_to (turn_cell V2 (w.heap.size + 1 + 1) 0 _) (fun b e => by omega) bV.size)⟩
end Go.Proofs.YtbdlegjklfkdmaaGreatDoor.Pl

namespace Go.Proofs.YtbdlegjklfkdmaaGreatDoor.Pl
open Go.RowKit

def longL (l : List Mb) : Bool := decide (20 < l.length) || l.any (fun m => decide (20000 < m.2.size))
theorem longL_no {l : List Mb} (h : longL l = false) : l.length ≤ 20 ∧ ∀ m ∈ l, m.2.size ≤ 20000 := by
  simp only [longL, Bool.or_eq_false_iff, decide_eq_false_iff_not, List.any_eq_false] at h
  exact ⟨by omega, fun m hm => by have := h.2 m hm; simpa using this⟩
set_option maxHeartbeats 4000000 in
set_option maxRecDepth 100000 in
theorem longl_any (l : List Mb) (ao : Option Addr) (cap : Nat) (hl : l.length ≤ 9223372036854775807) (w : World) (hrow : MemRow w ao l) :
    Calls Tryz.prog 6 #[.slice ao l.length cap] w fun x w' => x = .returned (.bool (longL l)) ∧ w' = w := by
  obtain ⟨n, hn⟩ : ∃ n, n = l.length := ⟨_, rfl⟩
  obtain ⟨z, hz⟩ : ∃ z, z = longL l := ⟨_, rfl⟩
  rw [← hn, ← hz]
  by_cases h20 : 20 < n
  · have h20' : (20 : Int) < (n : Int) := by omega
    have hT : z = true := by rw [hz]; simp [longL]; left; omega
    subst hT
    clear hrow hz hn hl
    go_enter Tryz.func6, Tryz.ntmps6
    go_wp2_with fail
    go_ret
    exact ⟨rfl, rfl⟩
  · have h20' : ¬ (20 : Int) < (n : Int) := by omega
    have hn20 : n ≤ 20 := by omega
    have HZ := Lib.hid hz
    have HN := Lib.hid hn
    have HROW := Lib.hid hrow
    clear hrow hz hn hl
    go_enter Tryz.func6, Tryz.ntmps6
    go_wp2_with fail
    go_loopw [3] (fun iv wr => ∃ j : Nat, iv = .int .i64 j ∧ j ≤ n ∧ wr = w ∧ Hid (∀ m ∈ l.take j, m.2.size ≤ 20000)) (fun iv _ => n - (intOf iv).toNat)
    case atStart => exact ⟨0, rfl, Nat.zero_le _, rfl, Lib.hid (fun m hm => by cases hm)⟩
    case round =>
      obtain ⟨j, rfl, hjn, rfl, hst⟩ := hrel
      by_cases hj : j < n
      · have hj' : (j : Int) < (n : Int) := by omega
        have hj1 : j < l.length := by rw [← HN.out]; exact hj
        rcases HROW.out with e | ⟨b, off, rfl, hlt, hcs⟩
        · exfalso; rw [e] at hj1; exact absurd hj1 (Nat.not_lt_zero _)
        obtain ⟨x0, x1⟩ := hcs j hj1
        have HYES : Hid (l[j].2.size ≤ 20000 → ∀ m ∈ l.take (j + 1), m.2.size ≤ 20000) := Lib.hid (fun e m hm => by
          rw [List.take_succ_eq_append_getElem hj1] at hm
          rcases List.mem_append.1 hm with hm | hm
          · exact hst.out m hm
          · rw [List.mem_singleton.1 hm]; exact e)
        have HNO : Hid (20000 < l[j].2.size → z = true) := Lib.hid (fun e => by
          rw [HZ.out]; unfold longL
          rw [List.any_eq_true.2 ⟨l[j], List.getElem_mem hj1, decide_eq_true e⟩, Bool.or_true])
        generalize l[j] = m1 at *
        obtain ⟨o1, d1⟩ := m1
        dsimp only at *
        clear hcs hlt hj1 hst
        by_cases hd : 20000 < d1.size
        · have hd' : (20000 : Int) < (d1.size : Int) := by omega
          have hT := HNO.out hd
          subst hT
          clear HYES HNO
          go_wp2_with fail
          go_ret
          exact ⟨rfl, rfl⟩
        · have hd' : ¬ (20000 : Int) < (d1.size : Int) := by omega
          have HT := Lib.hid (HYES.out (by omega))
          clear HYES HNO
          go_wp2_with fail
          go_roundw
          case rel => exact ⟨j + 1, by go_num, by omega, by first | rfl | trivial, HT⟩
          case measure => simp [intOf]; omega
      · obtain rfl : j = n := by omega
        have hF : z = false := by
          rw [HZ.out]
          have h1 := hst.out
          rw [HN.out, List.take_length] at h1
          have h2 := HN.out
          unfold longL
          rw [decide_eq_false (by omega), Bool.false_or, List.any_eq_false]
          intro m hm
          have := h1 m hm
          simp; omega
        subst hF
        go_wp2_with fail
        go_ret
        exact ⟨rfl, rfl⟩
end Go.Proofs.YtbdlegjklfkdmaaGreatDoor.Pl

namespace Go.Proofs.YtbdlegjklfkdmaaGreatDoor.Pl
open Go.RowKit Go.ChangeShapes Go.WideShapes

theorem cells_mem : Tryz.prog.cellsOf 51 = 2 := by kernel_rfl
theorem cells_txn : Tryz.prog.cellsOf 23 = 3 := by kernel_rfl
theorem cells_int12 : Tryz.prog.cellsOf 3 = 1 := by kernel_rfl
theorem cells_str12 : Tryz.prog.cellsOf 9 = 1 := by kernel_rfl
theorem cells_mems : Tryz.prog.cellsOf 24 = 1 := by kernel_rfl
theorem spot_none12 {w : World} {a : Addr} {v : Value} (h : w.cell? a = some v) : a.spot = none ∧ a.block < w.heap.size := by
  obtain ⟨b, off, sp⟩ := a
  unfold World.cell? at h
  cases sp with
  | none =>
    refine ⟨rfl, ?_⟩
    rcases Nat.lt_or_ge b w.heap.size with h1 | h1
    · exact h1
    · simp [Array.getElem?_eq_none h1] at h
  | some x =>
    exfalso
    simp only at h
    split at h
    · simp at h
    · cases h
/-- A number that fits. -/
def I64 (v : Int) : Prop := -9223372036854775808 ≤ v ∧ v ≤ 9223372036854775807
theorem int_fit12 {n : Int} (h : (Lit.int .i64 n).wf = true) : I64 n := by
  have : -9223372036854775808 ≤ n ∧ n ≤ 9223372036854775807 := by simpa [Lit.wf, IntKind.min, IntKind.max, IntKind.signed, IntKind.bits] using h
  exact this
set_option maxRecDepth 100000 in
theorem open_mem {H : Type} {enc : TypeId × Value → H} {w : World} {base fuel : Nat} {b off : Nat} {cs : List Value} {x : DataW H × List MemPlace}
    (hc : w.cells? base ⟨b, off, none⟩ 2 = some cs) (hd : DataW.trod enc Tryz.prog w base (fun _ => true) true fuel 51 cs = some x) : ∃ m : Mb, w.cell? ⟨b, off, none⟩ = some (.int .i64 m.1) ∧ w.cell? ⟨b, off + 1, none⟩ = some (.string m.2) ∧ I64 m.1 := by
  obtain ⟨xs, n, _, _, hl, hlen, hf⟩ := DataW.trod_struct Tryz.underlying51 hd
  rw [cells_mem] at hl
  match cs, hl with
  | [c0, c1], _ =>
    match xs, hlen with
    | [x0, x1], _ =>
      have f0 : DataW.trod enc Tryz.prog w base (fun _ => true) true n 3 [c0] = some x0 := by
        have h := hf 0 ⟨_, _, _, _, _, _, _⟩ rfl
        simp only [cells_int12, List.drop_zero, List.take_succ_cons, List.take_zero] at h
        exact h
      have f1 : DataW.trod enc Tryz.prog w base (fun _ => true) true n 9 [c1] = some x1 := by
        have h := hf 1 ⟨_, _, _, _, _, _, _⟩ rfl
        simp only [cells_str12, List.drop_zero, List.drop_succ_cons, List.take_succ_cons, List.take_zero] at h
        exact h
      obtain ⟨n0, e0, _, w0⟩ := DataW.trod_int Tryz.underlying3 f0
      obtain ⟨t1, e1, _, w1⟩ := DataW.trod_string Tryz.underlying9 f1
      injection e0 with e0 _
      injection e1 with e1 _
      subst e0 e1
      obtain ⟨_, _, hcell⟩ := World.cells?_some hc
      refine ⟨(n0, t1), ?_, ?_, int_fit12 w0⟩
      · have h := hcell 0 (by decide)
        rw [add12] at h
        exact h
      · have h := hcell 1 (by decide)
        rw [add12] at h
        exact h
set_option maxRecDepth 100000 in
theorem open_memsC {H : Type} {enc : TypeId × Value → H} {w : World} {base fuel : Nat} {c : Value} {x : DataW H × List MemPlace}
    (hf : DataW.trod enc Tryz.prog w base (fun _ => true) true fuel 24 [c] = some x) :
    ∃ ao l cap, c = .slice ao (List.length l) cap ∧ MemRow w ao l ∧ List.length l ≤ cap ∧ List.length l ≤ 9223372036854775807 ∧ (ao = none → cap = 0) := by
  rcases Go.Deep.open_slice Tryz.underlying24 hf with ⟨hcs, _⟩ | ⟨a', len, cap, m, n, D, P, hcs, _, hl, hm, hz, _, hcell⟩
  · injection hcs with hcs _
    exact ⟨none, [], 0, hcs, .inl rfl, Nat.le_refl _, Nat.zero_le _, fun _ => rfl⟩
  · injection hcs with hcs _
    subst hcs
    unfold maxLen at hm
    simp only [if_true] at hz
    rw [cells_mem] at hcell
    by_cases h0 : len = 0
    · subst h0
      exact ⟨some a', [], cap, rfl, .inl rfl, Nat.zero_le _, Nat.zero_le _, fun h => by cases h⟩
    obtain ⟨g, go, gs⟩ := a'
    have hsp : gs = none ∧ g < w.heap.size := by
      obtain ⟨cs, h1, _⟩ := hcell 0 (by omega)
      obtain ⟨_, h2, h3⟩ := World.cells?_some h1
      have h4 := h3 0 (by omega)
      rw [List.getElem?_eq_getElem (by omega)] at h4
      exact spot_none12 h4
    obtain ⟨rfl, hlt⟩ := hsp
    have each : ∀ j, j < len → ∃ m : Mb, w.cell? ⟨g, go + j * 2, none⟩ = some (.int .i64 m.1) ∧ w.cell? ⟨g, go + j * 2 + 1, none⟩ = some (.string m.2) := fun j hj => by
      obtain ⟨cs, h1, h2⟩ := hcell j (by omega)
      rw [add12] at h1
      obtain ⟨m, k1, k2, _⟩ := open_mem h1 h2
      exact ⟨m, k1, k2⟩
    have ex : ∀ k, k ≤ len → ∃ l : List Mb, l.length = k ∧ ∀ j, (hj : j < l.length) → w.cell? ⟨g, go + j * 2, none⟩ = some (.int .i64 l[j].1) ∧ w.cell? ⟨g, go + j * 2 + 1, none⟩ = some (.string l[j].2) := by
      intro k
      induction k with
      | zero => exact fun _ => ⟨[], rfl, fun j hj => absurd hj (Nat.not_lt_zero _)⟩
      | succ k ih =>
        intro hk
        obtain ⟨l, e, h⟩ := ih (by omega)
        obtain ⟨s, h1, h2⟩ := each k (by omega)
        refine ⟨l ++ [s], by simp [e], fun j hj => ?_⟩
        by_cases hj2 : j < l.length
        · rw [List.getElem_append_left hj2]
          exact h j hj2
        · have hjk : j = l.length := by simp at hj; omega
          subst hjk
          rw [List.getElem_append_right (Nat.le_refl _)]
          simp only [Nat.sub_self, List.getElem_cons_zero]
          rw [e]
          exact ⟨h1, h2⟩
    obtain ⟨l, e, h⟩ := ex len (Nat.le_refl _)
    exact ⟨some ⟨g, go, none⟩, l, cap, by rw [e], .inr ⟨g, go, rfl, hlt, h⟩, by omega, by omega, fun h => by cases h⟩
set_option maxRecDepth 100000 in
theorem open_txnC {H : Type} {enc : TypeId × Value → H} {w : World} {base fuel : Nat} {cs : List Value} {x : DataW H × List MemPlace}
    (hd : DataW.trod enc Tryz.prog w base (fun _ => true) true fuel 23 cs = some x) : ∃ c e q : Int, cs = [.int .i64 c, .int .i64 e, .int .i64 q] ∧ I64 c ∧ I64 e ∧ I64 q := by
  obtain ⟨xs, n, _, _, hl, hlen, hf⟩ := DataW.trod_struct Tryz.underlying23 hd
  rw [cells_txn] at hl
  match cs, hl with
  | [c0, c1, c2], _ =>
    match xs, hlen with
    | [x0, x1, x2], _ =>
      have f0 : DataW.trod enc Tryz.prog w base (fun _ => true) true n 3 [c0] = some x0 := by
        have h := hf 0 ⟨_, _, _, _, _, _, _⟩ rfl
        simp only [cells_int12, List.drop_zero, List.take_succ_cons, List.take_zero] at h
        exact h
      have f1 : DataW.trod enc Tryz.prog w base (fun _ => true) true n 3 [c1] = some x1 := by
        have h := hf 1 ⟨_, _, _, _, _, _, _⟩ rfl
        simp only [cells_int12, List.drop_zero, List.drop_succ_cons, List.take_succ_cons, List.take_zero] at h
        exact h
      have f2 : DataW.trod enc Tryz.prog w base (fun _ => true) true n 3 [c2] = some x2 := by
        have h := hf 2 ⟨_, _, _, _, _, _, _⟩ rfl
        simp only [cells_int12, List.drop_zero, List.drop_succ_cons, List.take_succ_cons, List.take_zero] at h
        exact h
      obtain ⟨n0, e0, _, w0⟩ := DataW.trod_int Tryz.underlying3 f0
      obtain ⟨n1, e1, _, w1⟩ := DataW.trod_int Tryz.underlying3 f1
      obtain ⟨n2, e2, _, w2⟩ := DataW.trod_int Tryz.underlying3 f2
      injection e0 with e0 _
      injection e1 with e1 _
      injection e2 with e2 _
      subst e0 e1 e2
      exact ⟨n0, n1, n2, rfl, int_fit12 w0, int_fit12 w1, int_fit12 w2⟩
end Go.Proofs.YtbdlegjklfkdmaaGreatDoor.Pl

namespace Go.Proofs.YtbdlegjklfkdmaaGreatDoor.Pl
open Go.RowKit

set_option maxHeartbeats 1000000 in
set_option maxRecDepth 100000 in
theorem rorg_any (v : Int) (w : World) : Calls Tryz.prog 38 #[.int .i64 v] w fun x w' => x = .returned (.bool (orgP v)) ∧ w' = w := by
  by_cases h1 : (0 : Int) ≤ v
  · by_cases h2 : v < 8
    · have hz : orgP v = true := orgP_iff.2 ⟨h1, h2⟩
      rw [hz]
      clear hz
      go_enter Tryz.func38, Tryz.ntmps38
      go_wp2
      go_ret
      exact ⟨rfl, rfl⟩
    · have hz : orgP v = false := by rw [← Bool.not_eq_true]; exact fun e => h2 (orgP_iff.1 e).2
      rw [hz]
      clear hz
      go_enter Tryz.func38, Tryz.ntmps38
      go_wp2
      go_ret
      exact ⟨rfl, rfl⟩
  · have hz : orgP v = false := by rw [← Bool.not_eq_true]; exact fun e => h1 (orgP_iff.1 e).1
    rw [hz]
    clear hz
    go_enter Tryz.func38, Tryz.ntmps38
    go_wp2
    go_ret
    exact ⟨rfl, rfl⟩
set_option maxHeartbeats 1000000 in
set_option maxRecDepth 100000 in
theorem rmaytxn_any (c e q : Int) (w : World) : Calls Tryz.prog 37 #[.agg #[.int .i64 c, .int .i64 e, .int .i64 q]] w fun x w' => x = .returned (.bool (mayX c e q)) ∧ Below w.heap.size w w' := by
  have HO := Lib.hid (fun V => rorg_any c V)
  have hz : mayX c e q = (orgP c && decide (1 ≤ e) && decide (e ≤ 255) && decide (1 ≤ q) && decide (q ≤ 65535)) := rfl
  generalize mayX c e q = z at *
  generalize orgP c = oc at *
  have HZ := Lib.hid hz
  clear hz
  have B := Lib.hid ((Below.refl w.heap.size w).alloc (Nat.le_refl _) (.cells #[.int .i64 c, .int .i64 e, .int .i64 q] 23))
  cases oc with
  | false =>
    go_enter Tryz.func37, Tryz.ntmps37
    go_wp2_with (go_at_call 38; refine (HO.out _).mono ?_; rintro e w1 ⟨rfl, rfl⟩)
    go_ret
    exact ⟨by rw [HZ.out]; simp [], B.out⟩
  | true =>
    by_cases he1 : (1 : Int) ≤ e
    · by_cases he2 : e ≤ 255
      · by_cases hq1 : (1 : Int) ≤ q
        · by_cases hq2 : q ≤ 65535
          · go_enter Tryz.func37, Tryz.ntmps37
            go_wp2_with (go_at_call 38; refine (HO.out _).mono ?_; rintro e w1 ⟨rfl, rfl⟩)
            go_ret
            exact ⟨by rw [HZ.out]; simp [he1, he2, hq1, hq2], B.out⟩
          · go_enter Tryz.func37, Tryz.ntmps37
            go_wp2_with (go_at_call 38; refine (HO.out _).mono ?_; rintro e w1 ⟨rfl, rfl⟩)
            go_ret
            exact ⟨by rw [HZ.out]; simp [he1, he2, hq1] <;> omega, B.out⟩
        · go_enter Tryz.func37, Tryz.ntmps37
          go_wp2_with (go_at_call 38; refine (HO.out _).mono ?_; rintro e w1 ⟨rfl, rfl⟩)
          go_ret
          exact ⟨by rw [HZ.out]; simp [he1, he2] <;> omega, B.out⟩
      · go_enter Tryz.func37, Tryz.ntmps37
        go_wp2_with (go_at_call 38; refine (HO.out _).mono ?_; rintro e w1 ⟨rfl, rfl⟩)
        go_ret
        exact ⟨by rw [HZ.out]; simp [he1] <;> omega, B.out⟩
    · go_enter Tryz.func37, Tryz.ntmps37
      go_wp2_with (go_at_call 38; refine (HO.out _).mono ?_; rintro e w1 ⟨rfl, rfl⟩)
      go_ret
      exact ⟨by rw [HZ.out]; simp <;> omega, B.out⟩
set_option maxHeartbeats 1000000 in
set_option maxRecDepth 100000 in
theorem rnum12_any (v : Int) (h0 : -9223372036854775808 ≤ v) (h1 : v ≤ 9223372036854775807) (w : World) : Calls Tryz.prog 76 #[.int .i64 v] w fun x w' => x = .returned (.string (numT v)) ∧ Below w.heap.size w w' := by
  have HN := rnum6_any v h0 h1 w
  rw [show st2 (numP v) = .tuple #[.string (numT v), .int .i64 (numP v).2] from rfl] at HN
  have HN := Lib.hid HN
  generalize numT v = nt at *
  generalize (numP v).2 = ne at *
  go_enter Tryz.func76, Tryz.ntmps76
  go_wp2_with (first | (go_at_call 79; refine HN.out.mono ?_; rintro e w1 ⟨rfl, b1⟩) | fail)
  go_ret
  exact ⟨rfl, b1⟩
end Go.Proofs.YtbdlegjklfkdmaaGreatDoor.Pl

namespace Go.Proofs.YtbdlegjklfkdmaaGreatDoor.Pl
open Go.RowKit

set_option maxHeartbeats 8000000 in
set_option maxRecDepth 100000 in
theorem rtxn12_any (c e q : Int) (w : World) : Calls Tryz.prog 30 #[.agg #[.int .i64 c, .int .i64 e, .int .i64 q]] w fun x w' => x = .returned (st2 (txP c e q)) ∧ Below w.heap.size w w' := by
  have HM := fun V => rmaytxn_any c e q V
  obtain ⟨W0, hW0⟩ : ∃ V, V = w.alloc (.cells #[.int .i64 c, .int .i64 e, .int .i64 q] 23) := ⟨_, rfl⟩
  have X0 := Lib.hid (show XAt W0 w.heap.size c e q from hW0 ▸ xat_new w c e q)
  have B0 := Lib.hid (show Below w.heap.size w W0 from hW0 ▸ (Below.refl _ _).alloc (Nat.le_refl _) _)
  have HW0 := Lib.hid hW0
  clear hW0
  unfold txP
  cases hm : mayX c e q with
  | false =>
    rw [hm] at HM
    rw [if_neg (by simp)]
    have HM := Lib.hid HM
    go_enter Tryz.func30, Tryz.ntmps30
    go_wp2_with (first | (go_at_call 37; rw [← HW0.out]; refine (HM.out _).mono ?_; rintro e1 V ⟨rfl, b1⟩) | fail)
    go_ret2
    exact ⟨rfl, below_step B0.out b1⟩
  | true =>
    obtain ⟨h1, h2, h3⟩ := mayX_iff.1 hm
    have N1 := Lib.hid (fun V => rnum12_any c (by omega) (by omega) V)
    have N2 := Lib.hid (fun V => rnum12_any e (by omega) (by omega) V)
    have N3 := Lib.hid (fun V => rnum12_any q (by omega) (by omega) V)
    have HR : ∀ bo V, TxtRow V bo [numT c, numT e, numT q] → Calls Tryz.prog 32 #[.slice bo 3 3] V fun x w' => x = .returned (.tuple #[.string (tb (txnT c e q)), .int .i64 0]) ∧ Below V.heap.size V w' := fun bo V hV => by
      have h := rrow6_any [numT c, numT e, numT q] bo 3 (by simp) (fun x hx => by
        simp only [List.mem_cons, List.not_mem_nil, or_false] at hx
        rcases hx with rfl | rfl | rfl
        · have := numT_size h1.1 (by omega); omega
        · have := numT_size (v := e) (by omega) (by omega); omega
        · have := numT_size (v := q) (by omega) (by omega); omega) V hV
      rw [show [numT c, numT e, numT q].map bl = txnL c e q from rfl, (txn_ok hm).1] at h
      exact h
    have HR := Lib.hid HR
    rw [hm] at HM
    rw [if_pos rfl, show st2 (txnT c e q, 0) = .tuple #[.string (tb (txnT c e q)), .int .i64 0] from rfl]
    have HM := Lib.hid HM
    have HCE : Hid (∀ V, XAt V w.heap.size c e q → V.cell? ⟨w.heap.size, 0, none⟩ = some (.int .i64 c) ∧ V.cell? ⟨w.heap.size, 1, none⟩ = some (.int .i64 e) ∧ V.cell? ⟨w.heap.size, 2, none⟩ = some (.int .i64 q)) := Lib.hid (fun V h => ⟨h.cells.1, h.cells.2.1, h.cells.2.2.1⟩)
    clear hm h1 h2 h3
    generalize tb (txnT c e q) = res at *
    generalize numT c = t1 at *
    generalize numT e = t2 at *
    generalize numT q = t3 at *
    go_enter Tryz.func30, Tryz.ntmps30
    go_wp2_with (first | (go_at_call 37; rw [← HW0.out]; refine (HM.out _).mono ?_; rintro e1 V ⟨rfl, b1⟩) | fail)
    have XX := Lib.hid ((X0.out.below b1).below (drew12 V))
    have BB := Lib.hid (below_step (below_step B0.out b1) (drew12 V))
    have KS := HCE.out _ XX.out
    clear b1
    refine wp_region_held_drew (S := fun W => W.cell? ⟨w.heap.size, 0, none⟩ = some (.int .i64 c) ∧ W.cell? ⟨w.heap.size, 1, none⟩ = some (.int .i64 e) ∧ W.cell? ⟨w.heap.size, 2, none⟩ = some (.int .i64 q)) (by kernel_rfl) (by first | assumption | exact KS) (fun hHeld => ?_)
    generalize V.drew = wz at *
    refine wpAnyH_take (i := 0) (oi := { dst := some 7, op := Op.fieldAddr 23 (Operand.tmp 1) 0, type := 0, pos := "ref.go:41", after := #[], guard := none }) (v := ?_) rfl (by kernel_rfl) (by kernel_rfl) (by kernel_rfl) (fun _ _ _ h => h) (Or.inl ⟨by rfl, ?_⟩) (by assumption) ?_
    rotate_left 1
    · (intro w hSw; (try dsimp only at hSw); go_simp; try with_reducible rfl)
    (try simp only [Act.put, List.setIfInBounds_toArray, List.set_cons_zero, List.set_cons_succ])
    refine wpAnyH_take (i := 1) (oi := { dst := some 8, op := Op.load 3 (Operand.tmp 7), type := 3, pos := "ref.go:41", after := #[{ on := 0, ground := Ground.data }], guard := none }) (v := ?_) rfl (by kernel_rfl) (by kernel_rfl) (by kernel_rfl) (fun _ _ _ h => h) (Or.inl ⟨by rfl, ?_⟩) (by assumption) ?_
    rotate_left 1
    · (intro w hSw; (try dsimp only at hSw); go_simp; try with_reducible rfl)
    (try simp only [Act.put, List.setIfInBounds_toArray, List.set_cons_zero, List.set_cons_succ])
    refine wpAnyH_take (i := 3) (oi := { dst := some 10, op := Op.fieldAddr 23 (Operand.tmp 1) 1, type := 0, pos := "ref.go:41", after := #[], guard := none }) (v := ?_) rfl (by kernel_rfl) (by kernel_rfl) (by kernel_rfl) (fun _ _ _ h => h) (Or.inl ⟨by rfl, ?_⟩) (by assumption) ?_
    rotate_left 1
    · (intro w hSw; (try dsimp only at hSw); go_simp; try with_reducible rfl)
    (try simp only [Act.put, List.setIfInBounds_toArray, List.set_cons_zero, List.set_cons_succ])
    refine wpAnyH_take (i := 4) (oi := { dst := some 11, op := Op.load 3 (Operand.tmp 10), type := 3, pos := "ref.go:41", after := #[{ on := 3, ground := Ground.data }], guard := none }) (v := ?_) rfl (by kernel_rfl) (by kernel_rfl) (by kernel_rfl) (fun _ _ _ h => h) (Or.inl ⟨by rfl, ?_⟩) (by assumption) ?_
    rotate_left 1
    · (intro w hSw; (try dsimp only at hSw); go_simp; try with_reducible rfl)
    (try simp only [Act.put, List.setIfInBounds_toArray, List.set_cons_zero, List.set_cons_succ])
    refine wpAnyH_take (i := 6) (oi := { dst := some 13, op := Op.fieldAddr 23 (Operand.tmp 1) 2, type := 0, pos := "ref.go:41", after := #[], guard := none }) (v := ?_) rfl (by kernel_rfl) (by kernel_rfl) (by kernel_rfl) (fun _ _ _ h => h) (Or.inl ⟨by rfl, ?_⟩) (by assumption) ?_
    rotate_left 1
    · (intro w hSw; (try dsimp only at hSw); go_simp; try with_reducible rfl)
    (try simp only [Act.put, List.setIfInBounds_toArray, List.set_cons_zero, List.set_cons_succ])
    refine wpAnyH_take (i := 7) (oi := { dst := some 14, op := Op.load 3 (Operand.tmp 13), type := 3, pos := "ref.go:41", after := #[{ on := 6, ground := Ground.data }], guard := none }) (v := ?_) rfl (by kernel_rfl) (by kernel_rfl) (by kernel_rfl) (fun _ _ _ h => h) (Or.inl ⟨by rfl, ?_⟩) (by assumption) ?_
    rotate_left 1
    · (intro w hSw; (try dsimp only at hSw); go_simp; try with_reducible rfl)
    (try simp only [Act.put, List.setIfInBounds_toArray, List.set_cons_zero, List.set_cons_succ])
    refine wpAnyH_ready (rs := [2]) (by kernel_rfl) (by simp) ?_
    refine AllReadyH.cons (o := { dst := some 9, op := Op.call { callee := Callee.value (Operand.func 76), args := #[Operand.tmp 8], argTypes := #[3] }, type := 9, pos := "ref.go:41", after := #[{ on := 1, ground := Ground.data }], guard := none }) rfl (fun K hK => ?_) AllReadyH.nil
    go_simp
    refine (N1.out _).mono ?_; rintro e w1 ⟨rfl, b⟩
    have XX := Lib.hid (XX.out.below b)
    have BB := Lib.hid (below_step BB.out b)
    clear b
    refine hK.out _ _ (HCE.out _ XX.out) (fun hHeld => ?_)
    clear hK K
    (try simp only [Act.put, List.setIfInBounds_toArray, List.set_cons_zero, List.set_cons_succ])
    refine wpAnyH_ready (rs := [5]) (by kernel_rfl) (by simp) ?_
    refine AllReadyH.cons (o := { dst := some 12, op := Op.call { callee := Callee.value (Operand.func 76), args := #[Operand.tmp 11], argTypes := #[3] }, type := 9, pos := "ref.go:41", after := #[{ on := 4, ground := Ground.data }, { on := 2, ground := Ground.chain }], guard := none }) rfl (fun K hK => ?_) AllReadyH.nil
    go_simp
    refine (N2.out _).mono ?_; rintro e w2 ⟨rfl, b⟩
    have XX := Lib.hid (XX.out.below b)
    have BB := Lib.hid (below_step BB.out b)
    clear b
    refine hK.out _ _ (HCE.out _ XX.out) (fun hHeld => ?_)
    clear hK K
    (try simp only [Act.put, List.setIfInBounds_toArray, List.set_cons_zero, List.set_cons_succ])
    refine wpAnyH_ready (rs := [8]) (by kernel_rfl) (by simp) ?_
    refine AllReadyH.cons (o := { dst := some 15, op := Op.call { callee := Callee.value (Operand.func 76), args := #[Operand.tmp 14], argTypes := #[3] }, type := 9, pos := "ref.go:41", after := #[{ on := 7, ground := Ground.data }, { on := 5, ground := Ground.chain }], guard := none }) rfl (fun K hK => ?_) AllReadyH.nil
    go_simp
    refine (N3.out _).mono ?_; rintro e w3 ⟨rfl, b⟩
    have XX := Lib.hid (XX.out.below b)
    have BB := Lib.hid (below_step BB.out b)
    clear b
    refine hK.out _ _ (HCE.out _ XX.out) (fun hHeld => ?_)
    clear hK K
    (try simp only [Act.put, List.setIfInBounds_toArray, List.set_cons_zero, List.set_cons_succ])
    refine wpAnyH_ready (rs := [9]) (by kernel_rfl) (by simp) ?_
    refine AllReadyH.cons (o := { dst := some 16, op := Op.buildSlice 53 3 #[(0, Operand.tmp 9), (1, Operand.tmp 12), (2, Operand.tmp 15)], type := 53, pos := "ref.go:41", after := #[{ on := 2, ground := Ground.data }, { on := 5, ground := Ground.data }, { on := 8, ground := Ground.data }], guard := none }) rfl (fun K hK => ?_) AllReadyH.nil
    go_simp
    obtain ⟨W4, hW4⟩ : ∃ V, V = w3.alloc (.cells #[.string t1, .string t2, .string t3] 9) := ⟨_, rfl⟩
    have ba : Below w3.heap.size w3 W4 := by rw [hW4]; exact (Below.refl _ _).alloc (Nat.le_refl _) _
    have T3 := Lib.hid (show TxtRow W4 (some ⟨w3.heap.size, 0, none⟩) [t1, t2, t3] from hW4 ▸ txt_three w3 t1 t2 t3)
    have XX := Lib.hid (XX.out.below ba)
    have BB := Lib.hid (below_step BB.out ba)
    rw [← hW4]
    clear ba hW4
    refine hK.out _ _ (HCE.out _ XX.out) (fun hHeld => ?_)
    clear hK K
    (try simp only [Act.put, List.setIfInBounds_toArray, List.set_cons_zero, List.set_cons_succ])
    refine wpAnyH_ready (rs := [10]) (by kernel_rfl) (by simp) ?_
    refine AllReadyH.cons (o := { dst := some 17, op := Op.call { callee := Callee.value (Operand.func 32), args := #[Operand.tmp 16], argTypes := #[53] }, type := 30, pos := "ref.go:41", after := #[{ on := 9, ground := Ground.data }, { on := 8, ground := Ground.chain }], guard := none }) rfl (fun K hK => ?_) AllReadyH.nil
    go_simp
    refine (HR.out _ _ T3.out).mono ?_; rintro e w5 ⟨rfl, b⟩
    have XX := Lib.hid (XX.out.below b)
    have BB := Lib.hid (below_step BB.out b)
    clear b
    refine hK.out _ _ (HCE.out _ XX.out) (fun hHeld => ?_)
    clear hK K
    (try simp only [Act.put, List.setIfInBounds_toArray, List.set_cons_zero, List.set_cons_succ])
    refine wpAnyH_take (i := 11) (oi := { dst := some 18, op := Op.extract (Operand.tmp 17) 0, type := 9, pos := "ref.go:41", after := #[{ on := 10, ground := Ground.data }], guard := none }) (v := ?_) rfl (by kernel_rfl) (by kernel_rfl) (by kernel_rfl) (fun _ _ _ h => h) (Or.inl ⟨by rfl, ?_⟩) (by assumption) ?_
    rotate_left 1
    · (intro w hSw; (try dsimp only at hSw); go_simp; try with_reducible rfl)
    (try simp only [Act.put, List.setIfInBounds_toArray, List.set_cons_zero, List.set_cons_succ])
    refine wpAnyH_take (i := 12) (oi := { dst := some 19, op := Op.extract (Operand.tmp 17) 1, type := 29, pos := "ref.go:41", after := #[{ on := 10, ground := Ground.data }], guard := none }) (v := ?_) rfl (by kernel_rfl) (by kernel_rfl) (by kernel_rfl) (fun _ _ _ h => h) (Or.inl ⟨by rfl, ?_⟩) (by assumption) ?_
    rotate_left 1
    · (intro w hSw; (try dsimp only at hSw); go_simp; try with_reducible rfl)
    (try simp only [Act.put, List.setIfInBounds_toArray, List.set_cons_zero, List.set_cons_succ])
    refine wpAnyH_take (i := 13) (oi := { dst := some 2, op := Op.assign (Operand.tmp 18), type := 9, pos := "ref.go:41", after := #[{ on := 11, ground := Ground.data }, { on := 10, ground := Ground.chain }, { on := 0, ground := Ground.phase }, { on := 1, ground := Ground.phase }, { on := 2, ground := Ground.phase }, { on := 3, ground := Ground.phase }, { on := 4, ground := Ground.phase }, { on := 5, ground := Ground.phase }, { on := 6, ground := Ground.phase }, { on := 7, ground := Ground.phase }, { on := 8, ground := Ground.phase }, { on := 9, ground := Ground.phase }, { on := 10, ground := Ground.phase }, { on := 11, ground := Ground.phase }, { on := 12, ground := Ground.phase }], guard := none }) (v := ?_) rfl (by kernel_rfl) (by kernel_rfl) (by kernel_rfl) (fun _ _ _ h => h) (Or.inl ⟨by rfl, ?_⟩) (by assumption) ?_
    rotate_left 1
    · (intro w hSw; (try dsimp only at hSw); go_simp; try with_reducible rfl)
    (try simp only [Act.put, List.setIfInBounds_toArray, List.set_cons_zero, List.set_cons_succ])
    refine wpAnyH_take (i := 14) (oi := { dst := some 3, op := Op.assign (Operand.tmp 19), type := 29, pos := "ref.go:41", after := #[{ on := 12, ground := Ground.data }, { on := 13, ground := Ground.chain }, { on := 0, ground := Ground.phase }, { on := 1, ground := Ground.phase }, { on := 2, ground := Ground.phase }, { on := 3, ground := Ground.phase }, { on := 4, ground := Ground.phase }, { on := 5, ground := Ground.phase }, { on := 6, ground := Ground.phase }, { on := 7, ground := Ground.phase }, { on := 8, ground := Ground.phase }, { on := 9, ground := Ground.phase }, { on := 10, ground := Ground.phase }, { on := 11, ground := Ground.phase }, { on := 12, ground := Ground.phase }, { on := 13, ground := Ground.phase }], guard := none }) (v := ?_) rfl (by kernel_rfl) (by kernel_rfl) (by kernel_rfl) (fun _ _ _ h => h) (Or.inl ⟨by rfl, ?_⟩) (by assumption) ?_
    rotate_left 1
    · (intro w hSw; (try dsimp only at hSw); go_simp; try with_reducible rfl)
    (try simp only [Act.put, List.setIfInBounds_toArray, List.set_cons_zero, List.set_cons_succ])
    refine wpAnyH_done (by kernel_rfl) ?_ _
    go_wp2_with fail
    go_ret2
    exact ⟨rfl, BB.out⟩
end Go.Proofs.YtbdlegjklfkdmaaGreatDoor.Pl
