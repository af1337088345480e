/- The document's Members of layer 12. -/
import Derived.Test.YtbdlegjklfkdmaaGreatDoorBallC36
import Derived.Test.YtbdlegjklfkdmaaGreatDoorBallC35
namespace Go.Proofs.YtbdlegjklfkdmaaGreatDoor.Pl
open Go.RowKit

set_option maxHeartbeats 8000000 in
set_option maxRecDepth 100000 in
theorem rmembers12_any (c e q : Int) (l : List Mb) (ao : Option Addr) (cap : Nat) (hsz : ∀ x ∈ l, x.2.size ≤ 30000) (hlen : l.length ≤ 9223372036854775807) (w : World) (hrow : MemRow w ao l) :
    Calls Tryz.prog 31 #[.agg #[.int .i64 c, .int .i64 e, .int .i64 q], .slice ao l.length cap] w fun x w' => x = .returned (st2 (mtP c l)) ∧ Below w.heap.size w w' := by
  obtain ⟨W0, hW0⟩ : ∃ V, V = w.alloc (.cells #[.int .i64 c, .int .i64 e, .int .i64 q] 23) := ⟨_, rfl⟩
  have B0 := Lib.hid (show Below w.heap.size w W0 from hW0 ▸ (Below.refl _ _).alloc (Nat.le_refl _) _)
  have HM := fun V (hV : Below w.heap.size w V) => rmaymems_any c e q l ao cap (fun x hx => by have := hsz x hx; omega) hlen V (hrow.below hV)
  have HW0 := Lib.hid hW0
  clear hW0
  unfold mtP
  cases hm : mayL c l with
  | false =>
    rw [hm] at HM
    rw [if_neg (by simp), show st2 (([] : List UInt8), 2) = .tuple #[.string ⟨#[]⟩, .int .i64 2] from rfl]
    have HM := Lib.hid HM
    clear hm hsz hrow
    generalize l.length = n at *
    go_enter Tryz.func31, Tryz.ntmps31
    go_wp2_with (first | (go_at_call 39; rw [← HW0.out]; refine (HM.out _ B0.out).mono ?_; rintro e1 V1 ⟨rfl, b1⟩) | fail)
    go_ret2
    exact ⟨rfl, below_step B0.out b1⟩
  | true =>
    rw [hm] at HM
    rw [if_pos rfl]
    obtain ⟨RES, hRES⟩ : ∃ RES, RES = st2 (if (membersT l).2 = 0 then ((membersT l).1, 0) else ([], 5)) := ⟨_, rfl⟩
    rw [← hRES]
    have HRES := Lib.hid hRES
    clear hRES
    have HM := Lib.hid HM
    obtain ⟨hl1, hl6, hms⟩ := mayL_iff.1 hm
    have HALL := Lib.hid (mayMs_all hms)
    have HSZM := Lib.hid hsz
    have HROW := Lib.hid (fun V (hV : Below w.heap.size w V) => hrow.below hV)
    obtain ⟨n, hn⟩ : ∃ n, n = l.length := ⟨_, rfl⟩
    have hn6 : n ≤ 6 := by omega
    have HN6 := Lib.hid hn
    rw [← hn] at HM
    rw [← hn]
    clear hl1 hl6 hms hm hsz hrow hn hlen
    go_enter Tryz.func31, Tryz.ntmps31
    go_wp2_with (first | (go_at_call 39; rw [← HW0.out]; refine (HM.out _ B0.out).mono ?_; rintro e1 V1 ⟨rfl, b1⟩) | fail)
    obtain ⟨B, hBB⟩ : ∃ B, B = V1.heap.size := ⟨_, rfl⟩
    have HBZ : Hid (B = V1.heap.size) := Lib.hid hBB
    have B1 := Lib.hid (below_step B0.out b1)
    clear b1 hBB
    go_loopw [7, 6] (fun iv pv wr => ∃ j : Nat, iv = .int .i64 j ∧ j ≤ n ∧ Hid (OwnT wr B pv ((l.take j).map memT2)) ∧ Hid (∀ m ∈ l.take j, (memT m).2 = 0) ∧ Hid (Below B V1 wr)) (fun iv _ _ => n - (intOf iv).toNat)
    case atStart => exact ⟨0, rfl, Nat.zero_le _, Lib.hid (ownT_nil _ _), Lib.hid (fun m hm => by cases hm), Lib.hid (Below.refl _ _)⟩
    case round =>
      obtain ⟨j, rfl, hjn, hown, hok, hb⟩ := hrel
      have HBW : Hid (B ≤ wr.heap.size) := Lib.hid (by have := hb.out.size; have := HBZ.out; omega)
      have BW : Hid (Below w.heap.size w wr) := Lib.hid (by have h := hb.out; rw [HBZ.out] at h; exact below_step B1.out h)
      by_cases hj : j < n
      · have hj' : (j : Int) < (n : Int) := by omega
        have hjl : j < l.length := by rw [← HN6.out]; exact hj
        rcases HROW.out _ BW.out with e | ⟨b, off, rfl, hlt, hcs⟩
        · exfalso
          rw [e] at hjl
          exact absurd hjl (Nat.not_lt_zero _)
        obtain ⟨y0, y1⟩ := hcs j hjl
        have hml := List.getElem_mem hjl
        obtain ⟨ho1, ho2, _⟩ := HALL.out _ hml
        have hod := HSZM.out _ hml
        have hio := orgP_iff.1 ho1
        have HN := Lib.hid (fun V => rnum12_any l[j].1 (by omega) (by omega) V)
        have herr := memT_err ho1 ho2
        have HRW : ∀ (bo : Option Addr) (V : World), TxtRow V bo [numT l[j].1, l[j].2] → Calls Tryz.prog 32 #[.slice bo 2 2] V fun e w' => e = .returned (st2 (memT l[j])) ∧ Below V.heap.size V w' := fun bo V hR => rrow6_any [numT l[j].1, l[j].2] bo 2 (by simp) (fun x hx => by
          simp only [List.mem_cons, List.not_mem_nil, or_false] at hx
          rcases hx with rfl | rfl
          · have := numT_size hio.1 (show l[j].1 ≤ 2147483647 by omega); omega
          · omega) V hR
        have HTK : Hid ((l.take (j + 1)).map memT2 = (l.take j).map memT2 ++ [memT2 l[j]]) := Lib.hid (by rw [List.take_succ_eq_append_getElem hjl, List.map_append]; rfl)
        have HOK : Hid ((memT l[j]).2 = 0 → ∀ m ∈ l.take (j + 1), (memT m).2 = 0) := Lib.hid (fun h m hm => by
          rw [List.take_succ_eq_append_getElem hjl] at hm
          rcases List.mem_append.1 hm with hm | hm
          · exact hok.out m hm
          · rw [List.mem_singleton.1 hm]; exact h)
        have HNOT : Hid ((memT l[j]).2 ≠ 0 → membersT l = ([], 5)) := Lib.hid (fun h => membersT_no hml h)
        have HMT2 : Hid (memT2 l[j] = tb (memT l[j]).1) := Lib.hid rfl
        have HLN : Hid (((l.take j).map memT2).length ≤ 100) := Lib.hid (by rw [List.length_map, List.length_take]; omega)
        generalize numT l[j].1 = nt at *
        generalize memT2 l[j] = mt at *
        generalize memT l[j] = mr at *
        generalize l[j] = m at *
        obtain ⟨og, dg⟩ := m
        dsimp only at *
        generalize (l.take j).map memT2 = L at *
        have HCE : Hid (∀ V, Below wr.heap.size wr V → V.cell? ⟨b, off + j * 2, none⟩ = some (.int .i64 og) ∧ V.cell? ⟨b, off + j * 2 + 1, none⟩ = some (.string dg)) := Lib.hid (fun V hV => ⟨(hV.cell (p := ⟨b, off + j * 2, none⟩) hlt).trans y0, (hV.cell (p := ⟨b, off + j * 2 + 1, none⟩) hlt).trans y1⟩)
        have BB := Lib.hid (drew12 wr)
        have KS := HCE.out _ BB.out
        have HOWN : Hid (∀ V, Below wr.heap.size wr V → OwnT V B u6 L) := Lib.hid (fun V hV => ownT_below hown.out hV)
        have HSZ : Hid (∀ V, Below wr.heap.size wr V → B ≤ V.heap.size) := Lib.hid (fun V hV => by have := HBW.out; have := hV.size; omega)
        have HBX := hb
        have YY : Hid (wr.cell? ⟨b, off + j * 2, none⟩ = some (.int .i64 og) ∧ wr.cell? ⟨b, off + j * 2 + 1, none⟩ = some (.string dg)) := Lib.hid ⟨y0, y1⟩
        clear hcs hlt hml ho1 ho2 hod hio hjl hown hb y0 y1
        rcases herr with h0 | h5
        · have e1 : st2 mr = .tuple #[.string mt, .int .i64 0] := by rw [HMT2.out, show mr = (mr.1, 0) from Prod.ext rfl h0]; rfl
          rw [e1] at HRW
          have HRW := Lib.hid HRW
          have HOK2 := Lib.hid (HOK.out h0)
          clear h0 e1 HOK HNOT HMT2
          go_wp2_with fail
          refine wp_region_held_drew (S := fun W => W.cell? ⟨b, off + j * 2, none⟩ = some (.int .i64 og) ∧ W.cell? ⟨b, off + j * 2 + 1, none⟩ = some (.string dg)) (by kernel_rfl) (by first | assumption | exact KS) (fun hHeld => ?_)
          generalize wr.drew = wz at *
          refine wpAnyH_take (i := 0) (oi := { dst := some 21, op := Op.move (Operand.tmp 1), type := 24, pos := "ref.go:67", after := #[], guard := none }) (v := ?_) rfl (by kernel_rfl) (by kernel_rfl) (by kernel_rfl) (fun _ _ _ h => h) (Or.inl ⟨by rfl, ?_⟩) (by assumption) ?_
          rotate_left 1
          · (intro w hSw; (try dsimp only at hSw); go_simp; try with_reducible rfl)
          (try simp only [Act.put, List.setIfInBounds_toArray, List.set_cons_zero, List.set_cons_succ])
          refine wpAnyH_take (i := 1) (oi := { dst := some 22, op := Op.move (Operand.tmp 7), type := 3, pos := "ref.go:67", after := #[], guard := none }) (v := ?_) rfl (by kernel_rfl) (by kernel_rfl) (by kernel_rfl) (fun _ _ _ h => h) (Or.inl ⟨by rfl, ?_⟩) (by assumption) ?_
          rotate_left 1
          · (intro w hSw; (try dsimp only at hSw); go_simp; try with_reducible rfl)
          (try simp only [Act.put, List.setIfInBounds_toArray, List.set_cons_zero, List.set_cons_succ])
          refine wpAnyH_take (i := 2) (oi := { dst := some 23, op := Op.indexAddr 24 (Operand.tmp 21) (Operand.tmp 22), type := 0, pos := "ref.go:67", after := #[{ on := 0, ground := Ground.data }, { on := 1, ground := Ground.data }], guard := none }) (v := ?_) rfl (by kernel_rfl) (by kernel_rfl) (by kernel_rfl) (fun _ _ _ h => h) (Or.inl ⟨by rfl, ?_⟩) (by assumption) ?_
          rotate_left 1
          · (intro w hSw; (try dsimp only at hSw); go_simp; try with_reducible rfl)
          (try simp only [Act.put, List.setIfInBounds_toArray, List.set_cons_zero, List.set_cons_succ])
          refine wpAnyH_take (i := 3) (oi := { dst := some 24, op := Op.fieldAddr 51 (Operand.tmp 23) 0, type := 0, pos := "ref.go:67", after := #[{ on := 2, ground := Ground.data }], guard := none }) (v := ?_) rfl (by kernel_rfl) (by kernel_rfl) (by kernel_rfl) (fun _ _ _ h => h) (Or.inl ⟨by rfl, ?_⟩) (by assumption) ?_
          rotate_left 1
          · (intro w hSw; (try dsimp only at hSw); go_simp; try with_reducible rfl)
          (try simp only [Act.put, List.setIfInBounds_toArray, List.set_cons_zero, List.set_cons_succ])
          refine wpAnyH_take (i := 4) (oi := { dst := some 25, op := Op.load 3 (Operand.tmp 24), type := 3, pos := "ref.go:67", after := #[{ on := 3, ground := Ground.data }], guard := none }) (v := ?_) rfl (by kernel_rfl) (by kernel_rfl) (by kernel_rfl) (fun _ _ _ h => h) (Or.inl ⟨by rfl, ?_⟩) (by assumption) ?_
          rotate_left 1
          · (intro w hSw; (try dsimp only at hSw); go_simp; try with_reducible rfl)
          (try simp only [Act.put, List.setIfInBounds_toArray, List.set_cons_zero, List.set_cons_succ])
          refine wpAnyH_take (i := 6) (oi := { dst := some 27, op := Op.move (Operand.tmp 1), type := 24, pos := "ref.go:67", after := #[], guard := none }) (v := ?_) rfl (by kernel_rfl) (by kernel_rfl) (by kernel_rfl) (fun _ _ _ h => h) (Or.inl ⟨by rfl, ?_⟩) (by assumption) ?_
          rotate_left 1
          · (intro w hSw; (try dsimp only at hSw); go_simp; try with_reducible rfl)
          (try simp only [Act.put, List.setIfInBounds_toArray, List.set_cons_zero, List.set_cons_succ])
          refine wpAnyH_take (i := 7) (oi := { dst := some 28, op := Op.move (Operand.tmp 7), type := 3, pos := "ref.go:67", after := #[], guard := none }) (v := ?_) rfl (by kernel_rfl) (by kernel_rfl) (by kernel_rfl) (fun _ _ _ h => h) (Or.inl ⟨by rfl, ?_⟩) (by assumption) ?_
          rotate_left 1
          · (intro w hSw; (try dsimp only at hSw); go_simp; try with_reducible rfl)
          (try simp only [Act.put, List.setIfInBounds_toArray, List.set_cons_zero, List.set_cons_succ])
          refine wpAnyH_take (i := 8) (oi := { dst := some 29, op := Op.indexAddr 24 (Operand.tmp 27) (Operand.tmp 28), type := 0, pos := "ref.go:67", after := #[{ on := 6, ground := Ground.data }, { on := 7, ground := Ground.data }], guard := none }) (v := ?_) rfl (by kernel_rfl) (by kernel_rfl) (by kernel_rfl) (fun _ _ _ h => h) (Or.inl ⟨by rfl, ?_⟩) (by assumption) ?_
          rotate_left 1
          · (intro w hSw; (try dsimp only at hSw); go_simp; try with_reducible rfl)
          (try simp only [Act.put, List.setIfInBounds_toArray, List.set_cons_zero, List.set_cons_succ])
          refine wpAnyH_take (i := 9) (oi := { dst := some 30, op := Op.fieldAddr 51 (Operand.tmp 29) 1, type := 0, pos := "ref.go:67", after := #[{ on := 8, ground := Ground.data }], guard := none }) (v := ?_) rfl (by kernel_rfl) (by kernel_rfl) (by kernel_rfl) (fun _ _ _ h => h) (Or.inl ⟨by rfl, ?_⟩) (by assumption) ?_
          rotate_left 1
          · (intro w hSw; (try dsimp only at hSw); go_simp; try with_reducible rfl)
          (try simp only [Act.put, List.setIfInBounds_toArray, List.set_cons_zero, List.set_cons_succ])
          refine wpAnyH_take (i := 10) (oi := { dst := some 31, op := Op.load 9 (Operand.tmp 30), type := 9, pos := "ref.go:67", after := #[{ on := 9, ground := Ground.data }], guard := none }) (v := ?_) rfl (by kernel_rfl) (by kernel_rfl) (by kernel_rfl) (fun _ _ _ h => h) (Or.inl ⟨by rfl, ?_⟩) (by assumption) ?_
          rotate_left 1
          · (intro w hSw; (try dsimp only at hSw); go_simp; try with_reducible rfl)
          (try simp only [Act.put, List.setIfInBounds_toArray, List.set_cons_zero, List.set_cons_succ])
          refine wpAnyH_ready (rs := [5]) (by kernel_rfl) (by simp) ?_
          refine AllReadyH.cons (o := { dst := some 26, op := Op.call { callee := Callee.value (Operand.func 76), args := #[Operand.tmp 25], argTypes := #[3] }, type := 9, pos := "ref.go:67", after := #[{ on := 4, ground := Ground.data }], guard := none }) rfl (fun K hK => ?_) AllReadyH.nil
          go_simp
          refine (HN.out _).mono ?_; rintro e w1 ⟨rfl, b1⟩
          have BB := Lib.hid (below_step BB.out b1)
          clear b1
          refine hK.out _ _ (HCE.out _ BB.out) (fun hHeld => ?_)
          clear hK K
          (try simp only [Act.put, List.setIfInBounds_toArray, List.set_cons_zero, List.set_cons_succ])
          refine wpAnyH_ready (rs := [11]) (by kernel_rfl) (by simp) ?_
          refine AllReadyH.cons (o := { dst := some 32, op := Op.buildSlice 53 2 #[(0, Operand.tmp 26), (1, Operand.tmp 31)], type := 53, pos := "ref.go:67", after := #[{ on := 5, ground := Ground.data }, { on := 10, ground := Ground.data }], guard := none }) rfl (fun K hK => ?_) AllReadyH.nil
          go_simp
          obtain ⟨W4, hW4⟩ : ∃ V, V = w1.alloc (.cells #[.string nt, .string dg] 9) := ⟨_, rfl⟩
          have ba : Below w1.heap.size w1 W4 := by rw [hW4]; exact (Below.refl _ _).alloc (Nat.le_refl _) _
          have T2 := Lib.hid (show TxtRow W4 (some ⟨w1.heap.size, 0, none⟩) [nt, dg] from hW4 ▸ txt_two12 w1 nt dg)
          have BB := Lib.hid (below_step BB.out ba)
          rw [← hW4]
          clear ba hW4
          refine hK.out _ _ (HCE.out _ BB.out) (fun hHeld => ?_)
          clear hK K
          (try simp only [Act.put, List.setIfInBounds_toArray, List.set_cons_zero, List.set_cons_succ])
          refine wpAnyH_ready (rs := [12]) (by kernel_rfl) (by simp) ?_
          refine AllReadyH.cons (o := { dst := some 33, op := Op.call { callee := Callee.value (Operand.func 32), args := #[Operand.tmp 32], argTypes := #[53] }, type := 30, pos := "ref.go:67", after := #[{ on := 11, ground := Ground.data }, { on := 5, ground := Ground.chain }], guard := none }) rfl (fun K hK => ?_) AllReadyH.nil
          go_simp
          refine (HRW.out _ _ T2.out).mono ?_; rintro e w5 ⟨rfl, b5⟩
          have BB := Lib.hid (below_step BB.out b5)
          clear b5
          refine hK.out _ _ (HCE.out _ BB.out) (fun hHeld => ?_)
          clear hK K
          (try simp only [Act.put, List.setIfInBounds_toArray, List.set_cons_zero, List.set_cons_succ])
          refine wpAnyH_take (i := 13) (oi := { dst := some 20, op := Op.move (Operand.tmp 33), type := 30, pos := "ref.go:67", after := #[{ on := 12, ground := Ground.data }], guard := none }) (v := ?_) rfl (by kernel_rfl) (by kernel_rfl) (by kernel_rfl) (fun _ _ _ h => h) (Or.inl ⟨by rfl, ?_⟩) (by assumption) ?_
          rotate_left 1
          · (intro w hSw; (try dsimp only at hSw); go_simp; try with_reducible rfl)
          (try simp only [Act.put, List.setIfInBounds_toArray, List.set_cons_zero, List.set_cons_succ])
          refine wpAnyH_take (i := 14) (oi := { dst := some 34, op := Op.extract (Operand.tmp 20) 0, type := 9, pos := "ref.go:67", after := #[{ on := 13, ground := Ground.data }], guard := none }) (v := ?_) rfl (by kernel_rfl) (by kernel_rfl) (by kernel_rfl) (fun _ _ _ h => h) (Or.inl ⟨by rfl, ?_⟩) (by assumption) ?_
          rotate_left 1
          · (intro w hSw; (try dsimp only at hSw); go_simp; try with_reducible rfl)
          (try simp only [Act.put, List.setIfInBounds_toArray, List.set_cons_zero, List.set_cons_succ])
          refine wpAnyH_take (i := 15) (oi := { dst := some 35, op := Op.extract (Operand.tmp 20) 1, type := 29, pos := "ref.go:67", after := #[{ on := 13, ground := Ground.data }, { on := 16, ground := Ground.gcOnly Departure.lateStores }], guard := none }) (v := ?_) rfl (by kernel_rfl) (by kernel_rfl) (by kernel_rfl) (fun _ _ _ h => h) (Or.inl ⟨by rfl, ?_⟩) (by assumption) ?_
          rotate_left 1
          · (intro w hSw; (try dsimp only at hSw); go_simp; try with_reducible rfl)
          (try simp only [Act.put, List.setIfInBounds_toArray, List.set_cons_zero, List.set_cons_succ])
          refine wpAnyH_take (i := 16) (oi := { dst := some 8, op := Op.assign (Operand.tmp 34), type := 9, pos := "ref.go:67", after := #[{ on := 14, ground := Ground.data }, { on := 12, ground := Ground.chain }, { on := 0, ground := Ground.phase }, { on := 1, ground := Ground.phase }, { on := 2, ground := Ground.phase }, { on := 3, ground := Ground.phase }, { on := 4, ground := Ground.phase }, { on := 5, ground := Ground.phase }, { on := 6, ground := Ground.phase }, { on := 7, ground := Ground.phase }, { on := 8, ground := Ground.phase }, { on := 9, ground := Ground.phase }, { on := 10, ground := Ground.phase }, { on := 11, ground := Ground.phase }, { on := 12, ground := Ground.phase }, { on := 13, ground := Ground.phase }, { on := 14, ground := Ground.phase }, { on := 15, ground := Ground.textOnly Departure.lateStores }], guard := none }) (v := ?_) rfl (by kernel_rfl) (by kernel_rfl) (by kernel_rfl) (fun _ _ _ h => h) (Or.inl ⟨by rfl, ?_⟩) (by assumption) ?_
          rotate_left 1
          · (intro w hSw; (try dsimp only at hSw); go_simp; try with_reducible rfl)
          (try simp only [Act.put, List.setIfInBounds_toArray, List.set_cons_zero, List.set_cons_succ])
          refine wpAnyH_take (i := 17) (oi := { dst := some 9, op := Op.assign (Operand.tmp 35), type := 29, pos := "ref.go:67", after := #[{ on := 15, ground := Ground.data }, { on := 16, ground := Ground.chain }, { on := 0, ground := Ground.phase }, { on := 1, ground := Ground.phase }, { on := 2, ground := Ground.phase }, { on := 3, ground := Ground.phase }, { on := 4, ground := Ground.phase }, { on := 5, ground := Ground.phase }, { on := 6, ground := Ground.phase }, { on := 7, ground := Ground.phase }, { on := 8, ground := Ground.phase }, { on := 9, ground := Ground.phase }, { on := 10, ground := Ground.phase }, { on := 11, ground := Ground.phase }, { on := 12, ground := Ground.phase }, { on := 13, ground := Ground.phase }, { on := 14, ground := Ground.phase }, { on := 15, ground := Ground.phase }, { on := 16, ground := Ground.phase }], guard := none }) (v := ?_) rfl (by kernel_rfl) (by kernel_rfl) (by kernel_rfl) (fun _ _ _ h => h) (Or.inl ⟨by rfl, ?_⟩) (by assumption) ?_
          rotate_left 1
          · (intro w hSw; (try dsimp only at hSw); go_simp; try with_reducible rfl)
          (try simp only [Act.put, List.setIfInBounds_toArray, List.set_cons_zero, List.set_cons_succ])
          refine wpAnyH_done (by kernel_rfl) ?_ _
          clear hHeld
          have hO5 := HOWN.out _ BB.out
          have hs5 := HSZ.out _ BB.out
          go_wp2_with (first | (at_builtin; refine wpList_appT (B := B) (v := u6) (l := L) (m := [mt]) (ao := some ⟨w5.heap.size, 0, none⟩) (cap := 1) rfl (.tmp 38) (.tmp 40) rfl rfl rfl rfl (ownT_below hO5 ((Below.refl w5.heap.size w5).alloc (Nat.le_refl _) _)) (by rw [World.size_alloc]; omega) (txt_one w5 mt) (by intro e; cases e) (by have := HLN.out; simp only [List.length_cons, List.length_nil]; omega) ?_; intro v' w' ho' hg'; have O8 := Lib.hid ho'; have B8 := Lib.hid (app_grown12 (B := B) (w := wr) (BB.out.mono HBW.out) hs5 hO5 hg'); clear ho' hg') | fail)
          go_roundw
          case rel => exact ⟨j + 1, by go_num, by omega, Lib.hid (by rw [HTK.out]; exact O8.out), HOK2, Lib.hid (HBX.out.trans B8.out)⟩
          case measure => simp [intOf]; omega
        · rw [h5, show st2 (([] : List UInt8), 5) = .tuple #[.string ⟨#[]⟩, .int .i64 5] from rfl] at HRW
          have HRW := Lib.hid HRW
          have hno := HNOT.out (by rw [h5]; decide)
          have hR : RES = .tuple #[.string ⟨#[]⟩, .int .i64 5] := by rw [HRES.out, hno]; rfl
          clear hno HRES
          subst hR
          clear h5 HOK HNOT HMT2
          go_wp2_with fail
          refine wp_region_held_drew (S := fun W => W.cell? ⟨b, off + j * 2, none⟩ = some (.int .i64 og) ∧ W.cell? ⟨b, off + j * 2 + 1, none⟩ = some (.string dg)) (by kernel_rfl) (by first | assumption | exact KS) (fun hHeld => ?_)
          generalize wr.drew = wz at *
          refine wpAnyH_take (i := 0) (oi := { dst := some 21, op := Op.move (Operand.tmp 1), type := 24, pos := "ref.go:67", after := #[], guard := none }) (v := ?_) rfl (by kernel_rfl) (by kernel_rfl) (by kernel_rfl) (fun _ _ _ h => h) (Or.inl ⟨by rfl, ?_⟩) (by assumption) ?_
          rotate_left 1
          · (intro w hSw; (try dsimp only at hSw); go_simp; try with_reducible rfl)
          (try simp only [Act.put, List.setIfInBounds_toArray, List.set_cons_zero, List.set_cons_succ])
          refine wpAnyH_take (i := 1) (oi := { dst := some 22, op := Op.move (Operand.tmp 7), type := 3, pos := "ref.go:67", after := #[], guard := none }) (v := ?_) rfl (by kernel_rfl) (by kernel_rfl) (by kernel_rfl) (fun _ _ _ h => h) (Or.inl ⟨by rfl, ?_⟩) (by assumption) ?_
          rotate_left 1
          · (intro w hSw; (try dsimp only at hSw); go_simp; try with_reducible rfl)
          (try simp only [Act.put, List.setIfInBounds_toArray, List.set_cons_zero, List.set_cons_succ])
          refine wpAnyH_take (i := 2) (oi := { dst := some 23, op := Op.indexAddr 24 (Operand.tmp 21) (Operand.tmp 22), type := 0, pos := "ref.go:67", after := #[{ on := 0, ground := Ground.data }, { on := 1, ground := Ground.data }], guard := none }) (v := ?_) rfl (by kernel_rfl) (by kernel_rfl) (by kernel_rfl) (fun _ _ _ h => h) (Or.inl ⟨by rfl, ?_⟩) (by assumption) ?_
          rotate_left 1
          · (intro w hSw; (try dsimp only at hSw); go_simp; try with_reducible rfl)
          (try simp only [Act.put, List.setIfInBounds_toArray, List.set_cons_zero, List.set_cons_succ])
          refine wpAnyH_take (i := 3) (oi := { dst := some 24, op := Op.fieldAddr 51 (Operand.tmp 23) 0, type := 0, pos := "ref.go:67", after := #[{ on := 2, ground := Ground.data }], guard := none }) (v := ?_) rfl (by kernel_rfl) (by kernel_rfl) (by kernel_rfl) (fun _ _ _ h => h) (Or.inl ⟨by rfl, ?_⟩) (by assumption) ?_
          rotate_left 1
          · (intro w hSw; (try dsimp only at hSw); go_simp; try with_reducible rfl)
          (try simp only [Act.put, List.setIfInBounds_toArray, List.set_cons_zero, List.set_cons_succ])
          refine wpAnyH_take (i := 4) (oi := { dst := some 25, op := Op.load 3 (Operand.tmp 24), type := 3, pos := "ref.go:67", after := #[{ on := 3, ground := Ground.data }], guard := none }) (v := ?_) rfl (by kernel_rfl) (by kernel_rfl) (by kernel_rfl) (fun _ _ _ h => h) (Or.inl ⟨by rfl, ?_⟩) (by assumption) ?_
          rotate_left 1
          · (intro w hSw; (try dsimp only at hSw); go_simp; try with_reducible rfl)
          (try simp only [Act.put, List.setIfInBounds_toArray, List.set_cons_zero, List.set_cons_succ])
          refine wpAnyH_take (i := 6) (oi := { dst := some 27, op := Op.move (Operand.tmp 1), type := 24, pos := "ref.go:67", after := #[], guard := none }) (v := ?_) rfl (by kernel_rfl) (by kernel_rfl) (by kernel_rfl) (fun _ _ _ h => h) (Or.inl ⟨by rfl, ?_⟩) (by assumption) ?_
          rotate_left 1
          · (intro w hSw; (try dsimp only at hSw); go_simp; try with_reducible rfl)
          (try simp only [Act.put, List.setIfInBounds_toArray, List.set_cons_zero, List.set_cons_succ])
          refine wpAnyH_take (i := 7) (oi := { dst := some 28, op := Op.move (Operand.tmp 7), type := 3, pos := "ref.go:67", after := #[], guard := none }) (v := ?_) rfl (by kernel_rfl) (by kernel_rfl) (by kernel_rfl) (fun _ _ _ h => h) (Or.inl ⟨by rfl, ?_⟩) (by assumption) ?_
          rotate_left 1
          · (intro w hSw; (try dsimp only at hSw); go_simp; try with_reducible rfl)
          (try simp only [Act.put, List.setIfInBounds_toArray, List.set_cons_zero, List.set_cons_succ])
          refine wpAnyH_take (i := 8) (oi := { dst := some 29, op := Op.indexAddr 24 (Operand.tmp 27) (Operand.tmp 28), type := 0, pos := "ref.go:67", after := #[{ on := 6, ground := Ground.data }, { on := 7, ground := Ground.data }], guard := none }) (v := ?_) rfl (by kernel_rfl) (by kernel_rfl) (by kernel_rfl) (fun _ _ _ h => h) (Or.inl ⟨by rfl, ?_⟩) (by assumption) ?_
          rotate_left 1
          · (intro w hSw; (try dsimp only at hSw); go_simp; try with_reducible rfl)
          (try simp only [Act.put, List.setIfInBounds_toArray, List.set_cons_zero, List.set_cons_succ])
          refine wpAnyH_take (i := 9) (oi := { dst := some 30, op := Op.fieldAddr 51 (Operand.tmp 29) 1, type := 0, pos := "ref.go:67", after := #[{ on := 8, ground := Ground.data }], guard := none }) (v := ?_) rfl (by kernel_rfl) (by kernel_rfl) (by kernel_rfl) (fun _ _ _ h => h) (Or.inl ⟨by rfl, ?_⟩) (by assumption) ?_
          rotate_left 1
          · (intro w hSw; (try dsimp only at hSw); go_simp; try with_reducible rfl)
          (try simp only [Act.put, List.setIfInBounds_toArray, List.set_cons_zero, List.set_cons_succ])
          refine wpAnyH_take (i := 10) (oi := { dst := some 31, op := Op.load 9 (Operand.tmp 30), type := 9, pos := "ref.go:67", after := #[{ on := 9, ground := Ground.data }], guard := none }) (v := ?_) rfl (by kernel_rfl) (by kernel_rfl) (by kernel_rfl) (fun _ _ _ h => h) (Or.inl ⟨by rfl, ?_⟩) (by assumption) ?_
          rotate_left 1
          · (intro w hSw; (try dsimp only at hSw); go_simp; try with_reducible rfl)
          (try simp only [Act.put, List.setIfInBounds_toArray, List.set_cons_zero, List.set_cons_succ])
          refine wpAnyH_ready (rs := [5]) (by kernel_rfl) (by simp) ?_
          refine AllReadyH.cons (o := { dst := some 26, op := Op.call { callee := Callee.value (Operand.func 76), args := #[Operand.tmp 25], argTypes := #[3] }, type := 9, pos := "ref.go:67", after := #[{ on := 4, ground := Ground.data }], guard := none }) rfl (fun K hK => ?_) AllReadyH.nil
          go_simp
          refine (HN.out _).mono ?_; rintro e w1 ⟨rfl, b1⟩
          have BB := Lib.hid (below_step BB.out b1)
          clear b1
          refine hK.out _ _ (HCE.out _ BB.out) (fun hHeld => ?_)
          clear hK K
          (try simp only [Act.put, List.setIfInBounds_toArray, List.set_cons_zero, List.set_cons_succ])
          refine wpAnyH_ready (rs := [11]) (by kernel_rfl) (by simp) ?_
          refine AllReadyH.cons (o := { dst := some 32, op := Op.buildSlice 53 2 #[(0, Operand.tmp 26), (1, Operand.tmp 31)], type := 53, pos := "ref.go:67", after := #[{ on := 5, ground := Ground.data }, { on := 10, ground := Ground.data }], guard := none }) rfl (fun K hK => ?_) AllReadyH.nil
          go_simp
          obtain ⟨W4, hW4⟩ : ∃ V, V = w1.alloc (.cells #[.string nt, .string dg] 9) := ⟨_, rfl⟩
          have ba : Below w1.heap.size w1 W4 := by rw [hW4]; exact (Below.refl _ _).alloc (Nat.le_refl _) _
          have T2 := Lib.hid (show TxtRow W4 (some ⟨w1.heap.size, 0, none⟩) [nt, dg] from hW4 ▸ txt_two12 w1 nt dg)
          have BB := Lib.hid (below_step BB.out ba)
          rw [← hW4]
          clear ba hW4
          refine hK.out _ _ (HCE.out _ BB.out) (fun hHeld => ?_)
          clear hK K
          (try simp only [Act.put, List.setIfInBounds_toArray, List.set_cons_zero, List.set_cons_succ])
          refine wpAnyH_ready (rs := [12]) (by kernel_rfl) (by simp) ?_
          refine AllReadyH.cons (o := { dst := some 33, op := Op.call { callee := Callee.value (Operand.func 32), args := #[Operand.tmp 32], argTypes := #[53] }, type := 30, pos := "ref.go:67", after := #[{ on := 11, ground := Ground.data }, { on := 5, ground := Ground.chain }], guard := none }) rfl (fun K hK => ?_) AllReadyH.nil
          go_simp
          refine (HRW.out _ _ T2.out).mono ?_; rintro e w5 ⟨rfl, b5⟩
          have BB := Lib.hid (below_step BB.out b5)
          clear b5
          refine hK.out _ _ (HCE.out _ BB.out) (fun hHeld => ?_)
          clear hK K
          (try simp only [Act.put, List.setIfInBounds_toArray, List.set_cons_zero, List.set_cons_succ])
          refine wpAnyH_take (i := 13) (oi := { dst := some 20, op := Op.move (Operand.tmp 33), type := 30, pos := "ref.go:67", after := #[{ on := 12, ground := Ground.data }], guard := none }) (v := ?_) rfl (by kernel_rfl) (by kernel_rfl) (by kernel_rfl) (fun _ _ _ h => h) (Or.inl ⟨by rfl, ?_⟩) (by assumption) ?_
          rotate_left 1
          · (intro w hSw; (try dsimp only at hSw); go_simp; try with_reducible rfl)
          (try simp only [Act.put, List.setIfInBounds_toArray, List.set_cons_zero, List.set_cons_succ])
          refine wpAnyH_take (i := 14) (oi := { dst := some 34, op := Op.extract (Operand.tmp 20) 0, type := 9, pos := "ref.go:67", after := #[{ on := 13, ground := Ground.data }], guard := none }) (v := ?_) rfl (by kernel_rfl) (by kernel_rfl) (by kernel_rfl) (fun _ _ _ h => h) (Or.inl ⟨by rfl, ?_⟩) (by assumption) ?_
          rotate_left 1
          · (intro w hSw; (try dsimp only at hSw); go_simp; try with_reducible rfl)
          (try simp only [Act.put, List.setIfInBounds_toArray, List.set_cons_zero, List.set_cons_succ])
          refine wpAnyH_take (i := 15) (oi := { dst := some 35, op := Op.extract (Operand.tmp 20) 1, type := 29, pos := "ref.go:67", after := #[{ on := 13, ground := Ground.data }, { on := 16, ground := Ground.gcOnly Departure.lateStores }], guard := none }) (v := ?_) rfl (by kernel_rfl) (by kernel_rfl) (by kernel_rfl) (fun _ _ _ h => h) (Or.inl ⟨by rfl, ?_⟩) (by assumption) ?_
          rotate_left 1
          · (intro w hSw; (try dsimp only at hSw); go_simp; try with_reducible rfl)
          (try simp only [Act.put, List.setIfInBounds_toArray, List.set_cons_zero, List.set_cons_succ])
          refine wpAnyH_take (i := 16) (oi := { dst := some 8, op := Op.assign (Operand.tmp 34), type := 9, pos := "ref.go:67", after := #[{ on := 14, ground := Ground.data }, { on := 12, ground := Ground.chain }, { on := 0, ground := Ground.phase }, { on := 1, ground := Ground.phase }, { on := 2, ground := Ground.phase }, { on := 3, ground := Ground.phase }, { on := 4, ground := Ground.phase }, { on := 5, ground := Ground.phase }, { on := 6, ground := Ground.phase }, { on := 7, ground := Ground.phase }, { on := 8, ground := Ground.phase }, { on := 9, ground := Ground.phase }, { on := 10, ground := Ground.phase }, { on := 11, ground := Ground.phase }, { on := 12, ground := Ground.phase }, { on := 13, ground := Ground.phase }, { on := 14, ground := Ground.phase }, { on := 15, ground := Ground.textOnly Departure.lateStores }], guard := none }) (v := ?_) rfl (by kernel_rfl) (by kernel_rfl) (by kernel_rfl) (fun _ _ _ h => h) (Or.inl ⟨by rfl, ?_⟩) (by assumption) ?_
          rotate_left 1
          · (intro w hSw; (try dsimp only at hSw); go_simp; try with_reducible rfl)
          (try simp only [Act.put, List.setIfInBounds_toArray, List.set_cons_zero, List.set_cons_succ])
          refine wpAnyH_take (i := 17) (oi := { dst := some 9, op := Op.assign (Operand.tmp 35), type := 29, pos := "ref.go:67", after := #[{ on := 15, ground := Ground.data }, { on := 16, ground := Ground.chain }, { on := 0, ground := Ground.phase }, { on := 1, ground := Ground.phase }, { on := 2, ground := Ground.phase }, { on := 3, ground := Ground.phase }, { on := 4, ground := Ground.phase }, { on := 5, ground := Ground.phase }, { on := 6, ground := Ground.phase }, { on := 7, ground := Ground.phase }, { on := 8, ground := Ground.phase }, { on := 9, ground := Ground.phase }, { on := 10, ground := Ground.phase }, { on := 11, ground := Ground.phase }, { on := 12, ground := Ground.phase }, { on := 13, ground := Ground.phase }, { on := 14, ground := Ground.phase }, { on := 15, ground := Ground.phase }, { on := 16, ground := Ground.phase }], guard := none }) (v := ?_) rfl (by kernel_rfl) (by kernel_rfl) (by kernel_rfl) (fun _ _ _ h => h) (Or.inl ⟨by rfl, ?_⟩) (by assumption) ?_
          rotate_left 1
          · (intro w hSw; (try dsimp only at hSw); go_simp; try with_reducible rfl)
          (try simp only [Act.put, List.setIfInBounds_toArray, List.set_cons_zero, List.set_cons_succ])
          refine wpAnyH_done (by kernel_rfl) ?_ _
          go_wp2_with fail
          go_ret2
          exact ⟨rfl, below_step BW.out BB.out⟩
      · obtain rfl : j = n := by omega
        have hall2 : ∀ m ∈ l, (memT m).2 = 0 := by have := hok.out; rwa [HN6.out, List.take_length] at this
        have hm : membersT l = rowP (l.map fun m => (memT m).1) := by unfold membersT; rw [if_pos hall2]
        have hown2 := hown.out
        rw [HN6.out, List.take_length] at hown2
        obtain ⟨bo, bcap, rfl, hc, hr, _⟩ := own_shape12 hown2
        have HRW := fun V (hV : TxtRow V bo (l.map memT2)) => rrow6_any (l.map memT2) bo bcap (by rw [List.length_map]; have := HN6.out; omega) (fun x hx => by
          obtain ⟨y, hy, rfl⟩ := List.mem_map.1 hx
          have := memT_size y; omega) V hV
        have e1 : (l.map memT2).map bl = l.map fun m => (memT m).1 := by rw [List.map_map]; rfl
        rw [e1, ← hm] at HRW
        have herr : (membersT l).2 = 0 ∨ membersT l = ([], 5) := by
          rw [hm]
          refine row_err fun x hx => ?_
          obtain ⟨y, hy, rfl⟩ := List.mem_map.1 hx
          exact (row_read (by simp) (row_ok (hall2 y hy) : rowP [(numP y.1).1, bl y.2] = ((memT y).1, 0))).2.2
        rw [List.length_map] at HRW
        simp only [List.length_map]
        have HR2 := Lib.hid hr
        have hres : st2 (if (membersT l).2 = 0 then ((membersT l).1, 0) else ([], 5)) = st2 (membersT l) := by
          rcases herr with h | h
          · rw [if_pos h, show ((membersT l).1, 0) = membersT l from Prod.ext rfl h.symm]
          · rw [h]; rfl
        obtain ⟨rt, hrt⟩ : ∃ x, x = tb (membersT l).1 := ⟨_, rfl⟩
        obtain ⟨re, hre⟩ : ∃ x, x = (membersT l).2 := ⟨_, rfl⟩
        have hR : RES = .tuple #[.string rt, .int .i64 (re : Nat)] := by rw [HRES.out, hres, hrt, hre]; rfl
        rw [show st2 (membersT l) = .tuple #[.string (tb (membersT l).1), .int .i64 ((membersT l).2 : Nat)] from rfl, ← hrt, ← hre] at HRW
        clear HRES hrt hre
        subst hR
        have HRW := Lib.hid HRW
        clear hown hok hown2 hc hr hall2 hm e1 herr hres hb
        generalize l.length = n2 at *
        go_wp2_with (first | (go_at_call 32; refine (HRW.out _ HR2.out).mono ?_; rintro e7 V7 ⟨rfl, b7⟩) | fail)
        go_ret2
        exact ⟨rfl, below_step BW.out b7⟩
end Go.Proofs.YtbdlegjklfkdmaaGreatDoor.Pl
