/- The document's Members of layer 12. The document's ReadMembers of layer 12. -/
import Derived.Test.YthemopejebioaaaGreatWireY20
import Derived.Test.YthemopejebioaaaGreatWireY14
namespace Go.Proofs.YthemopejebioaaaGreat.Pl
open Go.RowKit

set_option maxHeartbeats 8000000 in
set_option maxRecDepth 100000 in
theorem rmembers12_any (c e q : Int) (l : List Mb) (ao : Option Addr) (cap : Nat) (hsz : ∀ x ∈ l, x.2.size ≤ 30000) (hlen : l.length ≤ 9223372036854775807) (w : World) (hrow : MemRow w ao l) :
    Calls Tryz.prog 22 #[.agg #[.int .i64 c, .int .i64 e, .int .i64 q], .slice ao l.length cap] w fun x w' => x = .returned (st2 (mtP c l)) ∧ Below w.heap.size w w' := by
  obtain ⟨W0, hW0⟩ : ∃ V, V = w.alloc (.cells #[.int .i64 c, .int .i64 e, .int .i64 q] 23) := ⟨_, rfl⟩
  have B0 := Lib.hid (show Below w.heap.size w W0 from hW0 ▸ (Below.refl _ _).alloc (Nat.le_refl _) _)
  have HM := fun V (hV : Below w.heap.size w V) => rmaymems_any c e q l ao cap (fun x hx => by have := hsz x hx; omega) hlen V (hrow.below hV)
  have HW0 := Lib.hid hW0
  clear hW0
  unfold mtP
  cases hm : mayL c l with
  | false =>
    rw [hm] at HM
    rw [if_neg (by simp), show st2 (([] : List UInt8), 2) = .tuple #[.string ⟨#[]⟩, .int .i64 2] from rfl]
    have HM := Lib.hid HM
    clear hm hsz hrow
    generalize l.length = n at *
    go_enter Tryz.func22, Tryz.ntmps22
    go_wp2_with (first | (go_at_call 26; rw [← HW0.out]; refine (HM.out _ B0.out).mono ?_; rintro e1 V1 ⟨rfl, b1⟩) | fail)
    go_ret2
    exact ⟨rfl, below_step B0.out b1⟩
  | true =>
    rw [hm] at HM
    rw [if_pos rfl]
    obtain ⟨RES, hRES⟩ : ∃ RES, RES = st2 (if (membersT l).2 = 0 then ((membersT l).1, 0) else ([], 5)) := ⟨_, rfl⟩
    rw [← hRES]
    have HRES := Lib.hid hRES
    clear hRES
    have HM := Lib.hid HM
    obtain ⟨hl1, hl6, hms⟩ := mayL_iff.1 hm
    have HALL := Lib.hid (mayMs_all hms)
    have HSZM := Lib.hid hsz
    have HROW := Lib.hid (fun V (hV : Below w.heap.size w V) => hrow.below hV)
    obtain ⟨n, hn⟩ : ∃ n, n = l.length := ⟨_, rfl⟩
    have hn6 : n ≤ 6 := by omega
    have HN6 := Lib.hid hn
    rw [← hn] at HM
    rw [← hn]
    clear hl1 hl6 hms hm hsz hrow hn hlen
    go_enter Tryz.func22, Tryz.ntmps22
    go_wp2_with (first | (go_at_call 26; rw [← HW0.out]; refine (HM.out _ B0.out).mono ?_; rintro e1 V1 ⟨rfl, b1⟩) | fail)
    obtain ⟨B, hBB⟩ : ∃ B, B = V1.heap.size := ⟨_, rfl⟩
    have HBZ : Hid (B = V1.heap.size) := Lib.hid hBB
    have B1 := Lib.hid (below_step B0.out b1)
    clear b1 hBB
    go_loopw [7, 6] (fun iv pv wr => ∃ j : Nat, iv = .int .i64 j ∧ j ≤ n ∧ Hid (OwnT wr B pv ((l.take j).map memT2)) ∧ Hid (∀ m ∈ l.take j, (memT m).2 = 0) ∧ Hid (Below B V1 wr)) (fun iv _ _ => n - (intOf iv).toNat)
    case atStart => exact ⟨0, rfl, Nat.zero_le _, Lib.hid (ownT_nil _ _), Lib.hid (fun m hm => by cases hm), Lib.hid (Below.refl _ _)⟩
    case round =>
      obtain ⟨j, rfl, hjn, hown, hok, hb⟩ := hrel
      have HBW : Hid (B ≤ wr.heap.size) := Lib.hid (by have := hb.out.size; have := HBZ.out; omega)
      have BW : Hid (Below w.heap.size w wr) := Lib.hid (by have h := hb.out; rw [HBZ.out] at h; exact below_step B1.out h)
      by_cases hj : j < n
      · have hj' : (j : Int) < (n : Int) := by omega
        have hjl : j < l.length := by rw [← HN6.out]; exact hj
        rcases HROW.out _ BW.out with e | ⟨b, off, rfl, hlt, hcs⟩
        · exfalso
          rw [e] at hjl
          exact absurd hjl (Nat.not_lt_zero _)
        obtain ⟨y0, y1⟩ := hcs j hjl
        have hml := List.getElem_mem hjl
        obtain ⟨ho1, ho2, _⟩ := HALL.out _ hml
        have hod := HSZM.out _ hml
        have hio := orgP_iff.1 ho1
        have HN := Lib.hid (fun V => rnum12_any l[j].1 (by omega) (by omega) V)
        have herr := memT_err ho1 ho2
        have HRW : ∀ (bo : Option Addr) (V : World), TxtRow V bo [numT l[j].1, l[j].2] → Calls Tryz.prog 40 #[.slice bo 2 2] V fun e w' => e = .returned (st2 (memT l[j])) ∧ Below V.heap.size V w' := fun bo V hR => rrow6_any [numT l[j].1, l[j].2] bo 2 (by simp) (fun x hx => by
          simp only [List.mem_cons, List.not_mem_nil, or_false] at hx
          rcases hx with rfl | rfl
          · have := numT_size hio.1 (show l[j].1 ≤ 2147483647 by omega); omega
          · omega) V hR
        have HTK : Hid ((l.take (j + 1)).map memT2 = (l.take j).map memT2 ++ [memT2 l[j]]) := Lib.hid (by rw [List.take_succ_eq_append_getElem hjl, List.map_append]; rfl)
        have HOK : Hid ((memT l[j]).2 = 0 → ∀ m ∈ l.take (j + 1), (memT m).2 = 0) := Lib.hid (fun h m hm => by
          rw [List.take_succ_eq_append_getElem hjl] at hm
          rcases List.mem_append.1 hm with hm | hm
          · exact hok.out m hm
          · rw [List.mem_singleton.1 hm]; exact h)
        have HNOT : Hid ((memT l[j]).2 ≠ 0 → membersT l = ([], 5)) := Lib.hid (fun h => membersT_no hml h)
        have HMT2 : Hid (memT2 l[j] = tb (memT l[j]).1) := Lib.hid rfl
        have HLN : Hid (((l.take j).map memT2).length ≤ 100) := Lib.hid (by rw [List.length_map, List.length_take]; omega)
        generalize numT l[j].1 = nt at *
        generalize memT2 l[j] = mt at *
        generalize memT l[j] = mr at *
        generalize l[j] = m at *
        obtain ⟨og, dg⟩ := m
        dsimp only at *
        generalize (l.take j).map memT2 = L at *
        have HCE : Hid (∀ V, Below wr.heap.size wr V → V.cell? ⟨b, off + j * 2, none⟩ = some (.int .i64 og) ∧ V.cell? ⟨b, off + j * 2 + 1, none⟩ = some (.string dg)) := Lib.hid (fun V hV => ⟨(hV.cell (p := ⟨b, off + j * 2, none⟩) hlt).trans y0, (hV.cell (p := ⟨b, off + j * 2 + 1, none⟩) hlt).trans y1⟩)
        have BB := Lib.hid (drew12 wr)
        have KS := HCE.out _ BB.out
        have HOWN : Hid (∀ V, Below wr.heap.size wr V → OwnT V B u6 L) := Lib.hid (fun V hV => ownT_below hown.out hV)
        have HSZ : Hid (∀ V, Below wr.heap.size wr V → B ≤ V.heap.size) := Lib.hid (fun V hV => by have := HBW.out; have := hV.size; omega)
        have HBX := hb
        have YY : Hid (wr.cell? ⟨b, off + j * 2, none⟩ = some (.int .i64 og) ∧ wr.cell? ⟨b, off + j * 2 + 1, none⟩ = some (.string dg)) := Lib.hid ⟨y0, y1⟩
        clear hcs hlt hml ho1 ho2 hod hio hjl hown hb y0 y1
        rcases herr with h0 | h5
        · have e1 : st2 mr = .tuple #[.string mt, .int .i64 0] := by rw [HMT2.out, show mr = (mr.1, 0) from Prod.ext rfl h0]; rfl
          rw [e1] at HRW
          have HRW := Lib.hid HRW
          have HOK2 := Lib.hid (HOK.out h0)
          clear h0 e1 HOK HNOT HMT2
          go_wp2_with fail
          refine wp_region_held_drew (S := fun W => W.cell? ⟨b, off + j * 2, none⟩ = some (.int .i64 og) ∧ W.cell? ⟨b, off + j * 2 + 1, none⟩ = some (.string dg)) (by kernel_rfl) (by first | assumption | exact KS) (fun hHeld => ?_)
          generalize wr.drew = wz at *
          refine wpAnyH_take (i := 0) (oi := { dst := some 21, op := Op.move (Operand.tmp 1), type := 24, pos := "ref.go:67", after := #[], guard := none }) (v := ?_) rfl (by kernel_rfl) (by kernel_rfl) (by kernel_rfl) (fun _ _ _ h => h) (Or.inl ⟨by rfl, ?_⟩) (by assumption) ?_
          rotate_left 1
          · (intro w hSw; (try dsimp only at hSw); go_simp; try with_reducible rfl)
          (try simp only [Act.put, List.setIfInBounds_toArray, List.set_cons_zero, List.set_cons_succ])
          refine wpAnyH_take (i := 1) (oi := { dst := some 22, op := Op.move (Operand.tmp 7), type := 3, pos := "ref.go:67", after := #[], guard := none }) (v := ?_) rfl (by kernel_rfl) (by kernel_rfl) (by kernel_rfl) (fun _ _ _ h => h) (Or.inl ⟨by rfl, ?_⟩) (by assumption) ?_
          rotate_left 1
          · (intro w hSw; (try dsimp only at hSw); go_simp; try with_reducible rfl)
          (try simp only [Act.put, List.setIfInBounds_toArray, List.set_cons_zero, List.set_cons_succ])
          refine wpAnyH_take (i := 2) (oi := { dst := some 23, op := Op.indexAddr 24 (Operand.tmp 21) (Operand.tmp 22), type := 0, pos := "ref.go:67", after := #[{ on := 0, ground := Ground.data }, { on := 1, ground := Ground.data }], guard := none }) (v := ?_) rfl (by kernel_rfl) (by kernel_rfl) (by kernel_rfl) (fun _ _ _ h => h) (Or.inl ⟨by rfl, ?_⟩) (by assumption) ?_
          rotate_left 1
          · (intro w hSw; (try dsimp only at hSw); go_simp; try with_reducible rfl)
          (try simp only [Act.put, List.setIfInBounds_toArray, List.set_cons_zero, List.set_cons_succ])
          refine wpAnyH_take (i := 3) (oi := { dst := some 24, op := Op.fieldAddr 81 (Operand.tmp 23) 0, type := 0, pos := "ref.go:67", after := #[{ on := 2, ground := Ground.data }], guard := none }) (v := ?_) rfl (by kernel_rfl) (by kernel_rfl) (by kernel_rfl) (fun _ _ _ h => h) (Or.inl ⟨by rfl, ?_⟩) (by assumption) ?_
          rotate_left 1
          · (intro w hSw; (try dsimp only at hSw); go_simp; try with_reducible rfl)
          (try simp only [Act.put, List.setIfInBounds_toArray, List.set_cons_zero, List.set_cons_succ])
          refine wpAnyH_take (i := 4) (oi := { dst := some 25, op := Op.load 3 (Operand.tmp 24), type := 3, pos := "ref.go:67", after := #[{ on := 3, ground := Ground.data }], guard := none }) (v := ?_) rfl (by kernel_rfl) (by kernel_rfl) (by kernel_rfl) (fun _ _ _ h => h) (Or.inl ⟨by rfl, ?_⟩) (by assumption) ?_
          rotate_left 1
          · (intro w hSw; (try dsimp only at hSw); go_simp; try with_reducible rfl)
          (try simp only [Act.put, List.setIfInBounds_toArray, List.set_cons_zero, List.set_cons_succ])
          refine wpAnyH_take (i := 6) (oi := { dst := some 27, op := Op.move (Operand.tmp 1), type := 24, pos := "ref.go:67", after := #[], guard := none }) (v := ?_) rfl (by kernel_rfl) (by kernel_rfl) (by kernel_rfl) (fun _ _ _ h => h) (Or.inl ⟨by rfl, ?_⟩) (by assumption) ?_
          rotate_left 1
          · (intro w hSw; (try dsimp only at hSw); go_simp; try with_reducible rfl)
          (try simp only [Act.put, List.setIfInBounds_toArray, List.set_cons_zero, List.set_cons_succ])
          refine wpAnyH_take (i := 7) (oi := { dst := some 28, op := Op.move (Operand.tmp 7), type := 3, pos := "ref.go:67", after := #[], guard := none }) (v := ?_) rfl (by kernel_rfl) (by kernel_rfl) (by kernel_rfl) (fun _ _ _ h => h) (Or.inl ⟨by rfl, ?_⟩) (by assumption) ?_
          rotate_left 1
          · (intro w hSw; (try dsimp only at hSw); go_simp; try with_reducible rfl)
          (try simp only [Act.put, List.setIfInBounds_toArray, List.set_cons_zero, List.set_cons_succ])
          refine wpAnyH_take (i := 8) (oi := { dst := some 29, op := Op.indexAddr 24 (Operand.tmp 27) (Operand.tmp 28), type := 0, pos := "ref.go:67", after := #[{ on := 6, ground := Ground.data }, { on := 7, ground := Ground.data }], guard := none }) (v := ?_) rfl (by kernel_rfl) (by kernel_rfl) (by kernel_rfl) (fun _ _ _ h => h) (Or.inl ⟨by rfl, ?_⟩) (by assumption) ?_
          rotate_left 1
          · (intro w hSw; (try dsimp only at hSw); go_simp; try with_reducible rfl)
          (try simp only [Act.put, List.setIfInBounds_toArray, List.set_cons_zero, List.set_cons_succ])
          refine wpAnyH_take (i := 9) (oi := { dst := some 30, op := Op.fieldAddr 81 (Operand.tmp 29) 1, type := 0, pos := "ref.go:67", after := #[{ on := 8, ground := Ground.data }], guard := none }) (v := ?_) rfl (by kernel_rfl) (by kernel_rfl) (by kernel_rfl) (fun _ _ _ h => h) (Or.inl ⟨by rfl, ?_⟩) (by assumption) ?_
          rotate_left 1
          · (intro w hSw; (try dsimp only at hSw); go_simp; try with_reducible rfl)
          (try simp only [Act.put, List.setIfInBounds_toArray, List.set_cons_zero, List.set_cons_succ])
          refine wpAnyH_take (i := 10) (oi := { dst := some 31, op := Op.load 9 (Operand.tmp 30), type := 9, pos := "ref.go:67", after := #[{ on := 9, ground := Ground.data }], guard := none }) (v := ?_) rfl (by kernel_rfl) (by kernel_rfl) (by kernel_rfl) (fun _ _ _ h => h) (Or.inl ⟨by rfl, ?_⟩) (by assumption) ?_
          rotate_left 1
          · (intro w hSw; (try dsimp only at hSw); go_simp; try with_reducible rfl)
          (try simp only [Act.put, List.setIfInBounds_toArray, List.set_cons_zero, List.set_cons_succ])
          refine wpAnyH_ready (rs := [5]) (by kernel_rfl) (by simp) ?_
          refine AllReadyH.cons (o := { dst := some 26, op := Op.call { callee := Callee.value (Operand.func 38), args := #[Operand.tmp 25], argTypes := #[3] }, type := 9, pos := "ref.go:67", after := #[{ on := 4, ground := Ground.data }], guard := none }) rfl (fun K hK => ?_) AllReadyH.nil
          go_simp
          refine (HN.out _).mono ?_; rintro e w1 ⟨rfl, b1⟩
          have BB := Lib.hid (below_step BB.out b1)
          clear b1
          refine hK.out _ _ (HCE.out _ BB.out) (fun hHeld => ?_)
          clear hK K
          (try simp only [Act.put, List.setIfInBounds_toArray, List.set_cons_zero, List.set_cons_succ])
          refine wpAnyH_ready (rs := [11]) (by kernel_rfl) (by simp) ?_
          refine AllReadyH.cons (o := { dst := some 32, op := Op.buildSlice 53 2 #[(0, Operand.tmp 26), (1, Operand.tmp 31)], type := 53, pos := "ref.go:67", after := #[{ on := 5, ground := Ground.data }, { on := 10, ground := Ground.data }], guard := none }) rfl (fun K hK => ?_) AllReadyH.nil
          go_simp
          obtain ⟨W4, hW4⟩ : ∃ V, V = w1.alloc (.cells #[.string nt, .string dg] 9) := ⟨_, rfl⟩
          have ba : Below w1.heap.size w1 W4 := by rw [hW4]; exact (Below.refl _ _).alloc (Nat.le_refl _) _
          have T2 := Lib.hid (show TxtRow W4 (some ⟨w1.heap.size, 0, none⟩) [nt, dg] from hW4 ▸ txt_two12 w1 nt dg)
          have BB := Lib.hid (below_step BB.out ba)
          rw [← hW4]
          clear ba hW4
          refine hK.out _ _ (HCE.out _ BB.out) (fun hHeld => ?_)
          clear hK K
          (try simp only [Act.put, List.setIfInBounds_toArray, List.set_cons_zero, List.set_cons_succ])
          refine wpAnyH_ready (rs := [12]) (by kernel_rfl) (by simp) ?_
          refine AllReadyH.cons (o := { dst := some 33, op := Op.call { callee := Callee.value (Operand.func 40), args := #[Operand.tmp 32], argTypes := #[53] }, type := 31, pos := "ref.go:67", after := #[{ on := 11, ground := Ground.data }, { on := 5, ground := Ground.chain }], guard := none }) rfl (fun K hK => ?_) AllReadyH.nil
          go_simp
          refine (HRW.out _ _ T2.out).mono ?_; rintro e w5 ⟨rfl, b5⟩
          have BB := Lib.hid (below_step BB.out b5)
          clear b5
          refine hK.out _ _ (HCE.out _ BB.out) (fun hHeld => ?_)
          clear hK K
          (try simp only [Act.put, List.setIfInBounds_toArray, List.set_cons_zero, List.set_cons_succ])
          refine wpAnyH_take (i := 13) (oi := { dst := some 20, op := Op.move (Operand.tmp 33), type := 31, pos := "ref.go:67", after := #[{ on := 12, ground := Ground.data }], guard := none }) (v := ?_) rfl (by kernel_rfl) (by kernel_rfl) (by kernel_rfl) (fun _ _ _ h => h) (Or.inl ⟨by rfl, ?_⟩) (by assumption) ?_
          rotate_left 1
          · (intro w hSw; (try dsimp only at hSw); go_simp; try with_reducible rfl)
          (try simp only [Act.put, List.setIfInBounds_toArray, List.set_cons_zero, List.set_cons_succ])
          refine wpAnyH_take (i := 14) (oi := { dst := some 34, op := Op.extract (Operand.tmp 20) 0, type := 9, pos := "ref.go:67", after := #[{ on := 13, ground := Ground.data }], guard := none }) (v := ?_) rfl (by kernel_rfl) (by kernel_rfl) (by kernel_rfl) (fun _ _ _ h => h) (Or.inl ⟨by rfl, ?_⟩) (by assumption) ?_
          rotate_left 1
          · (intro w hSw; (try dsimp only at hSw); go_simp; try with_reducible rfl)
          (try simp only [Act.put, List.setIfInBounds_toArray, List.set_cons_zero, List.set_cons_succ])
          refine wpAnyH_take (i := 15) (oi := { dst := some 35, op := Op.extract (Operand.tmp 20) 1, type := 30, pos := "ref.go:67", after := #[{ on := 13, ground := Ground.data }, { on := 16, ground := Ground.gcOnly Departure.lateStores }], guard := none }) (v := ?_) rfl (by kernel_rfl) (by kernel_rfl) (by kernel_rfl) (fun _ _ _ h => h) (Or.inl ⟨by rfl, ?_⟩) (by assumption) ?_
          rotate_left 1
          · (intro w hSw; (try dsimp only at hSw); go_simp; try with_reducible rfl)
          (try simp only [Act.put, List.setIfInBounds_toArray, List.set_cons_zero, List.set_cons_succ])
          refine wpAnyH_take (i := 16) (oi := { dst := some 8, op := Op.assign (Operand.tmp 34), type := 9, pos := "ref.go:67", after := #[{ on := 14, ground := Ground.data }, { on := 12, ground := Ground.chain }, { on := 0, ground := Ground.phase }, { on := 1, ground := Ground.phase }, { on := 2, ground := Ground.phase }, { on := 3, ground := Ground.phase }, { on := 4, ground := Ground.phase }, { on := 5, ground := Ground.phase }, { on := 6, ground := Ground.phase }, { on := 7, ground := Ground.phase }, { on := 8, ground := Ground.phase }, { on := 9, ground := Ground.phase }, { on := 10, ground := Ground.phase }, { on := 11, ground := Ground.phase }, { on := 12, ground := Ground.phase }, { on := 13, ground := Ground.phase }, { on := 14, ground := Ground.phase }, { on := 15, ground := Ground.textOnly Departure.lateStores }], guard := none }) (v := ?_) rfl (by kernel_rfl) (by kernel_rfl) (by kernel_rfl) (fun _ _ _ h => h) (Or.inl ⟨by rfl, ?_⟩) (by assumption) ?_
          rotate_left 1
          · (intro w hSw; (try dsimp only at hSw); go_simp; try with_reducible rfl)
          (try simp only [Act.put, List.setIfInBounds_toArray, List.set_cons_zero, List.set_cons_succ])
          refine wpAnyH_take (i := 17) (oi := { dst := some 9, op := Op.assign (Operand.tmp 35), type := 30, pos := "ref.go:67", after := #[{ on := 15, ground := Ground.data }, { on := 16, ground := Ground.chain }, { on := 0, ground := Ground.phase }, { on := 1, ground := Ground.phase }, { on := 2, ground := Ground.phase }, { on := 3, ground := Ground.phase }, { on := 4, ground := Ground.phase }, { on := 5, ground := Ground.phase }, { on := 6, ground := Ground.phase }, { on := 7, ground := Ground.phase }, { on := 8, ground := Ground.phase }, { on := 9, ground := Ground.phase }, { on := 10, ground := Ground.phase }, { on := 11, ground := Ground.phase }, { on := 12, ground := Ground.phase }, { on := 13, ground := Ground.phase }, { on := 14, ground := Ground.phase }, { on := 15, ground := Ground.phase }, { on := 16, ground := Ground.phase }], guard := none }) (v := ?_) rfl (by kernel_rfl) (by kernel_rfl) (by kernel_rfl) (fun _ _ _ h => h) (Or.inl ⟨by rfl, ?_⟩) (by assumption) ?_
          rotate_left 1
          · (intro w hSw; (try dsimp only at hSw); go_simp; try with_reducible rfl)
          (try simp only [Act.put, List.setIfInBounds_toArray, List.set_cons_zero, List.set_cons_succ])
          refine wpAnyH_done (by kernel_rfl) ?_ _
          clear hHeld
          have hO5 := HOWN.out _ BB.out
          have hs5 := HSZ.out _ BB.out
          go_wp2_with (first | (at_builtin; refine wpList_appT (B := B) (v := u6) (l := L) (m := [mt]) (ao := some ⟨w5.heap.size, 0, none⟩) (cap := 1) rfl (.tmp 38) (.tmp 40) rfl rfl rfl rfl (ownT_below hO5 ((Below.refl w5.heap.size w5).alloc (Nat.le_refl _) _)) (by rw [World.size_alloc]; omega) (txt_one w5 mt) (by intro e; cases e) (by have := HLN.out; simp only [List.length_cons, List.length_nil]; omega) ?_; intro v' w' ho' hg'; have O8 := Lib.hid ho'; have B8 := Lib.hid (app_grown12 (B := B) (w := wr) (BB.out.mono HBW.out) hs5 hO5 hg'); clear ho' hg') | fail)
          go_roundw
          case rel => exact ⟨j + 1, by go_num, by omega, Lib.hid (by rw [HTK.out]; exact O8.out), HOK2, Lib.hid (HBX.out.trans B8.out)⟩
          case measure => simp [intOf]; omega
        · rw [h5, show st2 (([] : List UInt8), 5) = .tuple #[.string ⟨#[]⟩, .int .i64 5] from rfl] at HRW
          have HRW := Lib.hid HRW
          have hno := HNOT.out (by rw [h5]; decide)
          have hR : RES = .tuple #[.string ⟨#[]⟩, .int .i64 5] := by rw [HRES.out, hno]; rfl
          clear hno HRES
          subst hR
          clear h5 HOK HNOT HMT2
          go_wp2_with fail
          refine wp_region_held_drew (S := fun W => W.cell? ⟨b, off + j * 2, none⟩ = some (.int .i64 og) ∧ W.cell? ⟨b, off + j * 2 + 1, none⟩ = some (.string dg)) (by kernel_rfl) (by first | assumption | exact KS) (fun hHeld => ?_)
          generalize wr.drew = wz at *
          refine wpAnyH_take (i := 0) (oi := { dst := some 21, op := Op.move (Operand.tmp 1), type := 24, pos := "ref.go:67", after := #[], guard := none }) (v := ?_) rfl (by kernel_rfl) (by kernel_rfl) (by kernel_rfl) (fun _ _ _ h => h) (Or.inl ⟨by rfl, ?_⟩) (by assumption) ?_
          rotate_left 1
          · (intro w hSw; (try dsimp only at hSw); go_simp; try with_reducible rfl)
          (try simp only [Act.put, List.setIfInBounds_toArray, List.set_cons_zero, List.set_cons_succ])
          refine wpAnyH_take (i := 1) (oi := { dst := some 22, op := Op.move (Operand.tmp 7), type := 3, pos := "ref.go:67", after := #[], guard := none }) (v := ?_) rfl (by kernel_rfl) (by kernel_rfl) (by kernel_rfl) (fun _ _ _ h => h) (Or.inl ⟨by rfl, ?_⟩) (by assumption) ?_
          rotate_left 1
          · (intro w hSw; (try dsimp only at hSw); go_simp; try with_reducible rfl)
          (try simp only [Act.put, List.setIfInBounds_toArray, List.set_cons_zero, List.set_cons_succ])
          refine wpAnyH_take (i := 2) (oi := { dst := some 23, op := Op.indexAddr 24 (Operand.tmp 21) (Operand.tmp 22), type := 0, pos := "ref.go:67", after := #[{ on := 0, ground := Ground.data }, { on := 1, ground := Ground.data }], guard := none }) (v := ?_) rfl (by kernel_rfl) (by kernel_rfl) (by kernel_rfl) (fun _ _ _ h => h) (Or.inl ⟨by rfl, ?_⟩) (by assumption) ?_
          rotate_left 1
          · (intro w hSw; (try dsimp only at hSw); go_simp; try with_reducible rfl)
          (try simp only [Act.put, List.setIfInBounds_toArray, List.set_cons_zero, List.set_cons_succ])
          refine wpAnyH_take (i := 3) (oi := { dst := some 24, op := Op.fieldAddr 81 (Operand.tmp 23) 0, type := 0, pos := "ref.go:67", after := #[{ on := 2, ground := Ground.data }], guard := none }) (v := ?_) rfl (by kernel_rfl) (by kernel_rfl) (by kernel_rfl) (fun _ _ _ h => h) (Or.inl ⟨by rfl, ?_⟩) (by assumption) ?_
          rotate_left 1
          · (intro w hSw; (try dsimp only at hSw); go_simp; try with_reducible rfl)
          (try simp only [Act.put, List.setIfInBounds_toArray, List.set_cons_zero, List.set_cons_succ])
          refine wpAnyH_take (i := 4) (oi := { dst := some 25, op := Op.load 3 (Operand.tmp 24), type := 3, pos := "ref.go:67", after := #[{ on := 3, ground := Ground.data }], guard := none }) (v := ?_) rfl (by kernel_rfl) (by kernel_rfl) (by kernel_rfl) (fun _ _ _ h => h) (Or.inl ⟨by rfl, ?_⟩) (by assumption) ?_
          rotate_left 1
          · (intro w hSw; (try dsimp only at hSw); go_simp; try with_reducible rfl)
          (try simp only [Act.put, List.setIfInBounds_toArray, List.set_cons_zero, List.set_cons_succ])
          refine wpAnyH_take (i := 6) (oi := { dst := some 27, op := Op.move (Operand.tmp 1), type := 24, pos := "ref.go:67", after := #[], guard := none }) (v := ?_) rfl (by kernel_rfl) (by kernel_rfl) (by kernel_rfl) (fun _ _ _ h => h) (Or.inl ⟨by rfl, ?_⟩) (by assumption) ?_
          rotate_left 1
          · (intro w hSw; (try dsimp only at hSw); go_simp; try with_reducible rfl)
          (try simp only [Act.put, List.setIfInBounds_toArray, List.set_cons_zero, List.set_cons_succ])
          refine wpAnyH_take (i := 7) (oi := { dst := some 28, op := Op.move (Operand.tmp 7), type := 3, pos := "ref.go:67", after := #[], guard := none }) (v := ?_) rfl (by kernel_rfl) (by kernel_rfl) (by kernel_rfl) (fun _ _ _ h => h) (Or.inl ⟨by rfl, ?_⟩) (by assumption) ?_
          rotate_left 1
          · (intro w hSw; (try dsimp only at hSw); go_simp; try with_reducible rfl)
          (try simp only [Act.put, List.setIfInBounds_toArray, List.set_cons_zero, List.set_cons_succ])
          refine wpAnyH_take (i := 8) (oi := { dst := some 29, op := Op.indexAddr 24 (Operand.tmp 27) (Operand.tmp 28), type := 0, pos := "ref.go:67", after := #[{ on := 6, ground := Ground.data }, { on := 7, ground := Ground.data }], guard := none }) (v := ?_) rfl (by kernel_rfl) (by kernel_rfl) (by kernel_rfl) (fun _ _ _ h => h) (Or.inl ⟨by rfl, ?_⟩) (by assumption) ?_
          rotate_left 1
          · (intro w hSw; (try dsimp only at hSw); go_simp; try with_reducible rfl)
          (try simp only [Act.put, List.setIfInBounds_toArray, List.set_cons_zero, List.set_cons_succ])
          refine wpAnyH_take (i := 9) (oi := { dst := some 30, op := Op.fieldAddr 81 (Operand.tmp 29) 1, type := 0, pos := "ref.go:67", after := #[{ on := 8, ground := Ground.data }], guard := none }) (v := ?_) rfl (by kernel_rfl) (by kernel_rfl) (by kernel_rfl) (fun _ _ _ h => h) (Or.inl ⟨by rfl, ?_⟩) (by assumption) ?_
          rotate_left 1
          · (intro w hSw; (try dsimp only at hSw); go_simp; try with_reducible rfl)
          (try simp only [Act.put, List.setIfInBounds_toArray, List.set_cons_zero, List.set_cons_succ])
          refine wpAnyH_take (i := 10) (oi := { dst := some 31, op := Op.load 9 (Operand.tmp 30), type := 9, pos := "ref.go:67", after := #[{ on := 9, ground := Ground.data }], guard := none }) (v := ?_) rfl (by kernel_rfl) (by kernel_rfl) (by kernel_rfl) (fun _ _ _ h => h) (Or.inl ⟨by rfl, ?_⟩) (by assumption) ?_
          rotate_left 1
          · (intro w hSw; (try dsimp only at hSw); go_simp; try with_reducible rfl)
          (try simp only [Act.put, List.setIfInBounds_toArray, List.set_cons_zero, List.set_cons_succ])
          refine wpAnyH_ready (rs := [5]) (by kernel_rfl) (by simp) ?_
          refine AllReadyH.cons (o := { dst := some 26, op := Op.call { callee := Callee.value (Operand.func 38), args := #[Operand.tmp 25], argTypes := #[3] }, type := 9, pos := "ref.go:67", after := #[{ on := 4, ground := Ground.data }], guard := none }) rfl (fun K hK => ?_) AllReadyH.nil
          go_simp
          refine (HN.out _).mono ?_; rintro e w1 ⟨rfl, b1⟩
          have BB := Lib.hid (below_step BB.out b1)
          clear b1
          refine hK.out _ _ (HCE.out _ BB.out) (fun hHeld => ?_)
          clear hK K
          (try simp only [Act.put, List.setIfInBounds_toArray, List.set_cons_zero, List.set_cons_succ])
          refine wpAnyH_ready (rs := [11]) (by kernel_rfl) (by simp) ?_
          refine AllReadyH.cons (o := { dst := some 32, op := Op.buildSlice 53 2 #[(0, Operand.tmp 26), (1, Operand.tmp 31)], type := 53, pos := "ref.go:67", after := #[{ on := 5, ground := Ground.data }, { on := 10, ground := Ground.data }], guard := none }) rfl (fun K hK => ?_) AllReadyH.nil
          go_simp
          obtain ⟨W4, hW4⟩ : ∃ V, V = w1.alloc (.cells #[.string nt, .string dg] 9) := ⟨_, rfl⟩
          have ba : Below w1.heap.size w1 W4 := by rw [hW4]; exact (Below.refl _ _).alloc (Nat.le_refl _) _
          have T2 := Lib.hid (show TxtRow W4 (some ⟨w1.heap.size, 0, none⟩) [nt, dg] from hW4 ▸ txt_two12 w1 nt dg)
          have BB := Lib.hid (below_step BB.out ba)
          rw [← hW4]
          clear ba hW4
          refine hK.out _ _ (HCE.out _ BB.out) (fun hHeld => ?_)
          clear hK K
          (try simp only [Act.put, List.setIfInBounds_toArray, List.set_cons_zero, List.set_cons_succ])
          refine wpAnyH_ready (rs := [12]) (by kernel_rfl) (by simp) ?_
          refine AllReadyH.cons (o := { dst := some 33, op := Op.call { callee := Callee.value (Operand.func 40), args := #[Operand.tmp 32], argTypes := #[53] }, type := 31, pos := "ref.go:67", after := #[{ on := 11, ground := Ground.data }, { on := 5, ground := Ground.chain }], guard := none }) rfl (fun K hK => ?_) AllReadyH.nil
          go_simp
          refine (HRW.out _ _ T2.out).mono ?_; rintro e w5 ⟨rfl, b5⟩
          have BB := Lib.hid (below_step BB.out b5)
          clear b5
          refine hK.out _ _ (HCE.out _ BB.out) (fun hHeld => ?_)
          clear hK K
          (try simp only [Act.put, List.setIfInBounds_toArray, List.set_cons_zero, List.set_cons_succ])
          refine wpAnyH_take (i := 13) (oi := { dst := some 20, op := Op.move (Operand.tmp 33), type := 31, pos := "ref.go:67", after := #[{ on := 12, ground := Ground.data }], guard := none }) (v := ?_) rfl (by kernel_rfl) (by kernel_rfl) (by kernel_rfl) (fun _ _ _ h => h) (Or.inl ⟨by rfl, ?_⟩) (by assumption) ?_
          rotate_left 1
          · (intro w hSw; (try dsimp only at hSw); go_simp; try with_reducible rfl)
          (try simp only [Act.put, List.setIfInBounds_toArray, List.set_cons_zero, List.set_cons_succ])
          refine wpAnyH_take (i := 14) (oi := { dst := some 34, op := Op.extract (Operand.tmp 20) 0, type := 9, pos := "ref.go:67", after := #[{ on := 13, ground := Ground.data }], guard := none }) (v := ?_) rfl (by kernel_rfl) (by kernel_rfl) (by kernel_rfl) (fun _ _ _ h => h) (Or.inl ⟨by rfl, ?_⟩) (by assumption) ?_
          rotate_left 1
          · (intro w hSw; (try dsimp only at hSw); go_simp; try with_reducible rfl)
          (try simp only [Act.put, List.setIfInBounds_toArray, List.set_cons_zero, List.set_cons_succ])
          refine wpAnyH_take (i := 15) (oi := { dst := some 35, op := Op.extract (Operand.tmp 20) 1, type := 30, pos := "ref.go:67", after := #[{ on := 13, ground := Ground.data }, { on := 16, ground := Ground.gcOnly Departure.lateStores }], guard := none }) (v := ?_) rfl (by kernel_rfl) (by kernel_rfl) (by kernel_rfl) (fun _ _ _ h => h) (Or.inl ⟨by rfl, ?_⟩) (by assumption) ?_
          rotate_left 1
          · (intro w hSw; (try dsimp only at hSw); go_simp; try with_reducible rfl)
          (try simp only [Act.put, List.setIfInBounds_toArray, List.set_cons_zero, List.set_cons_succ])
          refine wpAnyH_take (i := 16) (oi := { dst := some 8, op := Op.assign (Operand.tmp 34), type := 9, pos := "ref.go:67", after := #[{ on := 14, ground := Ground.data }, { on := 12, ground := Ground.chain }, { on := 0, ground := Ground.phase }, { on := 1, ground := Ground.phase }, { on := 2, ground := Ground.phase }, { on := 3, ground := Ground.phase }, { on := 4, ground := Ground.phase }, { on := 5, ground := Ground.phase }, { on := 6, ground := Ground.phase }, { on := 7, ground := Ground.phase }, { on := 8, ground := Ground.phase }, { on := 9, ground := Ground.phase }, { on := 10, ground := Ground.phase }, { on := 11, ground := Ground.phase }, { on := 12, ground := Ground.phase }, { on := 13, ground := Ground.phase }, { on := 14, ground := Ground.phase }, { on := 15, ground := Ground.textOnly Departure.lateStores }], guard := none }) (v := ?_) rfl (by kernel_rfl) (by kernel_rfl) (by kernel_rfl) (fun _ _ _ h => h) (Or.inl ⟨by rfl, ?_⟩) (by assumption) ?_
          rotate_left 1
          · (intro w hSw; (try dsimp only at hSw); go_simp; try with_reducible rfl)
          (try simp only [Act.put, List.setIfInBounds_toArray, List.set_cons_zero, List.set_cons_succ])
          refine wpAnyH_take (i := 17) (oi := { dst := some 9, op := Op.assign (Operand.tmp 35), type := 30, pos := "ref.go:67", after := #[{ on := 15, ground := Ground.data }, { on := 16, ground := Ground.chain }, { on := 0, ground := Ground.phase }, { on := 1, ground := Ground.phase }, { on := 2, ground := Ground.phase }, { on := 3, ground := Ground.phase }, { on := 4, ground := Ground.phase }, { on := 5, ground := Ground.phase }, { on := 6, ground := Ground.phase }, { on := 7, ground := Ground.phase }, { on := 8, ground := Ground.phase }, { on := 9, ground := Ground.phase }, { on := 10, ground := Ground.phase }, { on := 11, ground := Ground.phase }, { on := 12, ground := Ground.phase }, { on := 13, ground := Ground.phase }, { on := 14, ground := Ground.phase }, { on := 15, ground := Ground.phase }, { on := 16, ground := Ground.phase }], guard := none }) (v := ?_) rfl (by kernel_rfl) (by kernel_rfl) (by kernel_rfl) (fun _ _ _ h => h) (Or.inl ⟨by rfl, ?_⟩) (by assumption) ?_
          rotate_left 1
          · (intro w hSw; (try dsimp only at hSw); go_simp; try with_reducible rfl)
          (try simp only [Act.put, List.setIfInBounds_toArray, List.set_cons_zero, List.set_cons_succ])
          refine wpAnyH_done (by kernel_rfl) ?_ _
          go_wp2_with fail
          go_ret2
          exact ⟨rfl, below_step BW.out BB.out⟩
      · obtain rfl : j = n := by omega
        have hall2 : ∀ m ∈ l, (memT m).2 = 0 := by have := hok.out; rwa [HN6.out, List.take_length] at this
        have hm : membersT l = rowP (l.map fun m => (memT m).1) := by unfold membersT; rw [if_pos hall2]
        have hown2 := hown.out
        rw [HN6.out, List.take_length] at hown2
        obtain ⟨bo, bcap, rfl, hc, hr, _⟩ := own_shape12 hown2
        have HRW := fun V (hV : TxtRow V bo (l.map memT2)) => rrow6_any (l.map memT2) bo bcap (by rw [List.length_map]; have := HN6.out; omega) (fun x hx => by
          obtain ⟨y, hy, rfl⟩ := List.mem_map.1 hx
          have := memT_size y; omega) V hV
        have e1 : (l.map memT2).map bl = l.map fun m => (memT m).1 := by rw [List.map_map]; rfl
        rw [e1, ← hm] at HRW
        have herr : (membersT l).2 = 0 ∨ membersT l = ([], 5) := by
          rw [hm]
          refine row_err fun x hx => ?_
          obtain ⟨y, hy, rfl⟩ := List.mem_map.1 hx
          exact (row_read (by simp) (row_ok (hall2 y hy) : rowP [(numP y.1).1, bl y.2] = ((memT y).1, 0))).2.2
        rw [List.length_map] at HRW
        simp only [List.length_map]
        have HR2 := Lib.hid hr
        have hres : st2 (if (membersT l).2 = 0 then ((membersT l).1, 0) else ([], 5)) = st2 (membersT l) := by
          rcases herr with h | h
          · rw [if_pos h, show ((membersT l).1, 0) = membersT l from Prod.ext rfl h.symm]
          · rw [h]; rfl
        obtain ⟨rt, hrt⟩ : ∃ x, x = tb (membersT l).1 := ⟨_, rfl⟩
        obtain ⟨re, hre⟩ : ∃ x, x = (membersT l).2 := ⟨_, rfl⟩
        have hR : RES = .tuple #[.string rt, .int .i64 (re : Nat)] := by rw [HRES.out, hres, hrt, hre]; rfl
        rw [show st2 (membersT l) = .tuple #[.string (tb (membersT l).1), .int .i64 ((membersT l).2 : Nat)] from rfl, ← hrt, ← hre] at HRW
        clear HRES hrt hre
        subst hR
        have HRW := Lib.hid HRW
        clear hown hok hown2 hc hr hall2 hm e1 herr hres hb
        generalize l.length = n2 at *
        go_wp2_with (first | (go_at_call 40; refine (HRW.out _ HR2.out).mono ?_; rintro e7 V7 ⟨rfl, b7⟩) | fail)
        go_ret2
        exact ⟨rfl, below_step BW.out b7⟩
end Go.Proofs.YthemopejebioaaaGreat.Pl

namespace Go.Proofs.YthemopejebioaaaGreat.Pl
open Go.RowKit

theorem memR_two {p a b : ByteArray} (hk : kindP (bl p) = 3) (hp : partsB p = [a, b]) : rowR p memG = (rdN a).map fun k => (k, b) := by
  unfold rowR
  rw [if_pos hk, hp]
  cases h0 : rdN a with
  | none => simp [memG, getN_cons, h0, endR]
  | some k => simp [memG, getN_cons, h0, endR]
theorem memR_not {p : ByteArray} (h : ¬ (kindP (bl p) = 3 ∧ (partsB p).length = 2)) : rowR p memG = none := by
  cases k : rowR p memG with
  | none => rfl
  | some m =>
    exfalso
    have hk3 : kindP (bl p) = 3 := by
      apply Classical.byContradiction
      intro hn
      unfold rowR at k
      rw [if_neg hn] at k
      cases k
    obtain ⟨g1, _⟩ := rowR_again k
    refine h ⟨hk3, ?_⟩
    cases hq : partsB p with
    | nil => rw [hq] at g1; cases g1
    | cons a r =>
      rw [hq] at g1
      unfold memG at g1
      rw [getN_cons] at g1
      cases h0 : rdN a with
      | none => rw [h0] at g1; cases g1
      | some v =>
        rw [h0] at g1
        cases r with
        | nil => cases g1
        | cons b r2 =>
          simp only [Option.map_some, Option.some.injEq, Prod.mk.injEq] at g1
          rw [g1.2]; rfl

set_option maxHeartbeats 8000000 in
set_option maxRecDepth 100000 in
theorem rreadmem12_any (c e q : Int) (t : ByteArray) (ht : t.size ≤ 281474976710656) (w : World) : Calls Tryz.prog 30 #[.agg #[.int .i64 c, .int .i64 e, .int .i64 q], .string t] w fun x w' => (∃ v, x = .returned (.tuple #[v, .bool (membersR c t).isSome]) ∧ OwnM w' w.heap.size v ((membersR c t).getD [])) ∧ Below w.heap.size w w' := by
  have HK := fun V => rkind_any t ht V
  have HP := Lib.hid (fun V => rparts12_any t ht V)
  have HPL := Lib.hid (partsB_len t)
  have HPS := Lib.hid (partsB_size t)
  have hz : membersR c t = if kindP (bl t) = 3 then (match memsR (partsB t) with | some l => if mayL c l = true then some l else none | none => none) else none := rfl
  have h6 := kindP_le (bl t)
  generalize membersR c t = z at *
  obtain ⟨W0, hW0⟩ : ∃ V, V = w.alloc (.cells #[.int .i64 c, .int .i64 e, .int .i64 q] 23) := ⟨_, rfl⟩
  have X0 := Lib.hid (show XAt W0 w.heap.size c e q from hW0 ▸ xat_new w c e q)
  have B0 := Lib.hid (show Below w.heap.size w W0 from hW0 ▸ (Below.refl _ _).alloc (Nat.le_refl _) _)
  have HW0 := Lib.hid hW0
  clear hW0
  by_cases hk : kindP (bl t) = 3
  · rw [if_pos hk] at hz
    rw [hk] at HK
    have HK := Lib.hid HK
    have HZ := Lib.hid hz
    clear hk h6 hz
    go_enter Tryz.func30, Tryz.ntmps30
    go_wp2_with fail
    rw [← HW0.out]
    refine (HP.out _).mono ?_; rintro e1 w2 ⟨ao, cap, rfl, hcap, hrow2, b1⟩
    go_wp2_with fail
    refine (HK.out _).mono ?_; rintro e2 w3 ⟨rfl, b2⟩
    have hrow := hrow2.below b2
    have BW3 : Hid (Below W0.heap.size W0 w3) := Lib.hid (below_step b1 b2)
    have HROW := Lib.hid (fun V (hV : Below w3.heap.size w3 V) => hrow.below hV)
    have HSW0 : Hid (w.heap.size ≤ w3.heap.size) := Lib.hid (by have := BW3.out.size; have := B0.out.size; omega)
    clear b1 b2 hrow hrow2 hcap
    generalize hps : partsB t = ps at *
    obtain ⟨n, hn⟩ : ∃ n, n = ps.length := ⟨_, rfl⟩
    rw [← hn]
    have HN := Lib.hid hn
    have hn32 : n ≤ 32 := by rw [hn]; exact HPL.out
    clear hps hn HK HP
    go_wp2_with fail
    go_loopw [9, 8] (fun iv lv wr => ∃ (j : Nat) (L : List Mb), iv = .int .i64 j ∧ j ≤ n ∧ Hid (OwnM wr w3.heap.size lv L) ∧ Hid (memsR (ps.take j) = some L) ∧ Hid (L.length = j) ∧ Hid (Below w3.heap.size w3 wr)) (fun iv _ _ => n - (intOf iv).toNat)
    case atStart => exact ⟨0, [], rfl, Nat.zero_le _, Lib.hid (ownM_nil _ _), Lib.hid rfl, Lib.hid rfl, Lib.hid (Below.refl _ _)⟩
    case round =>
      obtain ⟨j, L, rfl, hjn, hown, hst, hLj, hb⟩ := hrel
      have BWR : Hid (Below w.heap.size w wr) := Lib.hid (below_step (below_step B0.out BW3.out) hb.out)
      by_cases hj : j < n
      · have hj' : (j : Int) < (n : Int) := by omega
        have hjl : j < ps.length := by rw [← HN.out]; exact hj
        rcases HROW.out _ hb.out with e | ⟨bb, off, rfl, hlt, hcs⟩
        · exfalso
          rw [e] at hjl
          exact absurd hjl (Nat.not_lt_zero _)
        have x0 := hcs j hjl
        have hgd : ps.getD j ByteArray.empty = ps[j] := by simp [List.getD_eq_getElem?_getD, hjl]
        rw [hgd] at x0
        have hps' := HPS.out _ (List.getElem_mem hjl)
        have hnext := memsR_drop hjl hst.out
        have hno : memsR (ps.take (j + 1)) = none → memsR ps = none := memsR_none
        have HPp := Lib.hid (fun V => rparts12_any ps[j] (by omega) V)
        have HKp := fun V => rkind_any ps[j] (by omega) V
        have HQS := Lib.hid (partsB_size ps[j])
        have h2 := fun a b => @memR_two ps[j] a b
        have hn2 := @memR_not ps[j]
        have h6 := kindP_le (bl ps[j])
        have HXC : Hid (∀ V, Below wr.heap.size wr V → V.cell? ⟨bb, off + j, none⟩ = some (.string ps[j])) := Lib.hid (fun V hV => (hV.cell (p := ⟨bb, off + j, none⟩) hlt).trans x0)
        generalize ps[j] = p at *
        clear hcs hlt hgd hjl
        by_cases hk : kindP (bl p) = 3
        · rw [hk] at HKp
          have HKp := Lib.hid HKp
          by_cases hl : (partsB p).length = 2
          · obtain ⟨a, b, hab⟩ : ∃ a b, partsB p = [a, b] := by
              match partsB p, hl with
              | [a, b], _ => exact ⟨a, b, rfl⟩
            have h2 := h2 a b hk hab
            have HNa := fun V => rnumr_any a (by have := HQS.out a (by rw [hab]; simp); omega) V
            rw [hab] at HPp
            clear hab hl hk h6 hn2 HQS hps'
            rw [show [a, b].length = 2 from rfl] at HPp
            go_wp2_with fail
            refine (HPp.out _).mono ?_; rintro e3 V3 ⟨qo, qc, rfl, hqc, hqrow, b3⟩
            have BB := Lib.hid b3
            have x1 := HXC.out _ BB.out
            clear x0 b3
            go_wp2_with fail
            refine (HKp.out _).mono ?_; rintro e4 V4 ⟨rfl, b4⟩
            rcases hqrow with hq0 | ⟨g, of2, rfl, hg, hc⟩
            · cases hq0
            have R2 : Hid (∀ V, Below V4.heap.size V4 V → V.cell? ⟨g, of2, none⟩ = some (.string a) ∧ V.cell? ⟨g, of2 + 1, none⟩ = some (.string b)) := Lib.hid (fun V hV => ⟨((b4.trans (hV.mono b4.size)).cell (p := ⟨g, of2, none⟩) hg).trans (hc 0 (by simp)), ((b4.trans (hV.mono b4.size)).cell (p := ⟨g, of2 + 1, none⟩) hg).trans (hc 1 (by simp))⟩)
            have BB := Lib.hid (below_step BB.out b4)
            obtain ⟨c0, c1⟩ := R2.out _ (Below.refl _ _)
            clear x1 b4 hg hc hqc
            cases ha : rdN a with
            | none =>
              rw [ha] at HNa h2
              rw [h2] at hnext
              have hz : z = none := by rw [HZ.out, hno (by rw [hnext]; rfl)]
              subst hz
              simp only [Option.getD, Option.isSome] at HNa
              have HNa := Lib.hid HNa
              clear hnext hno h2 ha
              go_wp2_with fail
              refine (HNa.out _).mono ?_; rintro e5 V5 ⟨rfl, b5⟩
              have BB := Lib.hid (below_step BB.out b5)
              clear b5 c0 c1
              go_wp2_with fail
              go_ret2
              exact ⟨⟨_, rfl, ownM_nil _ _⟩, below_step BWR.out BB.out⟩
            | some k =>
              rw [ha] at HNa h2
              rw [h2] at hnext
              have HNX : Hid (memsR (ps.take (j + 1)) = some (L ++ [(k, b)])) := Lib.hid hnext
              simp only [Option.getD, Option.isSome] at HNa
              have HNa := Lib.hid HNa
              clear hnext hno h2 ha
              go_wp2_with fail
              refine (HNa.out _).mono ?_; rintro e5 V5 ⟨rfl, b5⟩
              obtain ⟨c0', c1'⟩ := R2.out _ b5
              have BB := Lib.hid (below_step BB.out b5)
              clear b5 c0 c1
              go_wp2_with (first | (at_builtin; refine wpList_appM (B := w3.heap.size) (v := u8) (l := L) (m := [(k, b)]) (ao := some ⟨V5.heap.size, 0, none⟩) (cap := 1) rfl (.tmp 56) (.tmp 62) rfl rfl rfl rfl (ownM_below (ownM_below hown.out BB.out) ((Below.refl _ _).alloc (Nat.le_refl _) _)) (by have := BB.out.size; have := hb.out.size; rw [World.size_alloc]; omega) (memRow_one V5 k b) (by intro e; cases e) (by have := hLj.out; have := HPL.out; have := HN.out; simp only [List.length_cons, List.length_nil]; omega) ?_; intro v' w' ho' hg'; have HO' := Lib.hid ho'; have BG := Lib.hid (own12_grown hown.out hb.out BB.out hg'); clear ho' hg') | fail)
              go_roundw
              case rel => exact ⟨j + 1, _, by go_num, by omega, HO', Lib.hid HNX.out, Lib.hid (by rw [List.length_append, hLj.out]; rfl), BG⟩
              case measure => simp [intOf]; omega
          · rw [hn2 (fun h => hl h.2)] at hnext
            have hz : z = none := by rw [HZ.out, hno (by rw [hnext]; rfl)]
            subst hz
            have hl2 : (((partsB p).length : Int) != 2) = true := by rw [bne_iff_ne]; omega
            clear hnext hno h2 hn2 h6 hk hps' HQS
            generalize partsB p = qs at *
            generalize qs.length = qn at *
            go_wp2_with fail
            refine (HPp.out _).mono ?_; rintro e3 V3 ⟨qo, qc, rfl, hqc, hqrow, b3⟩
            have BB := Lib.hid b3
            have x1 := HXC.out _ BB.out
            clear x0 b3 hqrow hqc
            go_wp2_with fail
            refine (HKp.out _).mono ?_; rintro e4 V4 ⟨rfl, b4⟩
            have BB := Lib.hid (below_step BB.out b4)
            clear b4 x1
            go_wp2_with fail
            go_ret2
            exact ⟨⟨_, rfl, ownM_nil _ _⟩, below_step BWR.out BB.out⟩
        · rw [hn2 (fun h => hk h.1)] at hnext
          have hz : z = none := by rw [HZ.out, hno (by rw [hnext]; rfl)]
          subst hz
          have hk2 : ((kindP (bl p) : Nat) : Int) ≠ 3 := by omega
          have hk3 : (((kindP (bl p) : Nat) : Int) != 3) = true := by rw [bne_iff_ne]; exact hk2
          have HKp := Lib.hid HKp
          clear hnext hno h2 hn2 hps' HQS
          generalize kindP (bl p) = kd at *
          generalize partsB p = qs at *
          generalize qs.length = qn at *
          go_wp2_with fail
          refine (HPp.out _).mono ?_; rintro e3 V3 ⟨qo, qc, rfl, hqc, hqrow, b3⟩
          have BB := Lib.hid b3
          have x1 := HXC.out _ BB.out
          clear x0 b3 hqrow hqc
          go_wp2_with fail
          refine (HKp.out _).mono ?_; rintro e4 V4 ⟨rfl, b4⟩
          have BB := Lib.hid (below_step BB.out b4)
          clear b4 x1
          go_wp2_with fail
          go_ret2
          exact ⟨⟨_, rfl, ownM_nil _ _⟩, below_step BWR.out BB.out⟩
      · obtain rfl : j = n := by omega
        have hm : memsR ps = some L := by have := hst.out; rwa [HN.out, List.take_length] at this
        have hz : z = if mayL c L = true then some L else none := by rw [HZ.out, hm]
        obtain ⟨q1, q2⟩ := memsR_size hm
        obtain ⟨bo, bcap, rfl, hmr, _, _⟩ := ownM_row hown.out
        have X3 := (X0.out.below BW3.out).below hb.out
        obtain ⟨x0, x1, x2, -⟩ := X3.cells
        have HM := fun V (hV : Below wr.heap.size wr V) => rmaymems_any c e q L bo bcap (fun m hm => Nat.le_trans (q1 m hm) (by decide)) (by have := HPL.out; omega) V (hmr.below hV)
        have HOWN := Lib.hid (ownM_low hown.out HSW0.out)
        clear hown hst hb hLj hmr X3 q1 q2 hm
        generalize hLn : L.length = ln at *
        cases hmay : mayL c L with
        | true =>
          rw [hmay] at HM hz
          have HM := Lib.hid HM
          rw [if_pos rfl] at hz
          subst hz
          go_wp2_with fail
          refine (HM.out _ (Below.refl _ _)).mono ?_; rintro e1 V ⟨rfl, b1⟩
          go_wp2_with fail
          go_ret2
          exact ⟨⟨_, rfl, ownM_below HOWN.out b1⟩, below_step BWR.out b1⟩
        | false =>
          rw [hmay] at HM hz
          have HM := Lib.hid HM
          rw [if_neg (by simp)] at hz
          subst hz
          go_wp2_with fail
          refine (HM.out _ (Below.refl _ _)).mono ?_; rintro e1 V ⟨rfl, b1⟩
          go_wp2_with fail
          go_ret2
          exact ⟨⟨_, rfl, ownM_nil _ _⟩, below_step BWR.out b1⟩
  · have hz0 : z = none := hz.trans (if_neg hk)
    subst hz0
    have hk2 : ((kindP (bl t) : Nat) : Int) ≠ 3 := by omega
    have hk3 : (((kindP (bl t) : Nat) : Int) != 3) = true := by rw [bne_iff_ne]; exact hk2
    generalize kindP (bl t) = kd at *
    have HK := Lib.hid HK
    clear hz HPL HPS
    generalize partsB t = ps at *
    generalize ps.length = n at *
    go_enter Tryz.func30, Tryz.ntmps30
    go_wp2_with fail
    rw [← HW0.out]
    refine (HP.out _).mono ?_; rintro e1 V1 ⟨ao, cap, rfl, hcap, hrow, b1⟩
    go_wp2_with fail
    refine (HK.out _).mono ?_; rintro e2 V2 ⟨rfl, b2⟩
    go_wp2_with fail
    go_ret2
    exact ⟨⟨_, rfl, ownM_nil _ _⟩, below_step (below_step B0.out b1) b2⟩
end Go.Proofs.YthemopejebioaaaGreat.Pl
