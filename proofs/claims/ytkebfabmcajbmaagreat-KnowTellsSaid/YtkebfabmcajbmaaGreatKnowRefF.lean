/- What the document's List of layer 10 answers. -/
import Derived.Test.YtkebfabmcajbmaaGreatKnowRefE
import Derived.Test.YtkebfabmcajbmaaGreatKnowZ1
import Derived.Test.YtkebfabmcajbmaaGreatKnowCut
namespace Go.Proofs.YtkebfabmcajbmaaGreat.Pl
open Go.RowKit

theorem less_bl (a b : ByteArray) : Op.bytesLess a.toList b.toList = lessB (bl a) (bl b) := by rw [Lib.toList_data, Lib.toList_data]; rfl
theorem getD_bl {L : List ByteArray} {k : Nat} (h : k < L.length) : (L.map bl)[k]'(by rw [List.length_map]; exact h) = bl (L.getD k ByteArray.empty) := by simp [List.getD_eq_getElem?_getD, h]
theorem wp_region_U {P : Program} {ops : Array Oper} {S : World → Prop} {Q : Exit → Act → World → Prop} {id : Nat} {a : Act} {w : World} (hm : P.follows .mixedOrders = true) (hS : S w.drew)
    (h : ∀ U, S U → wpAnyH P .any ops Q S ops.size (Array.replicate ops.size false) a U) : (Code.region id ops true).wp P Q a w := wp_region_held_drew hm hS (fun hh => h _ hh)
theorem list_keep {B W' : World} {r g o : Nat} {u : Value} {x : ByteArray} (hb : Below B.heap.size B W')
    (h0 : B.cell? ⟨r, 0, none⟩ = some u) (h1 : B.cell? ⟨g, o, none⟩ = some (.string x)) : W'.cell? ⟨r, 0, none⟩ = some u ∧ W'.cell? ⟨g, o, none⟩ = some (.string x) ∧ Hid (Below B.heap.size B W') :=
  ⟨(hb.cell (p := ⟨r, 0, none⟩) (World.block_lt_of_cell? _ _ h0)).trans h0, (hb.cell (p := ⟨g, o, none⟩) (World.block_lt_of_cell? _ _ h1)).trans h1, Lib.hid hb⟩
theorem own_low10 {w : World} {A B : Nat} {v : Value} {l : List ByteArray} (h : A ≤ B) (ho : OwnT w B v l) : OwnT w A v l :=
  ⟨ho.1, ho.2.elim .inl fun ⟨g, cap, cur, e1, e2, rest⟩ => .inr ⟨g, cap, cur, e1, Nat.le_trans h e2, rest⟩⟩
theorem one_row (W : World) (x : ByteArray) : TxtRow (W.alloc (.cells #[.string x] 9)) (some ⟨W.heap.size, 0, none⟩) [x] :=
  .inr ⟨W.heap.size, 0, rfl, by simp, fun j hj => by
    have hj' : j < 1 := hj
    obtain rfl : j = 0 := by omega
    simp⟩
set_option maxHeartbeats 4000000 in
set_option maxRecDepth 100000 in
theorem rlist10_any (G : Nat → Prop) (r : Nat) (H : List (List UInt8)) (w : World) (hr : RefAt w G r H) :
    Calls Tryz.prog 13 #[.pointer (some ⟨r, 0, none⟩)] w fun e w' => (∃ v L, e = .returned v ∧ OwnT w' w.heap.size v L ∧ SortK H (L.map bl)) ∧ Below w.heap.size w w' := by
  obtain ⟨L, ao, cap, hh, hrow, hp, hl, hk, _⟩ := hr
  have HR := Lib.hid hrow
  have HH := Lib.hid hh
  have HEND := Lib.hid (sort10_sortK hk)
  have hlt := (Array.getElem?_eq_some_iff.1 hh).1
  have HST : Hid (∀ k, (hk : k < L.length) → sort10 ((L.map bl).take (k + 1)) = ins10 (sort10 ((L.map bl).take k)) (bl (L.getD k ByteArray.empty))) := Lib.hid (fun k hk => by
    rw [sort10_step _ k (by rw [List.length_map]; exact hk), getD_bl hk])
  have HLN : Hid (∀ k (O : List ByteArray), O.map bl = sort10 ((L.map bl).take k) → O.length ≤ 2048) := Lib.hid (fun k O hO => by
    have h1 := congrArg List.length hO
    rw [List.length_map, sort10_len, List.length_take, List.length_map] at h1
    omega)
  obtain ⟨n, hn⟩ : ∃ n, n = L.length := ⟨_, rfl⟩
  have HN := Lib.hid hn
  rw [← hn] at HH hl
  clear hrow hh hk hn hp
  go_enter Tryz.func13, Tryz.ntmps13
  go_wp2_with fail
  go_loopw [3, 4] (fun ov iv wr => ∃ (k : Nat) (O : List ByteArray), iv = .int .i64 k ∧ k ≤ n ∧ Hid (OwnT wr w.heap.size ov O) ∧ Hid (O.map bl = sort10 ((L.map bl).take k)) ∧ Hid (Below w.heap.size w wr)) (fun _ iv _ => n - (intOf iv).toNat)
  case atStart => exact ⟨0, [], rfl, Nat.zero_le _, Lib.hid (ownT_nil _ _), Lib.hid rfl, Lib.hid (Below.refl _ _)⟩
  case round =>
    obtain ⟨k, O, rfl, hkn, hown, hO, hb⟩ := hrel
    have h0 := (hb.out.block r hlt).trans HH.out
    have c0 : wr.cell? ⟨r, 0, none⟩ = some (.slice ao n cap) := cell_of_row _ _ _ _ _ _ h0
    clear h0
    by_cases hk : k < n
    · have hk' : (k : Int) < (n : Int) := by omega
      have hkl : k < L.length := by rw [← HN.out]; exact hk
      rcases HR.out.below hb.out with e | ⟨g, off, rfl, hglt, hc⟩
      · exfalso
        rw [e] at hkl
        exact absurd hkl (Nat.not_lt_zero _)
      have ck := hc k hkl
      have HSK := Lib.hid (HST.out k hkl)
      rw [← hO.out] at HSK
      have HLO := HLN.out k O hO.out
      generalize L.getD k ByteArray.empty = x at *
      obtain ⟨oo, ocap, rfl, hshape, hocap, horow⟩ := own_shape hown.out
      have HSH := Lib.hid hshape
      have HOR := Lib.hid horow
      obtain ⟨z, hz⟩ : ∃ z, z = O.length := ⟨_, rfl⟩
      have HZ := Lib.hid hz
      rw [← hz] at HLO hocap
      have HA : Hid (∀ j, (hj : j < O.length) → (∀ i, (hi : i < O.length) → i < j → lessB (bl O[i]) (bl x) = true) → lessB (bl O[j]) (bl x) = false → at10 (O.map bl) (bl x) = j) := Lib.hid (fun j hj h1 h2 =>
        at10_stop (fun i hi hij => by simpa using h1 i (by simpa using hi) hij) (by simpa using hj) (by simpa using h2))
      have HAE : Hid ((∀ i, (hi : i < O.length) → lessB (bl O[i]) (bl x) = true) → at10 (O.map bl) (bl x) = O.length) := Lib.hid (fun h => by
        rw [at10_end (fun i hi => by simpa using h i (by simpa using hi)), List.length_map])
      have hsl : (Value.slice oo O.length ocap) = .slice oo z ocap := by rw [hz]
      rw [hsl]
      clear hc hglt horow hz hsl hshape
      go_wp2_with fail
      go_loopw [5] (fun jv wq => ∃ (j : Nat) (m : Nat), jv = .int .i64 j ∧ j ≤ z ∧ Hid (∀ i, (hi : i < O.length) → i < j → lessB (bl O[i]) (bl x) = true) ∧ wq = wr.drewN m) (fun jv _ => z - (intOf jv).toNat)
      case atStart => exact ⟨0, 0, rfl, Nat.zero_le _, Lib.hid (fun i _ hi => absurd hi (Nat.not_lt_zero i)), rfl⟩
      case round =>
        obtain ⟨j, m, rfl, hjz, hall, rfl⟩ := hrel
        have BD : Below wr.heap.size wr (wr.drewN m) := below_drewN (Below.refl _ _) m
        by_cases hj : j < z
        · have hj' : (j : Int) < (z : Int) := by omega
          have hjl : j < O.length := by rw [← HZ.out]; exact hj
          rcases HOR.out with e | ⟨og, ooff, rfl, _, hoc⟩
          · exfalso
            rw [e] at hjl
            exact absurd hjl (Nat.not_lt_zero _)
          have doj : wr.cell? ⟨og, ooff + j, none⟩ = some (.string (O.getD j ByteArray.empty)) := hoc j hjl
          have eg : O.getD j ByteArray.empty = O[j] := by simp [List.getD_eq_getElem?_getD, hjl]
          rw [eg] at doj
          have HSTOP : Hid (lessB (bl O[j]) (bl x) = false → at10 (O.map bl) (bl x) = j) := Lib.hid (fun e => HA.out j hjl hall.out e)
          have HGO : Hid (lessB (bl O[j]) (bl x) = true → ∀ i, (hi : i < O.length) → i < j + 1 → lessB (bl O[i]) (bl x) = true) := Lib.hid (fun e i hi hij => by
            by_cases h : i < j
            · exact hall.out i hi h
            · obtain rfl : i = j := by omega
              exact e)
          have hq := less_bl O[j] x
          generalize O[j] = y at *
          cases hcase : lessB (bl y) (bl x) with
          | true =>
            rw [hcase] at hq
            have HG := Lib.hid (HGO.out hcase)
            clear hoc eg hcase HSTOP HGO
            go_wp2_with fail
            go_quiet (fail)
            go_wp2_with fail
            go_roundw
            case rel => exact ⟨j + 1, _, by go_num, by omega, HG, rfl⟩
            case measure => simp [intOf]; omega
          | false =>
            rw [hcase] at hq
            have HAT := Lib.hid (HSTOP.out hcase)
            clear hoc eg hcase HSTOP HGO
            go_wp2_with fail
            go_quiet (fail)
            go_wp2_with fail
            have KF := cut_front (some ⟨og, ooff, none⟩ : Option Addr) z ocap j HSH.out (by omega)
            have KR := cut_rest (some ⟨og, ooff, none⟩ : Option Addr) z ocap j (by omega)
            have hN2 := rest_none (j := j) HSH.out
            have hRR := fun V (hV : TxtRow V (some ⟨og, ooff, none⟩ : Option Addr) O) => rest_row hV HSH.out (by rw [← HZ.out]; exact hocap) j
            obtain ⟨o2, ho2⟩ : ∃ o2 : Option Addr, o2 = (if ocap = j then (some ⟨og, ooff, none⟩ : Option Addr) else (some ⟨og, ooff, none⟩ : Option Addr).map (·.add j)) := ⟨_, rfl⟩
            obtain ⟨zj, hzj⟩ : ∃ zj, zj = z - j := ⟨_, rfl⟩
            obtain ⟨cj, hcj⟩ : ∃ cj, cj = ocap - j := ⟨_, rfl⟩
            rw [← ho2, ← hzj, ← hcj] at KR
            rw [← ho2, ← hcj] at hN2
            rw [← ho2] at hRR
            have HN2 := Lib.hid hN2
            have HRR := Lib.hid hRR
            have HTL : Hid ((O.take j).length = j) := Lib.hid (by rw [List.length_take, ← HZ.out]; exact Nat.min_eq_left hjz)
            have HDL : Hid ((O.drop j).length = zj) := Lib.hid (by rw [List.length_drop, ← HZ.out]; exact hzj.symm)
            have HZJ : Hid (zj ≤ 2048) := Lib.hid (by rw [hzj]; omega)
            have HL3 := HTL
            have HL12 : Hid ((O.take j ++ [x]).length = j + 1) := Lib.hid (by rw [List.length_append, HTL.out]; rfl)
            have HL16 : Hid ((O.take j ++ [x] ++ O.drop j).length = z + 1) := Lib.hid (by rw [List.length_append, HL12.out, HDL.out]; omega)
            have HFIN : Hid (∀ v6 w6, OwnT w6 wr.heap.size v6 (O.take j ++ [x] ++ O.drop j) → Below wr.heap.size wr w6 → OwnT w6 w.heap.size v6 (O.take j ++ [x] ++ O.drop j) ∧ (O.take j ++ [x] ++ O.drop j).map bl = sort10 ((L.map bl).take (k + 1)) ∧ Below w.heap.size w w6) := Lib.hid (fun v6 w6 h1 h2 => ⟨own_low10 hb.out.size h1, by rw [HSK.out, ins10, HAT.out]; simp, below_step hb.out h2⟩)
            clear hN2 hRR ho2 hcj hjz hocap hzj
            refine wp_region_U (S := fun W => W.cell? ⟨r, 0, none⟩ = some (.slice (some ⟨g, off, none⟩) n cap) ∧ W.cell? ⟨g, off + k, none⟩ = some (.string x) ∧ Hid (Below wr.heap.size wr W)) (by kernel_rfl) ⟨c0, ck, Lib.hid (below_drewN (below_drewN (below_drewN (Below.refl _ _) _) _) 1)⟩ (fun U hHeld => ?_)
            have BU := Lib.hid hHeld.2.2.out
            refine wpAnyH_take (i := 0) (oi := { dst := some 35, op := Op.move (Operand.tmp 3), type := 22, pos := "ref.go:91", after := #[], guard := none }) (v := .slice (some ⟨og, ooff, none⟩ : Option Addr) z ocap) rfl (by kernel_rfl) (by kernel_rfl) (by kernel_rfl) (fun _ _ _ h => h) (Or.inl ⟨by rfl, fun w hS => by obtain ⟨s0, s1, _⟩ := hS; go_simp⟩) hHeld ?_
            (try simp only [Act.put, List.setIfInBounds_toArray, List.set_cons_zero, List.set_cons_succ])
            refine wpAnyH_take (i := 1) (oi := { dst := some 36, op := Op.move (Operand.tmp 5), type := 3, pos := "ref.go:91", after := #[], guard := none }) (v := .int .i64 (j : Int)) rfl (by kernel_rfl) (by kernel_rfl) (by kernel_rfl) (fun _ _ _ h => h) (Or.inl ⟨by rfl, fun w hS => by obtain ⟨s0, s1, _⟩ := hS; go_simp⟩) hHeld ?_
            (try simp only [Act.put, List.setIfInBounds_toArray, List.set_cons_zero, List.set_cons_succ])
            refine wpAnyH_take (i := 2) (oi := { dst := some 37, op := Op.slice 22 (Operand.tmp 35) none (some (Operand.tmp 36)) none, type := 22, pos := "ref.go:91", after := #[{ on := 0, ground := Ground.data }, { on := 1, ground := Ground.data }], guard := none }) (v := .slice (some ⟨og, ooff, none⟩ : Option Addr) j ocap) rfl (by kernel_rfl) (by kernel_rfl) (by kernel_rfl) (fun _ _ _ h => h) (Or.inl ⟨by rfl, fun w hS => by obtain ⟨s0, s1, _⟩ := hS; go_simp⟩) hHeld ?_
            (try simp only [Act.put, List.setIfInBounds_toArray, List.set_cons_zero, List.set_cons_succ])
            refine wpAnyH_take (i := 4) (oi := { dst := some 39, op := Op.move (Operand.tmp 0), type := 32, pos := "ref.go:91", after := #[], guard := none }) (v := .pointer (some ⟨r, 0, none⟩)) rfl (by kernel_rfl) (by kernel_rfl) (by kernel_rfl) (fun _ _ _ h => h) (Or.inl ⟨by rfl, fun w hS => by obtain ⟨s0, s1, _⟩ := hS; go_simp⟩) hHeld ?_
            (try simp only [Act.put, List.setIfInBounds_toArray, List.set_cons_zero, List.set_cons_succ])
            refine wpAnyH_take (i := 5) (oi := { dst := some 40, op := Op.nilCheck (Operand.tmp 39), type := 0, pos := "ref.go:91", after := #[{ on := 4, ground := Ground.data }], guard := none }) (v := .pointer (some ⟨r, 0, none⟩)) rfl (by kernel_rfl) (by kernel_rfl) (by kernel_rfl) (fun _ _ _ h => h) (Or.inl ⟨by rfl, fun w hS => by obtain ⟨s0, s1, _⟩ := hS; go_simp⟩) hHeld ?_
            (try simp only [Act.put, List.setIfInBounds_toArray, List.set_cons_zero, List.set_cons_succ])
            refine wpAnyH_take (i := 6) (oi := { dst := some 41, op := Op.fieldAddr 34 (Operand.tmp 40) 0, type := 0, pos := "ref.go:91", after := #[{ on := 5, ground := Ground.data }], guard := none }) (v := .pointer (some ⟨r, 0, none⟩)) rfl (by kernel_rfl) (by kernel_rfl) (by kernel_rfl) (fun _ _ _ h => h) (Or.inl ⟨by rfl, fun w hS => by obtain ⟨s0, s1, _⟩ := hS; go_simp⟩) hHeld ?_
            (try simp only [Act.put, List.setIfInBounds_toArray, List.set_cons_zero, List.set_cons_succ])
            refine wpAnyH_take (i := 7) (oi := { dst := some 42, op := Op.load 22 (Operand.tmp 41), type := 22, pos := "ref.go:91", after := #[{ on := 6, ground := Ground.data }], guard := none }) (v := .slice (some ⟨g, off, none⟩) n cap) rfl (by kernel_rfl) (by kernel_rfl) (by kernel_rfl) (fun _ _ _ h => h) (Or.inl ⟨by rfl, fun w hS => by obtain ⟨s0, s1, _⟩ := hS; go_simp⟩) hHeld ?_
            (try simp only [Act.put, List.setIfInBounds_toArray, List.set_cons_zero, List.set_cons_succ])
            refine wpAnyH_take (i := 8) (oi := { dst := some 43, op := Op.move (Operand.tmp 4), type := 3, pos := "ref.go:91", after := #[], guard := none }) (v := .int .i64 (k : Int)) rfl (by kernel_rfl) (by kernel_rfl) (by kernel_rfl) (fun _ _ _ h => h) (Or.inl ⟨by rfl, fun w hS => by obtain ⟨s0, s1, _⟩ := hS; go_simp⟩) hHeld ?_
            (try simp only [Act.put, List.setIfInBounds_toArray, List.set_cons_zero, List.set_cons_succ])
            refine wpAnyH_take (i := 9) (oi := { dst := some 44, op := Op.indexAddr 22 (Operand.tmp 42) (Operand.tmp 43), type := 0, pos := "ref.go:91", after := #[{ on := 7, ground := Ground.data }, { on := 8, ground := Ground.data }], guard := none }) (v := .pointer (some ⟨g, off + k, none⟩)) rfl (by kernel_rfl) (by kernel_rfl) (by kernel_rfl) (fun _ _ _ h => h) (Or.inl ⟨by rfl, fun w hS => by obtain ⟨s0, s1, _⟩ := hS; go_simp⟩) hHeld ?_
            (try simp only [Act.put, List.setIfInBounds_toArray, List.set_cons_zero, List.set_cons_succ])
            refine wpAnyH_take (i := 10) (oi := { dst := some 45, op := Op.load 9 (Operand.tmp 44), type := 9, pos := "ref.go:91", after := #[{ on := 9, ground := Ground.data }], guard := none }) (v := .string x) rfl (by kernel_rfl) (by kernel_rfl) (by kernel_rfl) (fun _ _ _ h => h) (Or.inl ⟨by rfl, fun w hS => by obtain ⟨s0, s1, _⟩ := hS; go_simp⟩) hHeld ?_
            (try simp only [Act.put, List.setIfInBounds_toArray, List.set_cons_zero, List.set_cons_succ])
            refine wpAnyH_take (i := 13) (oi := { dst := some 48, op := Op.move (Operand.tmp 3), type := 22, pos := "ref.go:91", after := #[], guard := none }) (v := .slice (some ⟨og, ooff, none⟩ : Option Addr) z ocap) rfl (by kernel_rfl) (by kernel_rfl) (by kernel_rfl) (fun _ _ _ h => h) (Or.inl ⟨by rfl, fun w hS => by obtain ⟨s0, s1, _⟩ := hS; go_simp⟩) hHeld ?_
            (try simp only [Act.put, List.setIfInBounds_toArray, List.set_cons_zero, List.set_cons_succ])
            refine wpAnyH_take (i := 14) (oi := { dst := some 49, op := Op.move (Operand.tmp 5), type := 3, pos := "ref.go:91", after := #[], guard := none }) (v := .int .i64 (j : Int)) rfl (by kernel_rfl) (by kernel_rfl) (by kernel_rfl) (fun _ _ _ h => h) (Or.inl ⟨by rfl, fun w hS => by obtain ⟨s0, s1, _⟩ := hS; go_simp⟩) hHeld ?_
            (try simp only [Act.put, List.setIfInBounds_toArray, List.set_cons_zero, List.set_cons_succ])
            refine wpAnyH_take (i := 15) (oi := { dst := some 50, op := Op.slice 22 (Operand.tmp 48) (some (Operand.tmp 49)) none none, type := 22, pos := "ref.go:91", after := #[{ on := 13, ground := Ground.data }, { on := 14, ground := Ground.data }], guard := none }) (v := .slice o2 zj cj) rfl (by kernel_rfl) (by kernel_rfl) (by kernel_rfl) (fun _ _ _ h => h) (Or.inl ⟨by rfl, fun w hS => by obtain ⟨s0, s1, _⟩ := hS; go_simp⟩) hHeld ?_
            (try simp only [Act.put, List.setIfInBounds_toArray, List.set_cons_zero, List.set_cons_succ])
            refine wpAnyH_ready (rs := [3, 11]) (by kernel_rfl) (by simp) ?_
            refine AllReadyH.cons (o := { dst := some 38, op := Op.call { callee := Callee.builtin Builtin.append, args := #[Operand.const (Value.slice none 0 0), Operand.tmp 37], argTypes := #[22, 22] }, type := 22, pos := "ref.go:91", after := #[{ on := 2, ground := Ground.data }], guard := none }) rfl (fun K hK => ?_) ?_
            · rw [if_pos (by rfl)]
              have ht3 := appT_run (ownT_nil U wr.heap.size) BU.out.size (front_row (HOR.out.below BU.out) j) (fun e => HSH.out.elim (fun h => h.2) (fun ⟨_, h⟩ => by rw [e] at h; cases h)) (by rw [HTL.out]; simp; omega)
              rw [List.nil_append, HTL.out] at ht3
              obtain ⟨v3, w3, hr3, hown3, hb3, g3⟩ := ht3
              have O3 := Lib.hid hown3
              have B3 := Lib.hid (BU.out.trans hb3)
              obtain ⟨a3, c3, rfl, _⟩ := ownT_row hown3
              rw [HL3.out] at hr3 O3
              refine wp_appT (.const (.slice none 0 0)) (.tmp 37) rfl rfl rfl rfl hr3 ?_
              refine hK.out _ _ (list_keep B3.out c0 ck) (fun hHeld => ?_)
              clear hK K hr3 hown3 hb3
              (try simp only [Act.put, List.setIfInBounds_toArray, List.set_cons_zero, List.set_cons_succ])
              refine wpAnyH_ready (rs := [11]) (by kernel_rfl) (by simp) ?_
              refine AllReadyH.cons (o := { dst := some 46, op := Op.buildSlice 22 1 #[(0, Operand.tmp 45)], type := 22, pos := "ref.go:91", after := #[{ on := 10, ground := Ground.data }], guard := none }) rfl (fun K hK => ?_) AllReadyH.nil
              go_simp
              have B11 := Lib.hid (B3.out.alloc B3.out.size (.cells #[.string x] 9))
              refine hK.out _ _ (list_keep B11.out c0 ck) (fun hHeld => ?_)
              clear hK K
              (try simp only [Act.put, List.setIfInBounds_toArray, List.set_cons_zero, List.set_cons_succ])
              refine wpAnyH_ready (rs := [12]) (by kernel_rfl) (by simp) ?_
              refine AllReadyH.cons (o := { dst := some 47, op := Op.call { callee := Callee.builtin Builtin.append, args := #[Operand.tmp 38, Operand.tmp 46], argTypes := #[22, 22] }, type := 22, pos := "ref.go:91", after := #[{ on := 3, ground := Ground.data }, { on := 11, ground := Ground.data }, { on := 3, ground := Ground.chain }], guard := none }) rfl (fun K hK => ?_) AllReadyH.nil
              rw [if_pos (by rfl)]
              have ht12 := appT_run (cap := 1) (m := [x]) (World.ownsRow.alloc O3.out (.cells #[.string x] 9)) B11.out.size (one_row w3 x) (fun e => by cases e) (by rw [HTL.out]; simp; omega)
              obtain ⟨v12, w12, hr12, hown12, hb12, g12⟩ := ht12
              have O12 := Lib.hid hown12
              have B12 := Lib.hid (B11.out.trans hb12)
              obtain ⟨a12, c12, rfl, _⟩ := ownT_row hown12
              rw [HL12.out] at hr12 O12
              refine wp_appT (.tmp 38) (.tmp 46) rfl rfl rfl rfl hr12 ?_
              refine hK.out _ _ (list_keep B12.out c0 ck) (fun hHeld => ?_)
              clear hK K hr12 hown12 hb12
              (try simp only [Act.put, List.setIfInBounds_toArray, List.set_cons_zero, List.set_cons_succ])
              refine wpAnyH_ready (rs := [16]) (by kernel_rfl) (by simp) ?_
              refine AllReadyH.cons (o := { dst := some 51, op := Op.call { callee := Callee.builtin Builtin.append, args := #[Operand.tmp 47, Operand.tmp 50], argTypes := #[22, 22] }, type := 22, pos := "ref.go:91", after := #[{ on := 12, ground := Ground.data }, { on := 15, ground := Ground.data }, { on := 12, ground := Ground.chain }], guard := none }) rfl (fun K hK => ?_) AllReadyH.nil
              rw [if_pos (by rfl)]
              have ht16 := appT_run O12.out B12.out.size (HRR.out _ (HOR.out.below B12.out)) HN2.out (by rw [HL12.out, HDL.out]; have := HZJ.out; omega)
              rw [HDL.out] at ht16
              obtain ⟨v16, w16, hr16, hown16, hb16, g16⟩ := ht16
              have O16 := Lib.hid hown16
              have B16 := Lib.hid (B12.out.trans hb16)
              obtain ⟨a16, c16, rfl, _⟩ := ownT_row hown16
              rw [HL16.out] at hr16 O16
              refine wp_appT (.tmp 47) (.tmp 50) rfl rfl rfl rfl hr16 ?_
              refine hK.out _ _ (list_keep B16.out c0 ck) (fun hHeld => ?_)
              clear hK K hr16 hown16 hb16
              (try simp only [Act.put, List.setIfInBounds_toArray, List.set_cons_zero, List.set_cons_succ])
              refine wpAnyH_take (i := 17) (oi := { dst := some 3, op := Op.assign (Operand.tmp 51), type := 22, pos := "ref.go:91", after := #[{ on := 16, ground := Ground.data }, { on := 16, ground := Ground.chain }, { on := 0, ground := Ground.phase }, { on := 1, ground := Ground.phase }, { on := 2, ground := Ground.phase }, { on := 3, ground := Ground.phase }, { on := 4, ground := Ground.phase }, { on := 5, ground := Ground.phase }, { on := 6, ground := Ground.phase }, { on := 7, ground := Ground.phase }, { on := 8, ground := Ground.phase }, { on := 9, ground := Ground.phase }, { on := 10, ground := Ground.phase }, { on := 11, ground := Ground.phase }, { on := 12, ground := Ground.phase }, { on := 13, ground := Ground.phase }, { on := 14, ground := Ground.phase }, { on := 15, ground := Ground.phase }, { on := 16, ground := Ground.phase }], guard := none }) (v := .slice a16 (z + 1) c16) rfl (by kernel_rfl) (by kernel_rfl) (by kernel_rfl) (fun _ _ _ h => h) (Or.inl ⟨by rfl, fun w hS => by go_simp⟩) hHeld ?_
              (try simp only [Act.put, List.setIfInBounds_toArray, List.set_cons_zero, List.set_cons_succ])
              refine wpAnyH_done (by kernel_rfl) ?_ _
              obtain ⟨r1, r2, r3⟩ := HFIN.out _ _ O16.out B16.out
              have R1 := Lib.hid r1
              have R2 := Lib.hid r2
              have R3 := Lib.hid r3
              clear r1 r2 r3 hHeld c0 ck KF KR
              go_wp2_with fail
              go_roundw
              case rel => exact ⟨k + 1, O.take j ++ [x] ++ O.drop j, by go_num, by omega, R1, R2, R3⟩
              case measure => simp [intOf]; omega
            refine AllReadyH.cons (o := { dst := some 46, op := Op.buildSlice 22 1 #[(0, Operand.tmp 45)], type := 22, pos := "ref.go:91", after := #[{ on := 10, ground := Ground.data }], guard := none }) rfl (fun K hK => ?_) AllReadyH.nil
            · go_simp
              have B11 := Lib.hid (BU.out.alloc BU.out.size (.cells #[.string x] 9))
              have R11 := Lib.hid (one_row U x)
              refine hK.out _ _ (list_keep B11.out c0 ck) (fun hHeld => ?_)
              clear hK K
              (try simp only [Act.put, List.setIfInBounds_toArray, List.set_cons_zero, List.set_cons_succ])
              refine wpAnyH_ready (rs := [3]) (by kernel_rfl) (by simp) ?_
              refine AllReadyH.cons (o := { dst := some 38, op := Op.call { callee := Callee.builtin Builtin.append, args := #[Operand.const (Value.slice none 0 0), Operand.tmp 37], argTypes := #[22, 22] }, type := 22, pos := "ref.go:91", after := #[{ on := 2, ground := Ground.data }], guard := none }) rfl (fun K hK => ?_) AllReadyH.nil
              rw [if_pos (by rfl)]
              have ht3 := appT_run (ownT_nil _ wr.heap.size) B11.out.size (front_row (HOR.out.below B11.out) j) (fun e => HSH.out.elim (fun h => h.2) (fun ⟨_, h⟩ => by rw [e] at h; cases h)) (by rw [HTL.out]; simp; omega)
              rw [List.nil_append, HTL.out] at ht3
              obtain ⟨v3, w3, hr3, hown3, hb3, g3⟩ := ht3
              have O3 := Lib.hid hown3
              have B3 := Lib.hid (B11.out.trans hb3)
              obtain ⟨a3, c3, rfl, _⟩ := ownT_row hown3
              rw [HL3.out] at hr3 O3
              refine wp_appT (.const (.slice none 0 0)) (.tmp 37) rfl rfl rfl rfl hr3 ?_
              refine hK.out _ _ (list_keep B3.out c0 ck) (fun hHeld => ?_)
              clear hK K hr3 hown3 hb3
              (try simp only [Act.put, List.setIfInBounds_toArray, List.set_cons_zero, List.set_cons_succ])
              refine wpAnyH_ready (rs := [12]) (by kernel_rfl) (by simp) ?_
              refine AllReadyH.cons (o := { dst := some 47, op := Op.call { callee := Callee.builtin Builtin.append, args := #[Operand.tmp 38, Operand.tmp 46], argTypes := #[22, 22] }, type := 22, pos := "ref.go:91", after := #[{ on := 3, ground := Ground.data }, { on := 11, ground := Ground.data }, { on := 3, ground := Ground.chain }], guard := none }) rfl (fun K hK => ?_) AllReadyH.nil
              rw [if_pos (by rfl)]
              have ht12 := appT_run (cap := 1) (m := [x]) O3.out B3.out.size (R11.out.grown g3 (fun b off e hb => by cases hb)) (fun e => by cases e) (by rw [HTL.out]; simp; omega)
              obtain ⟨v12, w12, hr12, hown12, hb12, g12⟩ := ht12
              have O12 := Lib.hid hown12
              have B12 := Lib.hid (B3.out.trans hb12)
              obtain ⟨a12, c12, rfl, _⟩ := ownT_row hown12
              rw [HL12.out] at hr12 O12
              refine wp_appT (.tmp 38) (.tmp 46) rfl rfl rfl rfl hr12 ?_
              refine hK.out _ _ (list_keep B12.out c0 ck) (fun hHeld => ?_)
              clear hK K hr12 hown12 hb12
              (try simp only [Act.put, List.setIfInBounds_toArray, List.set_cons_zero, List.set_cons_succ])
              refine wpAnyH_ready (rs := [16]) (by kernel_rfl) (by simp) ?_
              refine AllReadyH.cons (o := { dst := some 51, op := Op.call { callee := Callee.builtin Builtin.append, args := #[Operand.tmp 47, Operand.tmp 50], argTypes := #[22, 22] }, type := 22, pos := "ref.go:91", after := #[{ on := 12, ground := Ground.data }, { on := 15, ground := Ground.data }, { on := 12, ground := Ground.chain }], guard := none }) rfl (fun K hK => ?_) AllReadyH.nil
              rw [if_pos (by rfl)]
              have ht16 := appT_run O12.out B12.out.size (HRR.out _ (HOR.out.below B12.out)) HN2.out (by rw [HL12.out, HDL.out]; have := HZJ.out; omega)
              rw [HDL.out] at ht16
              obtain ⟨v16, w16, hr16, hown16, hb16, g16⟩ := ht16
              have O16 := Lib.hid hown16
              have B16 := Lib.hid (B12.out.trans hb16)
              obtain ⟨a16, c16, rfl, _⟩ := ownT_row hown16
              rw [HL16.out] at hr16 O16
              refine wp_appT (.tmp 47) (.tmp 50) rfl rfl rfl rfl hr16 ?_
              refine hK.out _ _ (list_keep B16.out c0 ck) (fun hHeld => ?_)
              clear hK K hr16 hown16 hb16
              (try simp only [Act.put, List.setIfInBounds_toArray, List.set_cons_zero, List.set_cons_succ])
              refine wpAnyH_take (i := 17) (oi := { dst := some 3, op := Op.assign (Operand.tmp 51), type := 22, pos := "ref.go:91", after := #[{ on := 16, ground := Ground.data }, { on := 16, ground := Ground.chain }, { on := 0, ground := Ground.phase }, { on := 1, ground := Ground.phase }, { on := 2, ground := Ground.phase }, { on := 3, ground := Ground.phase }, { on := 4, ground := Ground.phase }, { on := 5, ground := Ground.phase }, { on := 6, ground := Ground.phase }, { on := 7, ground := Ground.phase }, { on := 8, ground := Ground.phase }, { on := 9, ground := Ground.phase }, { on := 10, ground := Ground.phase }, { on := 11, ground := Ground.phase }, { on := 12, ground := Ground.phase }, { on := 13, ground := Ground.phase }, { on := 14, ground := Ground.phase }, { on := 15, ground := Ground.phase }, { on := 16, ground := Ground.phase }], guard := none }) (v := .slice a16 (z + 1) c16) rfl (by kernel_rfl) (by kernel_rfl) (by kernel_rfl) (fun _ _ _ h => h) (Or.inl ⟨by rfl, fun w hS => by go_simp⟩) hHeld ?_
              (try simp only [Act.put, List.setIfInBounds_toArray, List.set_cons_zero, List.set_cons_succ])
              refine wpAnyH_done (by kernel_rfl) ?_ _
              obtain ⟨r1, r2, r3⟩ := HFIN.out _ _ O16.out B16.out
              have R1 := Lib.hid r1
              have R2 := Lib.hid r2
              have R3 := Lib.hid r3
              clear r1 r2 r3 hHeld c0 ck KF KR
              go_wp2_with fail
              go_roundw
              case rel => exact ⟨k + 1, O.take j ++ [x] ++ O.drop j, by go_num, by omega, R1, R2, R3⟩
              case measure => simp [intOf]; omega
        · obtain rfl : j = z := by omega
          have HAT : Hid (at10 (O.map bl) (bl x) = j) := Lib.hid (by rw [HAE.out (fun i hi => hall.out i hi (by rw [HZ.out]; exact hi)), ← HZ.out])
          clear HAE HA hj
          go_wp2_with fail
          go_quiet (fail)
          go_wp2_with fail
          have KF := cut_front oo j ocap j HSH.out (by omega)
          have KR := cut_rest oo j ocap j (by omega)
          have hN2 := rest_none (j := j) HSH.out
          have hRR := fun V (hV : TxtRow V oo O) => rest_row hV HSH.out (by rw [← HZ.out]; exact hocap) j
          obtain ⟨o2, ho2⟩ : ∃ o2 : Option Addr, o2 = (if ocap = j then oo else oo.map (·.add j)) := ⟨_, rfl⟩
          obtain ⟨zj, hzj⟩ : ∃ zj, zj = j - j := ⟨_, rfl⟩
          obtain ⟨cj, hcj⟩ : ∃ cj, cj = ocap - j := ⟨_, rfl⟩
          rw [← ho2, ← hzj, ← hcj] at KR
          rw [← ho2, ← hcj] at hN2
          rw [← ho2] at hRR
          have HN2 := Lib.hid hN2
          have HRR := Lib.hid hRR
          have HTL : Hid ((O.take j).length = j) := Lib.hid (by rw [List.length_take, ← HZ.out]; exact Nat.min_eq_left hjz)
          have HDL : Hid ((O.drop j).length = zj) := Lib.hid (by rw [List.length_drop, ← HZ.out]; exact hzj.symm)
          have HZJ : Hid (zj ≤ 2048) := Lib.hid (by rw [hzj]; omega)
          have HL3 := HTL
          have HL12 : Hid ((O.take j ++ [x]).length = j + 1) := Lib.hid (by rw [List.length_append, HTL.out]; rfl)
          have HL16 : Hid ((O.take j ++ [x] ++ O.drop j).length = j + 1) := Lib.hid (by rw [List.length_append, HL12.out, HDL.out]; omega)
          have HFIN : Hid (∀ v6 w6, OwnT w6 wr.heap.size v6 (O.take j ++ [x] ++ O.drop j) → Below wr.heap.size wr w6 → OwnT w6 w.heap.size v6 (O.take j ++ [x] ++ O.drop j) ∧ (O.take j ++ [x] ++ O.drop j).map bl = sort10 ((L.map bl).take (k + 1)) ∧ Below w.heap.size w w6) := Lib.hid (fun v6 w6 h1 h2 => ⟨own_low10 hb.out.size h1, by rw [HSK.out, ins10, HAT.out]; simp, below_step hb.out h2⟩)
          clear hN2 hRR ho2 hcj hjz hocap hzj
          refine wp_region_U (S := fun W => W.cell? ⟨r, 0, none⟩ = some (.slice (some ⟨g, off, none⟩) n cap) ∧ W.cell? ⟨g, off + k, none⟩ = some (.string x) ∧ Hid (Below wr.heap.size wr W)) (by kernel_rfl) ⟨c0, ck, Lib.hid (below_drewN (below_drewN (below_drewN (Below.refl _ _) _) _) 1)⟩ (fun U hHeld => ?_)
          have BU := Lib.hid hHeld.2.2.out
          refine wpAnyH_take (i := 0) (oi := { dst := some 35, op := Op.move (Operand.tmp 3), type := 22, pos := "ref.go:91", after := #[], guard := none }) (v := .slice oo j ocap) rfl (by kernel_rfl) (by kernel_rfl) (by kernel_rfl) (fun _ _ _ h => h) (Or.inl ⟨by rfl, fun w hS => by obtain ⟨s0, s1, _⟩ := hS; go_simp⟩) hHeld ?_
          (try simp only [Act.put, List.setIfInBounds_toArray, List.set_cons_zero, List.set_cons_succ])
          refine wpAnyH_take (i := 1) (oi := { dst := some 36, op := Op.move (Operand.tmp 5), type := 3, pos := "ref.go:91", after := #[], guard := none }) (v := .int .i64 (j : Int)) rfl (by kernel_rfl) (by kernel_rfl) (by kernel_rfl) (fun _ _ _ h => h) (Or.inl ⟨by rfl, fun w hS => by obtain ⟨s0, s1, _⟩ := hS; go_simp⟩) hHeld ?_
          (try simp only [Act.put, List.setIfInBounds_toArray, List.set_cons_zero, List.set_cons_succ])
          refine wpAnyH_take (i := 2) (oi := { dst := some 37, op := Op.slice 22 (Operand.tmp 35) none (some (Operand.tmp 36)) none, type := 22, pos := "ref.go:91", after := #[{ on := 0, ground := Ground.data }, { on := 1, ground := Ground.data }], guard := none }) (v := .slice oo j ocap) rfl (by kernel_rfl) (by kernel_rfl) (by kernel_rfl) (fun _ _ _ h => h) (Or.inl ⟨by rfl, fun w hS => by obtain ⟨s0, s1, _⟩ := hS; go_simp⟩) hHeld ?_
          (try simp only [Act.put, List.setIfInBounds_toArray, List.set_cons_zero, List.set_cons_succ])
          refine wpAnyH_take (i := 4) (oi := { dst := some 39, op := Op.move (Operand.tmp 0), type := 32, pos := "ref.go:91", after := #[], guard := none }) (v := .pointer (some ⟨r, 0, none⟩)) rfl (by kernel_rfl) (by kernel_rfl) (by kernel_rfl) (fun _ _ _ h => h) (Or.inl ⟨by rfl, fun w hS => by obtain ⟨s0, s1, _⟩ := hS; go_simp⟩) hHeld ?_
          (try simp only [Act.put, List.setIfInBounds_toArray, List.set_cons_zero, List.set_cons_succ])
          refine wpAnyH_take (i := 5) (oi := { dst := some 40, op := Op.nilCheck (Operand.tmp 39), type := 0, pos := "ref.go:91", after := #[{ on := 4, ground := Ground.data }], guard := none }) (v := .pointer (some ⟨r, 0, none⟩)) rfl (by kernel_rfl) (by kernel_rfl) (by kernel_rfl) (fun _ _ _ h => h) (Or.inl ⟨by rfl, fun w hS => by obtain ⟨s0, s1, _⟩ := hS; go_simp⟩) hHeld ?_
          (try simp only [Act.put, List.setIfInBounds_toArray, List.set_cons_zero, List.set_cons_succ])
          refine wpAnyH_take (i := 6) (oi := { dst := some 41, op := Op.fieldAddr 34 (Operand.tmp 40) 0, type := 0, pos := "ref.go:91", after := #[{ on := 5, ground := Ground.data }], guard := none }) (v := .pointer (some ⟨r, 0, none⟩)) rfl (by kernel_rfl) (by kernel_rfl) (by kernel_rfl) (fun _ _ _ h => h) (Or.inl ⟨by rfl, fun w hS => by obtain ⟨s0, s1, _⟩ := hS; go_simp⟩) hHeld ?_
          (try simp only [Act.put, List.setIfInBounds_toArray, List.set_cons_zero, List.set_cons_succ])
          refine wpAnyH_take (i := 7) (oi := { dst := some 42, op := Op.load 22 (Operand.tmp 41), type := 22, pos := "ref.go:91", after := #[{ on := 6, ground := Ground.data }], guard := none }) (v := .slice (some ⟨g, off, none⟩) n cap) rfl (by kernel_rfl) (by kernel_rfl) (by kernel_rfl) (fun _ _ _ h => h) (Or.inl ⟨by rfl, fun w hS => by obtain ⟨s0, s1, _⟩ := hS; go_simp⟩) hHeld ?_
          (try simp only [Act.put, List.setIfInBounds_toArray, List.set_cons_zero, List.set_cons_succ])
          refine wpAnyH_take (i := 8) (oi := { dst := some 43, op := Op.move (Operand.tmp 4), type := 3, pos := "ref.go:91", after := #[], guard := none }) (v := .int .i64 (k : Int)) rfl (by kernel_rfl) (by kernel_rfl) (by kernel_rfl) (fun _ _ _ h => h) (Or.inl ⟨by rfl, fun w hS => by obtain ⟨s0, s1, _⟩ := hS; go_simp⟩) hHeld ?_
          (try simp only [Act.put, List.setIfInBounds_toArray, List.set_cons_zero, List.set_cons_succ])
          refine wpAnyH_take (i := 9) (oi := { dst := some 44, op := Op.indexAddr 22 (Operand.tmp 42) (Operand.tmp 43), type := 0, pos := "ref.go:91", after := #[{ on := 7, ground := Ground.data }, { on := 8, ground := Ground.data }], guard := none }) (v := .pointer (some ⟨g, off + k, none⟩)) rfl (by kernel_rfl) (by kernel_rfl) (by kernel_rfl) (fun _ _ _ h => h) (Or.inl ⟨by rfl, fun w hS => by obtain ⟨s0, s1, _⟩ := hS; go_simp⟩) hHeld ?_
          (try simp only [Act.put, List.setIfInBounds_toArray, List.set_cons_zero, List.set_cons_succ])
          refine wpAnyH_take (i := 10) (oi := { dst := some 45, op := Op.load 9 (Operand.tmp 44), type := 9, pos := "ref.go:91", after := #[{ on := 9, ground := Ground.data }], guard := none }) (v := .string x) rfl (by kernel_rfl) (by kernel_rfl) (by kernel_rfl) (fun _ _ _ h => h) (Or.inl ⟨by rfl, fun w hS => by obtain ⟨s0, s1, _⟩ := hS; go_simp⟩) hHeld ?_
          (try simp only [Act.put, List.setIfInBounds_toArray, List.set_cons_zero, List.set_cons_succ])
          refine wpAnyH_take (i := 13) (oi := { dst := some 48, op := Op.move (Operand.tmp 3), type := 22, pos := "ref.go:91", after := #[], guard := none }) (v := .slice oo j ocap) rfl (by kernel_rfl) (by kernel_rfl) (by kernel_rfl) (fun _ _ _ h => h) (Or.inl ⟨by rfl, fun w hS => by obtain ⟨s0, s1, _⟩ := hS; go_simp⟩) hHeld ?_
          (try simp only [Act.put, List.setIfInBounds_toArray, List.set_cons_zero, List.set_cons_succ])
          refine wpAnyH_take (i := 14) (oi := { dst := some 49, op := Op.move (Operand.tmp 5), type := 3, pos := "ref.go:91", after := #[], guard := none }) (v := .int .i64 (j : Int)) rfl (by kernel_rfl) (by kernel_rfl) (by kernel_rfl) (fun _ _ _ h => h) (Or.inl ⟨by rfl, fun w hS => by obtain ⟨s0, s1, _⟩ := hS; go_simp⟩) hHeld ?_
          (try simp only [Act.put, List.setIfInBounds_toArray, List.set_cons_zero, List.set_cons_succ])
          refine wpAnyH_take (i := 15) (oi := { dst := some 50, op := Op.slice 22 (Operand.tmp 48) (some (Operand.tmp 49)) none none, type := 22, pos := "ref.go:91", after := #[{ on := 13, ground := Ground.data }, { on := 14, ground := Ground.data }], guard := none }) (v := .slice o2 zj cj) rfl (by kernel_rfl) (by kernel_rfl) (by kernel_rfl) (fun _ _ _ h => h) (Or.inl ⟨by rfl, fun w hS => by obtain ⟨s0, s1, _⟩ := hS; go_simp⟩) hHeld ?_
          (try simp only [Act.put, List.setIfInBounds_toArray, List.set_cons_zero, List.set_cons_succ])
          refine wpAnyH_ready (rs := [3, 11]) (by kernel_rfl) (by simp) ?_
          refine AllReadyH.cons (o := { dst := some 38, op := Op.call { callee := Callee.builtin Builtin.append, args := #[Operand.const (Value.slice none 0 0), Operand.tmp 37], argTypes := #[22, 22] }, type := 22, pos := "ref.go:91", after := #[{ on := 2, ground := Ground.data }], guard := none }) rfl (fun K hK => ?_) ?_
          · rw [if_pos (by rfl)]
            have ht3 := appT_run (ownT_nil U wr.heap.size) BU.out.size (front_row (HOR.out.below BU.out) j) (fun e => HSH.out.elim (fun h => h.2) (fun ⟨_, h⟩ => by rw [e] at h; cases h)) (by rw [HTL.out]; simp; omega)
            rw [List.nil_append, HTL.out] at ht3
            obtain ⟨v3, w3, hr3, hown3, hb3, g3⟩ := ht3
            have O3 := Lib.hid hown3
            have B3 := Lib.hid (BU.out.trans hb3)
            obtain ⟨a3, c3, rfl, _⟩ := ownT_row hown3
            rw [HL3.out] at hr3 O3
            refine wp_appT (.const (.slice none 0 0)) (.tmp 37) rfl rfl rfl rfl hr3 ?_
            refine hK.out _ _ (list_keep B3.out c0 ck) (fun hHeld => ?_)
            clear hK K hr3 hown3 hb3
            (try simp only [Act.put, List.setIfInBounds_toArray, List.set_cons_zero, List.set_cons_succ])
            refine wpAnyH_ready (rs := [11]) (by kernel_rfl) (by simp) ?_
            refine AllReadyH.cons (o := { dst := some 46, op := Op.buildSlice 22 1 #[(0, Operand.tmp 45)], type := 22, pos := "ref.go:91", after := #[{ on := 10, ground := Ground.data }], guard := none }) rfl (fun K hK => ?_) AllReadyH.nil
            go_simp
            have B11 := Lib.hid (B3.out.alloc B3.out.size (.cells #[.string x] 9))
            refine hK.out _ _ (list_keep B11.out c0 ck) (fun hHeld => ?_)
            clear hK K
            (try simp only [Act.put, List.setIfInBounds_toArray, List.set_cons_zero, List.set_cons_succ])
            refine wpAnyH_ready (rs := [12]) (by kernel_rfl) (by simp) ?_
            refine AllReadyH.cons (o := { dst := some 47, op := Op.call { callee := Callee.builtin Builtin.append, args := #[Operand.tmp 38, Operand.tmp 46], argTypes := #[22, 22] }, type := 22, pos := "ref.go:91", after := #[{ on := 3, ground := Ground.data }, { on := 11, ground := Ground.data }, { on := 3, ground := Ground.chain }], guard := none }) rfl (fun K hK => ?_) AllReadyH.nil
            rw [if_pos (by rfl)]
            have ht12 := appT_run (cap := 1) (m := [x]) (World.ownsRow.alloc O3.out (.cells #[.string x] 9)) B11.out.size (one_row w3 x) (fun e => by cases e) (by rw [HTL.out]; simp; omega)
            obtain ⟨v12, w12, hr12, hown12, hb12, g12⟩ := ht12
            have O12 := Lib.hid hown12
            have B12 := Lib.hid (B11.out.trans hb12)
            obtain ⟨a12, c12, rfl, _⟩ := ownT_row hown12
            rw [HL12.out] at hr12 O12
            refine wp_appT (.tmp 38) (.tmp 46) rfl rfl rfl rfl hr12 ?_
            refine hK.out _ _ (list_keep B12.out c0 ck) (fun hHeld => ?_)
            clear hK K hr12 hown12 hb12
            (try simp only [Act.put, List.setIfInBounds_toArray, List.set_cons_zero, List.set_cons_succ])
            refine wpAnyH_ready (rs := [16]) (by kernel_rfl) (by simp) ?_
            refine AllReadyH.cons (o := { dst := some 51, op := Op.call { callee := Callee.builtin Builtin.append, args := #[Operand.tmp 47, Operand.tmp 50], argTypes := #[22, 22] }, type := 22, pos := "ref.go:91", after := #[{ on := 12, ground := Ground.data }, { on := 15, ground := Ground.data }, { on := 12, ground := Ground.chain }], guard := none }) rfl (fun K hK => ?_) AllReadyH.nil
            rw [if_pos (by rfl)]
            have ht16 := appT_run O12.out B12.out.size (HRR.out _ (HOR.out.below B12.out)) HN2.out (by rw [HL12.out, HDL.out]; have := HZJ.out; omega)
            rw [HDL.out] at ht16
            obtain ⟨v16, w16, hr16, hown16, hb16, g16⟩ := ht16
            have O16 := Lib.hid hown16
            have B16 := Lib.hid (B12.out.trans hb16)
            obtain ⟨a16, c16, rfl, _⟩ := ownT_row hown16
            rw [HL16.out] at hr16 O16
            refine wp_appT (.tmp 47) (.tmp 50) rfl rfl rfl rfl hr16 ?_
            refine hK.out _ _ (list_keep B16.out c0 ck) (fun hHeld => ?_)
            clear hK K hr16 hown16 hb16
            (try simp only [Act.put, List.setIfInBounds_toArray, List.set_cons_zero, List.set_cons_succ])
            refine wpAnyH_take (i := 17) (oi := { dst := some 3, op := Op.assign (Operand.tmp 51), type := 22, pos := "ref.go:91", after := #[{ on := 16, ground := Ground.data }, { on := 16, ground := Ground.chain }, { on := 0, ground := Ground.phase }, { on := 1, ground := Ground.phase }, { on := 2, ground := Ground.phase }, { on := 3, ground := Ground.phase }, { on := 4, ground := Ground.phase }, { on := 5, ground := Ground.phase }, { on := 6, ground := Ground.phase }, { on := 7, ground := Ground.phase }, { on := 8, ground := Ground.phase }, { on := 9, ground := Ground.phase }, { on := 10, ground := Ground.phase }, { on := 11, ground := Ground.phase }, { on := 12, ground := Ground.phase }, { on := 13, ground := Ground.phase }, { on := 14, ground := Ground.phase }, { on := 15, ground := Ground.phase }, { on := 16, ground := Ground.phase }], guard := none }) (v := .slice a16 (j + 1) c16) rfl (by kernel_rfl) (by kernel_rfl) (by kernel_rfl) (fun _ _ _ h => h) (Or.inl ⟨by rfl, fun w hS => by go_simp⟩) hHeld ?_
            (try simp only [Act.put, List.setIfInBounds_toArray, List.set_cons_zero, List.set_cons_succ])
            refine wpAnyH_done (by kernel_rfl) ?_ _
            obtain ⟨r1, r2, r3⟩ := HFIN.out _ _ O16.out B16.out
            have R1 := Lib.hid r1
            have R2 := Lib.hid r2
            have R3 := Lib.hid r3
            clear r1 r2 r3 hHeld c0 ck KF KR
            go_wp2_with fail
            go_roundw
            case rel => exact ⟨k + 1, O.take j ++ [x] ++ O.drop j, by go_num, by omega, R1, R2, R3⟩
            case measure => simp [intOf]; omega
          refine AllReadyH.cons (o := { dst := some 46, op := Op.buildSlice 22 1 #[(0, Operand.tmp 45)], type := 22, pos := "ref.go:91", after := #[{ on := 10, ground := Ground.data }], guard := none }) rfl (fun K hK => ?_) AllReadyH.nil
          · go_simp
            have B11 := Lib.hid (BU.out.alloc BU.out.size (.cells #[.string x] 9))
            have R11 := Lib.hid (one_row U x)
            refine hK.out _ _ (list_keep B11.out c0 ck) (fun hHeld => ?_)
            clear hK K
            (try simp only [Act.put, List.setIfInBounds_toArray, List.set_cons_zero, List.set_cons_succ])
            refine wpAnyH_ready (rs := [3]) (by kernel_rfl) (by simp) ?_
            refine AllReadyH.cons (o := { dst := some 38, op := Op.call { callee := Callee.builtin Builtin.append, args := #[Operand.const (Value.slice none 0 0), Operand.tmp 37], argTypes := #[22, 22] }, type := 22, pos := "ref.go:91", after := #[{ on := 2, ground := Ground.data }], guard := none }) rfl (fun K hK => ?_) AllReadyH.nil
            rw [if_pos (by rfl)]
            have ht3 := appT_run (ownT_nil _ wr.heap.size) B11.out.size (front_row (HOR.out.below B11.out) j) (fun e => HSH.out.elim (fun h => h.2) (fun ⟨_, h⟩ => by rw [e] at h; cases h)) (by rw [HTL.out]; simp; omega)
            rw [List.nil_append, HTL.out] at ht3
            obtain ⟨v3, w3, hr3, hown3, hb3, g3⟩ := ht3
            have O3 := Lib.hid hown3
            have B3 := Lib.hid (B11.out.trans hb3)
            obtain ⟨a3, c3, rfl, _⟩ := ownT_row hown3
            rw [HL3.out] at hr3 O3
            refine wp_appT (.const (.slice none 0 0)) (.tmp 37) rfl rfl rfl rfl hr3 ?_
            refine hK.out _ _ (list_keep B3.out c0 ck) (fun hHeld => ?_)
            clear hK K hr3 hown3 hb3
            (try simp only [Act.put, List.setIfInBounds_toArray, List.set_cons_zero, List.set_cons_succ])
            refine wpAnyH_ready (rs := [12]) (by kernel_rfl) (by simp) ?_
            refine AllReadyH.cons (o := { dst := some 47, op := Op.call { callee := Callee.builtin Builtin.append, args := #[Operand.tmp 38, Operand.tmp 46], argTypes := #[22, 22] }, type := 22, pos := "ref.go:91", after := #[{ on := 3, ground := Ground.data }, { on := 11, ground := Ground.data }, { on := 3, ground := Ground.chain }], guard := none }) rfl (fun K hK => ?_) AllReadyH.nil
            rw [if_pos (by rfl)]
            have ht12 := appT_run (cap := 1) (m := [x]) O3.out B3.out.size (R11.out.grown g3 (fun b off e hb => by cases hb)) (fun e => by cases e) (by rw [HTL.out]; simp; omega)
            obtain ⟨v12, w12, hr12, hown12, hb12, g12⟩ := ht12
            have O12 := Lib.hid hown12
            have B12 := Lib.hid (B3.out.trans hb12)
            obtain ⟨a12, c12, rfl, _⟩ := ownT_row hown12
            rw [HL12.out] at hr12 O12
            refine wp_appT (.tmp 38) (.tmp 46) rfl rfl rfl rfl hr12 ?_
            refine hK.out _ _ (list_keep B12.out c0 ck) (fun hHeld => ?_)
            clear hK K hr12 hown12 hb12
            (try simp only [Act.put, List.setIfInBounds_toArray, List.set_cons_zero, List.set_cons_succ])
            refine wpAnyH_ready (rs := [16]) (by kernel_rfl) (by simp) ?_
            refine AllReadyH.cons (o := { dst := some 51, op := Op.call { callee := Callee.builtin Builtin.append, args := #[Operand.tmp 47, Operand.tmp 50], argTypes := #[22, 22] }, type := 22, pos := "ref.go:91", after := #[{ on := 12, ground := Ground.data }, { on := 15, ground := Ground.data }, { on := 12, ground := Ground.chain }], guard := none }) rfl (fun K hK => ?_) AllReadyH.nil
            rw [if_pos (by rfl)]
            have ht16 := appT_run O12.out B12.out.size (HRR.out _ (HOR.out.below B12.out)) HN2.out (by rw [HL12.out, HDL.out]; have := HZJ.out; omega)
            rw [HDL.out] at ht16
            obtain ⟨v16, w16, hr16, hown16, hb16, g16⟩ := ht16
            have O16 := Lib.hid hown16
            have B16 := Lib.hid (B12.out.trans hb16)
            obtain ⟨a16, c16, rfl, _⟩ := ownT_row hown16
            rw [HL16.out] at hr16 O16
            refine wp_appT (.tmp 47) (.tmp 50) rfl rfl rfl rfl hr16 ?_
            refine hK.out _ _ (list_keep B16.out c0 ck) (fun hHeld => ?_)
            clear hK K hr16 hown16 hb16
            (try simp only [Act.put, List.setIfInBounds_toArray, List.set_cons_zero, List.set_cons_succ])
            refine wpAnyH_take (i := 17) (oi := { dst := some 3, op := Op.assign (Operand.tmp 51), type := 22, pos := "ref.go:91", after := #[{ on := 16, ground := Ground.data }, { on := 16, ground := Ground.chain }, { on := 0, ground := Ground.phase }, { on := 1, ground := Ground.phase }, { on := 2, ground := Ground.phase }, { on := 3, ground := Ground.phase }, { on := 4, ground := Ground.phase }, { on := 5, ground := Ground.phase }, { on := 6, ground := Ground.phase }, { on := 7, ground := Ground.phase }, { on := 8, ground := Ground.phase }, { on := 9, ground := Ground.phase }, { on := 10, ground := Ground.phase }, { on := 11, ground := Ground.phase }, { on := 12, ground := Ground.phase }, { on := 13, ground := Ground.phase }, { on := 14, ground := Ground.phase }, { on := 15, ground := Ground.phase }, { on := 16, ground := Ground.phase }], guard := none }) (v := .slice a16 (j + 1) c16) rfl (by kernel_rfl) (by kernel_rfl) (by kernel_rfl) (fun _ _ _ h => h) (Or.inl ⟨by rfl, fun w hS => by go_simp⟩) hHeld ?_
            (try simp only [Act.put, List.setIfInBounds_toArray, List.set_cons_zero, List.set_cons_succ])
            refine wpAnyH_done (by kernel_rfl) ?_ _
            obtain ⟨r1, r2, r3⟩ := HFIN.out _ _ O16.out B16.out
            have R1 := Lib.hid r1
            have R2 := Lib.hid r2
            have R3 := Lib.hid r3
            clear r1 r2 r3 hHeld c0 ck KF KR
            go_wp2_with fail
            go_roundw
            case rel => exact ⟨k + 1, O.take j ++ [x] ++ O.drop j, by go_num, by omega, R1, R2, R3⟩
            case measure => simp [intOf]; omega
    · obtain rfl : k = n := by omega
      have HE : Hid (SortK H (O.map bl)) := Lib.hid (by
        rw [hO.out, List.take_of_length_le (by rw [List.length_map, HN.out]; exact Nat.le_refl _)]
        exact HEND.out)
      clear hk hkn
      go_wp2_with fail
      go_ret
      exact ⟨⟨_, O, rfl, hown.out, HE.out⟩, hb.out⟩
end Go.Proofs.YtkebfabmcajbmaaGreat.Pl
