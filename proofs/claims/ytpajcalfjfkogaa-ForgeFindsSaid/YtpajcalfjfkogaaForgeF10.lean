/- What the document's step of layer 11 answers, where the fields may be: macs, seals. -/
import Derived.Test.YtpajcalfjfkogaaForgeF8
import Derived.Deep.RegionHeld3
namespace Go.Proofs.Ytpajcalfjfkogaa.Pl
open Go.RowKit

theorem drew11 (w : World) : Below w.heap.size w w.drew := (Below.refl _ _).drew

set_option maxHeartbeats 4000000 in
set_option maxRecDepth 100000 in
theorem rstep11_mac (s : Stp) (lo : Option Addr) (lc : Nat) (was : List ByteArray) (wo : Option Addr) (wc : Nat) (l : List ByteArray) (ao : Option Addr) (cap : Nat) (hx : ∀ x ∈ l, x.size ≤ 16384) (ha : 0 ≤ s.a ∧ s.a < l.length) (hb : 0 ≤ s.b ∧ s.b < l.length) (e : s.fn = 8) (w : World) (hrow : TxtRow w ao l) : StepC s lo lc was wo wc l ao cap w := by
  unfold StepC
  rw [step8 _ _ e, termAt_map, termAt_map]
  have hsa := hx _ (term_in ha)
  have hsb := hx _ (term_in hb)
  have HS := Lib.hid (fun V => rmac_any (l.getD s.a.toNat ByteArray.empty) (l.getD s.b.toNat ByteArray.empty) (by omega) (by omega) V)
  obtain ⟨P, hP⟩ : ∃ P, P = madeP [109] [bl (l.getD s.a.toNat ByteArray.empty), bl (l.getD s.b.toNat ByteArray.empty)] := ⟨_, rfl⟩
  rw [← hP] at HS ⊢
  unfold stpV
  obtain ⟨f, a, b, c, n, tx, li⟩ := s
  simp only at e HS ha hb ⊢
  subst e
  unfold st2 at HS ⊢
  obtain ⟨q, hq⟩ : ∃ q, q = l.length := ⟨_, rfl⟩
  obtain ⟨k, rfl⟩ := Int.eq_ofNat_of_zero_le ha.1
  obtain ⟨j, rfl⟩ := Int.eq_ofNat_of_zero_le hb.1
  have hk : k < l.length := by omega
  have hk2 : (k : Int) < (q : Int) := by omega
  have hk3 : k < q := by omega
  have hj : j < l.length := by omega
  have hj2 : (j : Int) < (q : Int) := by omega
  have hj3 : j < q := by omega
  have hk4 : (0 : Int) ≤ (k : Int) := by omega
  have hj4 : (0 : Int) ≤ (j : Int) := by omega
  rw [← hq]
  rw [Int.toNat_natCast, Int.toNat_natCast] at HS
  rcases hrow with e | ⟨g, off, rfl, hlt, hc⟩
  · exfalso
    rw [e] at hk
    exact absurd hk (Nat.not_lt_zero _)
  have ck := hc k hk
  have cj := hc j hj
  simp only [Int.toNat_natCast] at hsa hsb hP
  generalize l.getD k ByteArray.empty = t at *
  generalize l.getD j ByteArray.empty = u at *
  generalize was.length = m at *
  generalize li.length = r at *
  clear hx ha hb hP hsa hsb hc hk hj hq
  obtain ⟨W1, hW1⟩ : ∃ V, V = w.alloc (.cells #[.int .u8 8, .int .i64 k, .int .i64 j, .int .i64 c, .int .i64 n, .string tx, .slice lo r lc] 46) := ⟨_, rfl⟩
  have BW : Hid (Below w.heap.size w W1) := Lib.hid (by rw [hW1]; exact (Below.refl _ _).alloc (Nat.le_refl _) _)
  have KS : W1.cell? ⟨w.heap.size, 1, none⟩ = some (.int .i64 k) ∧ W1.cell? ⟨w.heap.size, 2, none⟩ = some (.int .i64 j) ∧ W1.cell? ⟨g, off + k, none⟩ = some (.string t) ∧ W1.cell? ⟨g, off + j, none⟩ = some (.string u) := by
    refine ⟨?_, ?_, (BW.out.cell (p := ⟨g, off + k, none⟩) hlt).trans ck, (BW.out.cell (p := ⟨g, off + j, none⟩) hlt).trans cj⟩ <;> rw [hW1] <;> simp
  clear ck cj hlt
  have hW2 := Lib.hid hW1
  clear hW1
  go_enter Try.func24, Try.ntmps24
  go_wp2_with fail
  rw [← hW2.out]
  have HS2 := Lib.hid (HS.out W1.drew)
  have BD : Hid (Below w.heap.size w W1.drew) := Lib.hid (below_step BW.out (drew11 W1))
  clear HS BW hW2
  go_region_held3 (fun W => W.cell? ⟨w.heap.size, 1, none⟩ = some (.int .i64 k) ∧ W.cell? ⟨w.heap.size, 2, none⟩ = some (.int .i64 j) ∧ W.cell? ⟨g, off + k, none⟩ = some (.string t) ∧ W.cell? ⟨g, off + j, none⟩ = some (.string u)) (first | assumption) (first | (go_at_call 48; (with_reducible refine HS2.out.mono ?_); rintro e wa ⟨rfl, ba⟩; have KA : wa.cell? ⟨w.heap.size, 1, none⟩ = some (.int .i64 k) ∧ wa.cell? ⟨w.heap.size, 2, none⟩ = some (.int .i64 j) ∧ wa.cell? ⟨g, off + k, none⟩ = some (.string t) ∧ wa.cell? ⟨g, off + j, none⟩ = some (.string u) := ⟨(ba.cell (p := ⟨w.heap.size, 1, none⟩) (World.block_lt_of_cell? _ _ KS.1)).trans KS.1, (ba.cell (p := ⟨w.heap.size, 2, none⟩) (World.block_lt_of_cell? _ _ KS.2.1)).trans KS.2.1, (ba.cell (p := ⟨g, off + k, none⟩) (World.block_lt_of_cell? _ _ KS.2.2.1)).trans KS.2.2.1, (ba.cell (p := ⟨g, off + j, none⟩) (World.block_lt_of_cell? _ _ KS.2.2.2)).trans KS.2.2.2⟩; have BA := Lib.hid (below_step BD.out ba); clear ba))
  clear KS KA
  go_wp2_with fail
  go_ret2
  exact ⟨rfl, BA.out⟩
set_option maxHeartbeats 4000000 in
set_option maxRecDepth 100000 in
theorem rstep11_seal (s : Stp) (lo : Option Addr) (lc : Nat) (was : List ByteArray) (wo : Option Addr) (wc : Nat) (l : List ByteArray) (ao : Option Addr) (cap : Nat) (hx : ∀ x ∈ l, x.size ≤ 16384) (ha : 0 ≤ s.a ∧ s.a < l.length) (hb : 0 ≤ s.b ∧ s.b < l.length) (hd : 0 ≤ s.c ∧ s.c < l.length) (e : s.fn = 9) (w : World) (hrow : TxtRow w ao l) : StepC s lo lc was wo wc l ao cap w := by
  unfold StepC
  rw [step9 _ _ e, termAt_map, termAt_map, termAt_map]
  have hsa := hx _ (term_in ha)
  have hsb := hx _ (term_in hb)
  have hsd := hx _ (term_in hd)
  have HS := Lib.hid (fun V => rseal6_any (l.getD s.a.toNat ByteArray.empty) (l.getD s.b.toNat ByteArray.empty) (l.getD s.c.toNat ByteArray.empty) (by omega) (by omega) (by omega) V)
  obtain ⟨P, hP⟩ : ∃ P, P = madeP [115] [bl (l.getD s.a.toNat ByteArray.empty), bl (l.getD s.b.toNat ByteArray.empty), bl (l.getD s.c.toNat ByteArray.empty)] := ⟨_, rfl⟩
  rw [← hP] at HS ⊢
  unfold stpV
  obtain ⟨f, a, b, c, n, tx, li⟩ := s
  simp only at e HS ha hb hd ⊢
  subst e
  unfold st2 at HS ⊢
  obtain ⟨q, hq⟩ : ∃ q, q = l.length := ⟨_, rfl⟩
  obtain ⟨k, rfl⟩ := Int.eq_ofNat_of_zero_le ha.1
  obtain ⟨j, rfl⟩ := Int.eq_ofNat_of_zero_le hb.1
  obtain ⟨i, rfl⟩ := Int.eq_ofNat_of_zero_le hd.1
  have hk : k < l.length := by omega
  have hk2 : (k : Int) < (q : Int) := by omega
  have hk3 : k < q := by omega
  have hj : j < l.length := by omega
  have hj2 : (j : Int) < (q : Int) := by omega
  have hj3 : j < q := by omega
  have hi : i < l.length := by omega
  have hi2 : (i : Int) < (q : Int) := by omega
  have hi3 : i < q := by omega
  have hi4 : (0 : Int) ≤ (i : Int) := by omega
  have hk4 : (0 : Int) ≤ (k : Int) := by omega
  have hj4 : (0 : Int) ≤ (j : Int) := by omega
  rw [← hq]
  rw [Int.toNat_natCast, Int.toNat_natCast, Int.toNat_natCast] at HS
  rcases hrow with e | ⟨g, off, rfl, hlt, hc⟩
  · exfalso
    rw [e] at hk
    exact absurd hk (Nat.not_lt_zero _)
  have ck := hc k hk
  have cj := hc j hj
  have ci := hc i hi
  simp only [Int.toNat_natCast] at hsa hsb hsd hP
  generalize l.getD k ByteArray.empty = t at *
  generalize l.getD j ByteArray.empty = u at *
  generalize l.getD i ByteArray.empty = v at *
  generalize was.length = m at *
  generalize li.length = r at *
  clear hx ha hb hd hP hsa hsb hsd hc hk hj hi hq
  obtain ⟨W1, hW1⟩ : ∃ V, V = w.alloc (.cells #[.int .u8 9, .int .i64 k, .int .i64 j, .int .i64 i, .int .i64 n, .string tx, .slice lo r lc] 46) := ⟨_, rfl⟩
  have BW : Hid (Below w.heap.size w W1) := Lib.hid (by rw [hW1]; exact (Below.refl _ _).alloc (Nat.le_refl _) _)
  have KS : W1.cell? ⟨w.heap.size, 1, none⟩ = some (.int .i64 k) ∧ W1.cell? ⟨w.heap.size, 2, none⟩ = some (.int .i64 j) ∧ W1.cell? ⟨w.heap.size, 3, none⟩ = some (.int .i64 i) ∧ W1.cell? ⟨g, off + k, none⟩ = some (.string t) ∧ W1.cell? ⟨g, off + j, none⟩ = some (.string u) ∧ W1.cell? ⟨g, off + i, none⟩ = some (.string v) := by
    refine ⟨?_, ?_, ?_, (BW.out.cell (p := ⟨g, off + k, none⟩) hlt).trans ck, (BW.out.cell (p := ⟨g, off + j, none⟩) hlt).trans cj, (BW.out.cell (p := ⟨g, off + i, none⟩) hlt).trans ci⟩ <;> rw [hW1] <;> simp
  clear ck cj ci hlt
  have hW2 := Lib.hid hW1
  clear hW1
  go_enter Try.func24, Try.ntmps24
  go_wp2_with fail
  rw [← hW2.out]
  have HS2 := Lib.hid (HS.out W1.drew)
  have BD : Hid (Below w.heap.size w W1.drew) := Lib.hid (below_step BW.out (drew11 W1))
  clear HS BW hW2
  go_region_held3 (fun W => W.cell? ⟨w.heap.size, 1, none⟩ = some (.int .i64 k) ∧ W.cell? ⟨w.heap.size, 2, none⟩ = some (.int .i64 j) ∧ W.cell? ⟨w.heap.size, 3, none⟩ = some (.int .i64 i) ∧ W.cell? ⟨g, off + k, none⟩ = some (.string t) ∧ W.cell? ⟨g, off + j, none⟩ = some (.string u) ∧ W.cell? ⟨g, off + i, none⟩ = some (.string v)) (first | assumption) (first | (go_at_call 49; (with_reducible refine HS2.out.mono ?_); rintro e wa ⟨rfl, ba⟩; have KA : wa.cell? ⟨w.heap.size, 1, none⟩ = some (.int .i64 k) ∧ wa.cell? ⟨w.heap.size, 2, none⟩ = some (.int .i64 j) ∧ wa.cell? ⟨w.heap.size, 3, none⟩ = some (.int .i64 i) ∧ wa.cell? ⟨g, off + k, none⟩ = some (.string t) ∧ wa.cell? ⟨g, off + j, none⟩ = some (.string u) ∧ wa.cell? ⟨g, off + i, none⟩ = some (.string v) := ⟨(ba.cell (p := ⟨w.heap.size, 1, none⟩) (World.block_lt_of_cell? _ _ KS.1)).trans KS.1, (ba.cell (p := ⟨w.heap.size, 2, none⟩) (World.block_lt_of_cell? _ _ KS.2.1)).trans KS.2.1, (ba.cell (p := ⟨w.heap.size, 3, none⟩) (World.block_lt_of_cell? _ _ KS.2.2.1)).trans KS.2.2.1, (ba.cell (p := ⟨g, off + k, none⟩) (World.block_lt_of_cell? _ _ KS.2.2.2.1)).trans KS.2.2.2.1, (ba.cell (p := ⟨g, off + j, none⟩) (World.block_lt_of_cell? _ _ KS.2.2.2.2.1)).trans KS.2.2.2.2.1, (ba.cell (p := ⟨g, off + i, none⟩) (World.block_lt_of_cell? _ _ KS.2.2.2.2.2)).trans KS.2.2.2.2.2⟩; have BA := Lib.hid (below_step BD.out ba); clear ba))
  clear KS KA
  go_wp2_with fail
  go_ret2
  exact ⟨rfl, BA.out⟩
end Go.Proofs.Ytpajcalfjfkogaa.Pl
