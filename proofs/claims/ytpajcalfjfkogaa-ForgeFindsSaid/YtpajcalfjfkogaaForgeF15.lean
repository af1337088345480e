/- The program's own run of steps: what each kind of step does. -/
import Derived.Test.YtpajcalfjfkogaaForgeF13
import Derived.Test.YtpajcalfjfkogaaForgeF11
import Derived.Deep.RegionHeld2
namespace Go.Proofs.Ytpajcalfjfkogaa.Pl
open Go.RowKit

theorem made_five {front : List UInt8} {l : List (List UInt8)} (h : ∀ x ∈ l, checkP x = 0) : (madeP front l).2 ≠ 0 → madeP front l = ([], 5) := by
  unfold madeP
  rw [if_pos h]
  split
  · intro h; exact absurd rfl h
  · intro _; rfl
theorem data_five (s : List UInt8) : (dataP s).2 ≠ 0 → dataP s = ([], 5) := by
  unfold dataP
  split
  · intro _; rfl
  · intro h; exact absurd rfl h
theorem cell_keep {w w' : World} {b k : Nat} {v : Value} (hb : Below w.heap.size w w') (h : w.cell? ⟨b, k, none⟩ = some v) : w'.cell? ⟨b, k, none⟩ = some v := (hb.cell (p := ⟨b, k, none⟩) (World.block_lt_of_cell? _ _ h)).trans h
set_option maxHeartbeats 4000000 in
set_option maxRecDepth 100000 in
theorem do11_datum (r : Nat) (s : Stp) (lo : Option Addr) (lc : Nat) (was l : List (List UInt8)) (ht : s.text.size ≤ 281474976710656) (e : s.fn = 2) (w : World) :
    Calls Try.prog 64 #[ptr11 r, stpV s lo lc] w (DoPost (stepP was l s) w) := by
  rw [step2 _ _ e]
  have HS := Lib.hid (fun V => data6_any s.text ht V)
  have h5 := data_five (bl s.text)
  obtain ⟨P, hP⟩ : ∃ P, P = dataP (bl s.text) := ⟨_, rfl⟩
  rw [← hP] at HS h5 ⊢
  unfold stpV
  obtain ⟨f, a, b, c, n, tx, li⟩ := s
  simp only at e HS ⊢
  subst e
  have BW : Hid (∀ v, Below w.heap.size w (w.alloc (.cells v 46))) := Lib.hid (fun v => (Below.refl _ _).alloc (Nat.le_refl _) _)
  generalize li.length = q at *
  clear hP ht
  by_cases hz : P.2 = 0
  · obtain ⟨t, z⟩ := P
    obtain rfl : z = 0 := hz
    unfold st2 at HS
    simp only at HS
    clear h5
    go_enter Try.func64, Try.ntmps64
    go_wp2_with fail
    refine (HS.out _).mono ?_; rintro e w1 ⟨rfl, b1⟩
    have B1 := Lib.hid (below_step (BW.out _) b1)
    clear b1 HS
    go_wp2_with (go_at_call 90; refine (valid11_ok _ _).mono ?_; rintro e w2 ⟨rfl, rfl⟩)
    go_ret
    exact doPost_ok B1.out
  · rw [h5 hz] at HS ⊢
    unfold st2 at HS
    simp only at HS
    clear hz h5
    go_enter Try.func64, Try.ntmps64
    go_wp2_with fail
    refine (HS.out _).mono ?_; rintro e w1 ⟨rfl, b1⟩
    have B1 := Lib.hid (below_step (BW.out _) b1)
    clear b1 HS
    go_wp2_with (go_at_call 90; refine (valid11_bad _ 5 (by decide) _).mono ?_; rintro e w2 ⟨rfl, rfl⟩)
    exact ⟨rfl, doPost_bad (by decide) B1.out⟩
set_option maxHeartbeats 8000000 in
set_option maxRecDepth 100000 in
theorem do11_hash (r : Nat) (s : Stp) (lo : Option Addr) (lc : Nat) (was : List ByteArray) (wo : Option Addr) (wc : Nat) (l : List ByteArray) (ao : Option Addr) (cap : Nat) (hx : ∀ x ∈ l, checkP (bl x) = 0) (ha : 0 ≤ s.a ∧ s.a < l.length) (e : s.fn = 7) (w : World) (h : RunAt w r was wo wc l ao cap) :
    Calls Try.prog 69 #[ptr11 r, stpV s lo lc] w (DoPost (stepP (was.map bl) (l.map bl) s) w) := by
  rw [step7 _ _ e, termAt_map]
  have hca := hx _ (term_in ha)
  have hsa := check_len hca
  rw [← size_bl] at hsa
  have HS := Lib.hid (fun V => hash6_any (l.getD s.a.toNat ByteArray.empty) (by omega) V)
  have h5 := made_five (front := [104]) (l := [bl (l.getD s.a.toNat ByteArray.empty)]) (by intro y hy; rw [List.mem_singleton.1 hy]; assumption)
  obtain ⟨P, hP⟩ : ∃ P, P = madeP [104] [bl (l.getD s.a.toNat ByteArray.empty)] := ⟨_, rfl⟩
  rw [← hP] at HS h5 ⊢
  unfold stpV
  obtain ⟨f, a, b, c, n, tx, li⟩ := s
  simp only at e HS ha ⊢
  subst e
  obtain ⟨q, hq⟩ : ∃ q, q = l.length := ⟨_, rfl⟩
  obtain ⟨k, rfl⟩ := Int.eq_ofNat_of_zero_le ha.1
  have hk : k < l.length := by omega
  have hk2 : (k : Int) < (q : Int) := by omega
  have hk3 : k < q := by omega
  have hk4 : (0 : Int) ≤ (k : Int) := by omega
  simp only [Int.toNat_natCast] at HS hca hsa
  obtain ⟨_, cr⟩ := h.cell
  rcases h.terms with e | ⟨g, off, rfl, hlt, hrow⟩
  · exfalso
    rw [e] at hk
    exact absurd hk (Nat.not_lt_zero _)
  have ck := hrow k hk
  rw [← hq] at cr
  have hrl := World.block_lt_of_cell? _ _ cr
  generalize l.getD k ByteArray.empty = t at *
  generalize was.length = m at *
  generalize li.length = z at *
  clear hx ha hca hsa hP h hrow hq hk
  obtain ⟨W1, hW1⟩ : ∃ V, V = w.alloc (.cells #[.int .u8 7, .int .i64 k, .int .i64 b, .int .i64 c, .int .i64 n, .string tx, .slice lo z lc] 46) := ⟨_, rfl⟩
  have BW : Hid (Below w.heap.size w W1) := Lib.hid (by rw [hW1]; exact (Below.refl _ _).alloc (Nat.le_refl _) _)
  have KS : W1.cell? ⟨r, 1, none⟩ = some (.slice (some ⟨g, off, none⟩) q cap) ∧ W1.cell? ⟨w.heap.size, 1, none⟩ = some (.int .i64 k) ∧ W1.cell? ⟨g, off + k, none⟩ = some (.string t) := by
    refine ⟨(BW.out.cell (p := ⟨r, 1, none⟩) hrl).trans cr, ?_, (BW.out.cell (p := ⟨g, off + k, none⟩) hlt).trans ck⟩ <;> rw [hW1] <;> simp
  clear cr hrl hlt ck
  have hW2 := Lib.hid hW1
  clear hW1
  by_cases hz : P.2 = 0
  · obtain ⟨tt, zz⟩ := P
    obtain rfl : zz = 0 := hz
    unfold st2 at HS
    simp only at HS
    clear h5
    go_enter Try.func69, Try.ntmps69
    go_wp2_with fail
    rw [← hW2.out]
    have HS2 := Lib.hid (HS.out W1.drew)
    have BD : Hid (Below w.heap.size w W1.drew) := Lib.hid (below_step BW.out (drew11 W1))
    clear HS BW hW2
    go_region_held3 (fun W => W.cell? ⟨r, 1, none⟩ = some (.slice (some ⟨g, off, none⟩) q cap) ∧ W.cell? ⟨w.heap.size, 1, none⟩ = some (.int .i64 k) ∧ W.cell? ⟨g, off + k, none⟩ = some (.string t)) (first | assumption) (first | (go_at_call 92; (with_reducible refine HS2.out.mono ?_); rintro e wa ⟨rfl, ba⟩; have KA : wa.cell? ⟨r, 1, none⟩ = some (.slice (some ⟨g, off, none⟩) q cap) ∧ wa.cell? ⟨w.heap.size, 1, none⟩ = some (.int .i64 k) ∧ wa.cell? ⟨g, off + k, none⟩ = some (.string t) := ⟨cell_keep ba KS.1, cell_keep ba KS.2.1, cell_keep ba KS.2.2⟩; have BA := Lib.hid (below_step BD.out ba); clear ba) | (go_at_call 90; refine (valid11_ok _ _).mono ?_; rintro e w2 ⟨rfl, rfl⟩))
    clear KS KA
    go_wp2_with fail
    go_ret
    exact doPost_ok BA.out
  · rw [h5 hz] at HS ⊢
    unfold st2 at HS
    simp only at HS
    clear hz h5
    go_enter Try.func69, Try.ntmps69
    go_wp2_with fail
    rw [← hW2.out]
    have HS2 := Lib.hid (HS.out W1.drew)
    have BD : Hid (Below w.heap.size w W1.drew) := Lib.hid (below_step BW.out (drew11 W1))
    clear HS BW hW2
    go_region_held2 (fun W => W.cell? ⟨r, 1, none⟩ = some (.slice (some ⟨g, off, none⟩) q cap) ∧ W.cell? ⟨w.heap.size, 1, none⟩ = some (.int .i64 k) ∧ W.cell? ⟨g, off + k, none⟩ = some (.string t)) (first | assumption) (first | (go_at_call 92; (with_reducible refine HS2.out.mono ?_); rintro e wa ⟨rfl, ba⟩; have KA : wa.cell? ⟨r, 1, none⟩ = some (.slice (some ⟨g, off, none⟩) q cap) ∧ wa.cell? ⟨w.heap.size, 1, none⟩ = some (.int .i64 k) ∧ wa.cell? ⟨g, off + k, none⟩ = some (.string t) := ⟨cell_keep ba KS.1, cell_keep ba KS.2.1, cell_keep ba KS.2.2⟩; have BA := Lib.hid (below_step BD.out ba); clear ba) | (go_at_call 90; refine calls_boom (.string ⟨#[]⟩) (valid11_bad _ 5 (by decide) _) (by exact ⟨rfl, doPost_bad (by decide) BA.out⟩) (fun hno => ?_)))
    clear KS KA
    go_wp2_with fail
    go_ret
    exact hno.out.elim
set_option maxHeartbeats 8000000 in
set_option maxRecDepth 100000 in
theorem do11_mac (r : Nat) (s : Stp) (lo : Option Addr) (lc : Nat) (was : List ByteArray) (wo : Option Addr) (wc : Nat) (l : List ByteArray) (ao : Option Addr) (cap : Nat) (hx : ∀ x ∈ l, checkP (bl x) = 0) (ha : 0 ≤ s.a ∧ s.a < l.length) (hb : 0 ≤ s.b ∧ s.b < l.length) (e : s.fn = 8) (w : World) (h : RunAt w r was wo wc l ao cap) :
    Calls Try.prog 70 #[ptr11 r, stpV s lo lc] w (DoPost (stepP (was.map bl) (l.map bl) s) w) := by
  rw [step8 _ _ e, termAt_map, termAt_map]
  have hca := hx _ (term_in ha)
  have hsa := check_len hca
  rw [← size_bl] at hsa
  have hcb := hx _ (term_in hb)
  have hsb := check_len hcb
  rw [← size_bl] at hsb
  have HS := Lib.hid (fun V => mac6_any (l.getD s.a.toNat ByteArray.empty) (l.getD s.b.toNat ByteArray.empty) (by omega) (by omega) V)
  have h5 := made_five (front := [109]) (l := [bl (l.getD s.a.toNat ByteArray.empty), bl (l.getD s.b.toNat ByteArray.empty)]) (by intro y hy; simp only [List.mem_cons, List.not_mem_nil, or_false] at hy; rcases hy with rfl | rfl <;> assumption)
  obtain ⟨P, hP⟩ : ∃ P, P = madeP [109] [bl (l.getD s.a.toNat ByteArray.empty), bl (l.getD s.b.toNat ByteArray.empty)] := ⟨_, rfl⟩
  rw [← hP] at HS h5 ⊢
  unfold stpV
  obtain ⟨f, a, b, c, n, tx, li⟩ := s
  simp only at e HS ha hb ⊢
  subst e
  obtain ⟨q, hq⟩ : ∃ q, q = l.length := ⟨_, rfl⟩
  obtain ⟨k, rfl⟩ := Int.eq_ofNat_of_zero_le ha.1
  have hk : k < l.length := by omega
  have hk2 : (k : Int) < (q : Int) := by omega
  have hk3 : k < q := by omega
  have hk4 : (0 : Int) ≤ (k : Int) := by omega
  obtain ⟨j, rfl⟩ := Int.eq_ofNat_of_zero_le hb.1
  have hj : j < l.length := by omega
  have hj2 : (j : Int) < (q : Int) := by omega
  have hj3 : j < q := by omega
  have hj4 : (0 : Int) ≤ (j : Int) := by omega
  simp only [Int.toNat_natCast] at HS hca hsa hcb hsb
  obtain ⟨_, cr⟩ := h.cell
  rcases h.terms with e | ⟨g, off, rfl, hlt, hrow⟩
  · exfalso
    rw [e] at hk
    exact absurd hk (Nat.not_lt_zero _)
  have ck := hrow k hk
  have cj := hrow j hj
  rw [← hq] at cr
  have hrl := World.block_lt_of_cell? _ _ cr
  generalize l.getD k ByteArray.empty = t at *
  generalize l.getD j ByteArray.empty = u at *
  generalize was.length = m at *
  generalize li.length = z at *
  clear hx ha hca hsa hb hcb hsb hP h hrow hq hk hj
  obtain ⟨W1, hW1⟩ : ∃ V, V = w.alloc (.cells #[.int .u8 8, .int .i64 k, .int .i64 j, .int .i64 c, .int .i64 n, .string tx, .slice lo z lc] 46) := ⟨_, rfl⟩
  have BW : Hid (Below w.heap.size w W1) := Lib.hid (by rw [hW1]; exact (Below.refl _ _).alloc (Nat.le_refl _) _)
  have KS : W1.cell? ⟨r, 1, none⟩ = some (.slice (some ⟨g, off, none⟩) q cap) ∧ W1.cell? ⟨w.heap.size, 1, none⟩ = some (.int .i64 k) ∧ W1.cell? ⟨w.heap.size, 2, none⟩ = some (.int .i64 j) ∧ W1.cell? ⟨g, off + k, none⟩ = some (.string t) ∧ W1.cell? ⟨g, off + j, none⟩ = some (.string u) := by
    refine ⟨(BW.out.cell (p := ⟨r, 1, none⟩) hrl).trans cr, ?_, ?_, (BW.out.cell (p := ⟨g, off + k, none⟩) hlt).trans ck, (BW.out.cell (p := ⟨g, off + j, none⟩) hlt).trans cj⟩ <;> rw [hW1] <;> simp
  clear cr hrl hlt ck cj
  have hW2 := Lib.hid hW1
  clear hW1
  by_cases hz : P.2 = 0
  · obtain ⟨tt, zz⟩ := P
    obtain rfl : zz = 0 := hz
    unfold st2 at HS
    simp only at HS
    clear h5
    go_enter Try.func70, Try.ntmps70
    go_wp2_with fail
    rw [← hW2.out]
    have HS2 := Lib.hid (HS.out W1.drew)
    have BD : Hid (Below w.heap.size w W1.drew) := Lib.hid (below_step BW.out (drew11 W1))
    clear HS BW hW2
    go_region_held3 (fun W => W.cell? ⟨r, 1, none⟩ = some (.slice (some ⟨g, off, none⟩) q cap) ∧ W.cell? ⟨w.heap.size, 1, none⟩ = some (.int .i64 k) ∧ W.cell? ⟨w.heap.size, 2, none⟩ = some (.int .i64 j) ∧ W.cell? ⟨g, off + k, none⟩ = some (.string t) ∧ W.cell? ⟨g, off + j, none⟩ = some (.string u)) (first | assumption) (first | (go_at_call 93; (with_reducible refine HS2.out.mono ?_); rintro e wa ⟨rfl, ba⟩; have KA : wa.cell? ⟨r, 1, none⟩ = some (.slice (some ⟨g, off, none⟩) q cap) ∧ wa.cell? ⟨w.heap.size, 1, none⟩ = some (.int .i64 k) ∧ wa.cell? ⟨w.heap.size, 2, none⟩ = some (.int .i64 j) ∧ wa.cell? ⟨g, off + k, none⟩ = some (.string t) ∧ wa.cell? ⟨g, off + j, none⟩ = some (.string u) := ⟨cell_keep ba KS.1, cell_keep ba KS.2.1, cell_keep ba KS.2.2.1, cell_keep ba KS.2.2.2.1, cell_keep ba KS.2.2.2.2⟩; have BA := Lib.hid (below_step BD.out ba); clear ba) | (go_at_call 90; refine (valid11_ok _ _).mono ?_; rintro e w2 ⟨rfl, rfl⟩))
    clear KS KA
    go_wp2_with fail
    go_ret
    exact doPost_ok BA.out
  · rw [h5 hz] at HS ⊢
    unfold st2 at HS
    simp only at HS
    clear hz h5
    go_enter Try.func70, Try.ntmps70
    go_wp2_with fail
    rw [← hW2.out]
    have HS2 := Lib.hid (HS.out W1.drew)
    have BD : Hid (Below w.heap.size w W1.drew) := Lib.hid (below_step BW.out (drew11 W1))
    clear HS BW hW2
    go_region_held2 (fun W => W.cell? ⟨r, 1, none⟩ = some (.slice (some ⟨g, off, none⟩) q cap) ∧ W.cell? ⟨w.heap.size, 1, none⟩ = some (.int .i64 k) ∧ W.cell? ⟨w.heap.size, 2, none⟩ = some (.int .i64 j) ∧ W.cell? ⟨g, off + k, none⟩ = some (.string t) ∧ W.cell? ⟨g, off + j, none⟩ = some (.string u)) (first | assumption) (first | (go_at_call 93; (with_reducible refine HS2.out.mono ?_); rintro e wa ⟨rfl, ba⟩; have KA : wa.cell? ⟨r, 1, none⟩ = some (.slice (some ⟨g, off, none⟩) q cap) ∧ wa.cell? ⟨w.heap.size, 1, none⟩ = some (.int .i64 k) ∧ wa.cell? ⟨w.heap.size, 2, none⟩ = some (.int .i64 j) ∧ wa.cell? ⟨g, off + k, none⟩ = some (.string t) ∧ wa.cell? ⟨g, off + j, none⟩ = some (.string u) := ⟨cell_keep ba KS.1, cell_keep ba KS.2.1, cell_keep ba KS.2.2.1, cell_keep ba KS.2.2.2.1, cell_keep ba KS.2.2.2.2⟩; have BA := Lib.hid (below_step BD.out ba); clear ba) | (go_at_call 90; refine calls_boom (.string ⟨#[]⟩) (valid11_bad _ 5 (by decide) _) (by exact ⟨rfl, doPost_bad (by decide) BA.out⟩) (fun hno => ?_)))
    clear KS KA
    go_wp2_with fail
    go_ret
    exact hno.out.elim
set_option maxHeartbeats 8000000 in
set_option maxRecDepth 100000 in
theorem do11_seal (r : Nat) (s : Stp) (lo : Option Addr) (lc : Nat) (was : List ByteArray) (wo : Option Addr) (wc : Nat) (l : List ByteArray) (ao : Option Addr) (cap : Nat) (hx : ∀ x ∈ l, checkP (bl x) = 0) (ha : 0 ≤ s.a ∧ s.a < l.length) (hb : 0 ≤ s.b ∧ s.b < l.length) (hc : 0 ≤ s.c ∧ s.c < l.length) (e : s.fn = 9) (w : World) (h : RunAt w r was wo wc l ao cap) :
    Calls Try.prog 71 #[ptr11 r, stpV s lo lc] w (DoPost (stepP (was.map bl) (l.map bl) s) w) := by
  rw [step9 _ _ e, termAt_map, termAt_map, termAt_map]
  have hca := hx _ (term_in ha)
  have hsa := check_len hca
  rw [← size_bl] at hsa
  have hcb := hx _ (term_in hb)
  have hsb := check_len hcb
  rw [← size_bl] at hsb
  have hcc := hx _ (term_in hc)
  have hsc := check_len hcc
  rw [← size_bl] at hsc
  have HS := Lib.hid (fun V => seal6_any (l.getD s.a.toNat ByteArray.empty) (l.getD s.b.toNat ByteArray.empty) (l.getD s.c.toNat ByteArray.empty) (by omega) (by omega) (by omega) V)
  have h5 := made_five (front := [115]) (l := [bl (l.getD s.a.toNat ByteArray.empty), bl (l.getD s.b.toNat ByteArray.empty), bl (l.getD s.c.toNat ByteArray.empty)]) (by intro y hy; simp only [List.mem_cons, List.not_mem_nil, or_false] at hy; rcases hy with rfl | rfl | rfl <;> assumption)
  obtain ⟨P, hP⟩ : ∃ P, P = madeP [115] [bl (l.getD s.a.toNat ByteArray.empty), bl (l.getD s.b.toNat ByteArray.empty), bl (l.getD s.c.toNat ByteArray.empty)] := ⟨_, rfl⟩
  rw [← hP] at HS h5 ⊢
  unfold stpV
  obtain ⟨f, a, b, c, n, tx, li⟩ := s
  simp only at e HS ha hb hc ⊢
  subst e
  obtain ⟨q, hq⟩ : ∃ q, q = l.length := ⟨_, rfl⟩
  obtain ⟨k, rfl⟩ := Int.eq_ofNat_of_zero_le ha.1
  have hk : k < l.length := by omega
  have hk2 : (k : Int) < (q : Int) := by omega
  have hk3 : k < q := by omega
  have hk4 : (0 : Int) ≤ (k : Int) := by omega
  obtain ⟨j, rfl⟩ := Int.eq_ofNat_of_zero_le hb.1
  have hj : j < l.length := by omega
  have hj2 : (j : Int) < (q : Int) := by omega
  have hj3 : j < q := by omega
  have hj4 : (0 : Int) ≤ (j : Int) := by omega
  obtain ⟨i, rfl⟩ := Int.eq_ofNat_of_zero_le hc.1
  have hi : i < l.length := by omega
  have hi2 : (i : Int) < (q : Int) := by omega
  have hi3 : i < q := by omega
  have hi4 : (0 : Int) ≤ (i : Int) := by omega
  simp only [Int.toNat_natCast] at HS hca hsa hcb hsb hcc hsc
  obtain ⟨_, cr⟩ := h.cell
  rcases h.terms with e | ⟨g, off, rfl, hlt, hrow⟩
  · exfalso
    rw [e] at hk
    exact absurd hk (Nat.not_lt_zero _)
  have ck := hrow k hk
  have cj := hrow j hj
  have ci := hrow i hi
  rw [← hq] at cr
  have hrl := World.block_lt_of_cell? _ _ cr
  generalize l.getD k ByteArray.empty = t at *
  generalize l.getD j ByteArray.empty = u at *
  generalize l.getD i ByteArray.empty = v at *
  generalize was.length = m at *
  generalize li.length = z at *
  clear hx ha hca hsa hb hcb hsb hc hcc hsc hP h hrow hq hk hj hi
  obtain ⟨W1, hW1⟩ : ∃ V, V = w.alloc (.cells #[.int .u8 9, .int .i64 k, .int .i64 j, .int .i64 i, .int .i64 n, .string tx, .slice lo z lc] 46) := ⟨_, rfl⟩
  have BW : Hid (Below w.heap.size w W1) := Lib.hid (by rw [hW1]; exact (Below.refl _ _).alloc (Nat.le_refl _) _)
  have KS : W1.cell? ⟨r, 1, none⟩ = some (.slice (some ⟨g, off, none⟩) q cap) ∧ W1.cell? ⟨w.heap.size, 1, none⟩ = some (.int .i64 k) ∧ W1.cell? ⟨w.heap.size, 2, none⟩ = some (.int .i64 j) ∧ W1.cell? ⟨w.heap.size, 3, none⟩ = some (.int .i64 i) ∧ W1.cell? ⟨g, off + k, none⟩ = some (.string t) ∧ W1.cell? ⟨g, off + j, none⟩ = some (.string u) ∧ W1.cell? ⟨g, off + i, none⟩ = some (.string v) := by
    refine ⟨(BW.out.cell (p := ⟨r, 1, none⟩) hrl).trans cr, ?_, ?_, ?_, (BW.out.cell (p := ⟨g, off + k, none⟩) hlt).trans ck, (BW.out.cell (p := ⟨g, off + j, none⟩) hlt).trans cj, (BW.out.cell (p := ⟨g, off + i, none⟩) hlt).trans ci⟩ <;> rw [hW1] <;> simp
  clear cr hrl hlt ck cj ci
  have hW2 := Lib.hid hW1
  clear hW1
  by_cases hz : P.2 = 0
  · obtain ⟨tt, zz⟩ := P
    obtain rfl : zz = 0 := hz
    unfold st2 at HS
    simp only at HS
    clear h5
    go_enter Try.func71, Try.ntmps71
    go_wp2_with fail
    rw [← hW2.out]
    have HS2 := Lib.hid (HS.out W1.drew)
    have BD : Hid (Below w.heap.size w W1.drew) := Lib.hid (below_step BW.out (drew11 W1))
    clear HS BW hW2
    go_region_held3 (fun W => W.cell? ⟨r, 1, none⟩ = some (.slice (some ⟨g, off, none⟩) q cap) ∧ W.cell? ⟨w.heap.size, 1, none⟩ = some (.int .i64 k) ∧ W.cell? ⟨w.heap.size, 2, none⟩ = some (.int .i64 j) ∧ W.cell? ⟨w.heap.size, 3, none⟩ = some (.int .i64 i) ∧ W.cell? ⟨g, off + k, none⟩ = some (.string t) ∧ W.cell? ⟨g, off + j, none⟩ = some (.string u) ∧ W.cell? ⟨g, off + i, none⟩ = some (.string v)) (first | assumption) (first | (go_at_call 20; (with_reducible refine HS2.out.mono ?_); rintro e wa ⟨rfl, ba⟩; have KA : wa.cell? ⟨r, 1, none⟩ = some (.slice (some ⟨g, off, none⟩) q cap) ∧ wa.cell? ⟨w.heap.size, 1, none⟩ = some (.int .i64 k) ∧ wa.cell? ⟨w.heap.size, 2, none⟩ = some (.int .i64 j) ∧ wa.cell? ⟨w.heap.size, 3, none⟩ = some (.int .i64 i) ∧ wa.cell? ⟨g, off + k, none⟩ = some (.string t) ∧ wa.cell? ⟨g, off + j, none⟩ = some (.string u) ∧ wa.cell? ⟨g, off + i, none⟩ = some (.string v) := ⟨cell_keep ba KS.1, cell_keep ba KS.2.1, cell_keep ba KS.2.2.1, cell_keep ba KS.2.2.2.1, cell_keep ba KS.2.2.2.2.1, cell_keep ba KS.2.2.2.2.2.1, cell_keep ba KS.2.2.2.2.2.2⟩; have BA := Lib.hid (below_step BD.out ba); clear ba) | (go_at_call 90; refine (valid11_ok _ _).mono ?_; rintro e w2 ⟨rfl, rfl⟩))
    clear KS KA
    go_wp2_with fail
    go_ret
    exact doPost_ok BA.out
  · rw [h5 hz] at HS ⊢
    unfold st2 at HS
    simp only at HS
    clear hz h5
    go_enter Try.func71, Try.ntmps71
    go_wp2_with fail
    rw [← hW2.out]
    have HS2 := Lib.hid (HS.out W1.drew)
    have BD : Hid (Below w.heap.size w W1.drew) := Lib.hid (below_step BW.out (drew11 W1))
    clear HS BW hW2
    go_region_held2 (fun W => W.cell? ⟨r, 1, none⟩ = some (.slice (some ⟨g, off, none⟩) q cap) ∧ W.cell? ⟨w.heap.size, 1, none⟩ = some (.int .i64 k) ∧ W.cell? ⟨w.heap.size, 2, none⟩ = some (.int .i64 j) ∧ W.cell? ⟨w.heap.size, 3, none⟩ = some (.int .i64 i) ∧ W.cell? ⟨g, off + k, none⟩ = some (.string t) ∧ W.cell? ⟨g, off + j, none⟩ = some (.string u) ∧ W.cell? ⟨g, off + i, none⟩ = some (.string v)) (first | assumption) (first | (go_at_call 20; (with_reducible refine HS2.out.mono ?_); rintro e wa ⟨rfl, ba⟩; have KA : wa.cell? ⟨r, 1, none⟩ = some (.slice (some ⟨g, off, none⟩) q cap) ∧ wa.cell? ⟨w.heap.size, 1, none⟩ = some (.int .i64 k) ∧ wa.cell? ⟨w.heap.size, 2, none⟩ = some (.int .i64 j) ∧ wa.cell? ⟨w.heap.size, 3, none⟩ = some (.int .i64 i) ∧ wa.cell? ⟨g, off + k, none⟩ = some (.string t) ∧ wa.cell? ⟨g, off + j, none⟩ = some (.string u) ∧ wa.cell? ⟨g, off + i, none⟩ = some (.string v) := ⟨cell_keep ba KS.1, cell_keep ba KS.2.1, cell_keep ba KS.2.2.1, cell_keep ba KS.2.2.2.1, cell_keep ba KS.2.2.2.2.1, cell_keep ba KS.2.2.2.2.2.1, cell_keep ba KS.2.2.2.2.2.2⟩; have BA := Lib.hid (below_step BD.out ba); clear ba) | (go_at_call 90; refine calls_boom (.string ⟨#[]⟩) (valid11_bad _ 5 (by decide) _) (by exact ⟨rfl, doPost_bad (by decide) BA.out⟩) (fun hno => ?_)))
    clear KS KA
    go_wp2_with fail
    go_ret
    exact hno.out.elim
end Go.Proofs.Ytpajcalfjfkogaa.Pl
