/- The program's own run of steps: bodies of seals, rows. The program's own run of steps: which fields a step of a kind has; whether a step fits. The program's own run of steps: rows. -/
import Derived.Test.YtpajcalfjfkogaaForgeF17
import Derived.Test.YtpajcalfjfkogaaForgeF3
import Derived.Test.YtpajcalfjfkogaaForgeF8
import Derived.Test.YtpajcalfjfkogaaForgeF11
namespace Go.Proofs.Ytpajcalfjfkogaa.Pl
open Go.RowKit

theorem beq_texts {a b : ByteArray} (h : a ≠ b) : (a.toList == b.toList) = false := by
  rw [beq_eq_false_iff_ne, Lib.toList_data, Lib.toList_data]
  exact fun e => h (bl_inj e)
set_option maxHeartbeats 8000000 in
set_option maxRecDepth 100000 in
theorem do11_body (r : Nat) (s : Stp) (lo : Option Addr) (lc : Nat) (was : List ByteArray) (wo : Option Addr) (wc : Nat) (l : List ByteArray) (ao : Option Addr) (cap : Nat) (hx : ∀ x ∈ l, checkP (bl x) = 0) (ha : 0 ≤ s.a ∧ s.a < l.length) (hb : 0 ≤ s.b ∧ s.b < l.length) (e : s.fn = 5) (w : World) (h : RunAt w r was wo wc l ao cap) :
    Calls Try.prog 67 #[ptr11 r, stpV s lo lc] w (DoPost (stepP (was.map bl) (l.map bl) s) w) := by
  rw [step5 _ _ e, termAt_map, termAt_map]
  unfold stpV
  obtain ⟨f, a, b, c, n, tx, li⟩ := s
  simp only at e ha hb ⊢
  subst e
  obtain ⟨k, rfl⟩ := Int.eq_ofNat_of_zero_le ha.1
  obtain ⟨j, rfl⟩ := Int.eq_ofNat_of_zero_le hb.1
  rw [Int.toNat_natCast, Int.toNat_natCast]
  have hk : k < l.length := by omega
  have hj : j < l.length := by omega
  have BW : Hid (∀ v, Below w.heap.size w (w.alloc (.cells v 46))) := Lib.hid (fun v => (Below.refl _ _).alloc (Nat.le_refl _) _)
  have HP := Lib.hid (fun V (hV : Below w.heap.size w V) => parts11_any r was wo wc l ao cap hx k 6 hk V (h.below hV))
  generalize li.length = z at *
  by_cases h6 : kindP (bl (l.getD k ByteArray.empty)) = 6
  · have HP2 := Lib.hid (fun V hV => (HP.out V hV).1 h6)
    obtain ⟨pk, pn, px, e3⟩ := seal_parts h6
    rw [if_pos h6, e3]
    rw [e3] at HP2
    obtain ⟨q, hq⟩ : ∃ q, q = l.length := ⟨_, rfl⟩
    have hj2 : (j : Int) < (q : Int) := by omega
    have hj3 : j < q := by omega
    have hj4 : (0 : Int) ≤ (j : Int) := by omega
    obtain ⟨_, cr⟩ := h.cell
    rcases h.terms with e | ⟨g, off, rfl, hlt, hrow⟩
    · exfalso
      rw [e] at hk
      exact absurd hk (Nat.not_lt_zero _)
    have cj := hrow j hj
    rw [← hq] at cr
    have hrl := World.block_lt_of_cell? _ _ cr
    generalize l.getD j ByteArray.empty = u at *
    clear HP e3 h6 hx ha hb hk hj h hrow
    obtain ⟨W1, hW1⟩ : ∃ V, V = w.alloc (.cells #[.int .u8 5, .int .i64 k, .int .i64 j, .int .i64 c, .int .i64 n, .string tx, .slice lo z lc] 46) := ⟨_, rfl⟩
    have cb : W1.cell? ⟨w.heap.size, 2, none⟩ = some (.int .i64 j) := by rw [hW1]; simp
    have B0 : Hid (Below w.heap.size w W1) := Lib.hid (by rw [hW1]; exact BW.out _)
    have cr1 := (B0.out.cell (p := ⟨r, 1, none⟩) hrl).trans cr
    have cj1 := (B0.out.cell (p := ⟨g, off + j, none⟩) hlt).trans cj
    have hW2 := Lib.hid hW1
    clear hW1 BW cr cj hq hlt hrl
    by_cases hu : bl u = pk
    · subst hu
      go_enter Try.func67, Try.ntmps67
      go_wp2_with fail
      rw [← hW2.out]
      clear hW2
      refine (HP2.out _ B0.out).mono ?_; rintro e w1 ⟨⟨v, L, rfl, ho, hL⟩, b1⟩
      have B1 := Lib.hid (below_step (below_step B0.out b1) (drew11 w1))
      obtain ⟨x0, x1, x2, rfl, e0, rfl, rfl⟩ := map_three hL
      obtain rfl := bl_inj e0
      obtain ⟨po, pcap, rfl, hrow⟩ := ownT_row ho
      rcases hrow with e | ⟨g2, off2, rfl, hlt2, hr⟩
      · cases e
      have c0 := hr 0 (by simp)
      have c2 := hr 2 (by simp)
      simp only [List.getD_cons_succ, List.getD_cons_zero, Nat.add_zero] at c0 c2
      have hbl : (bl x2).toArray = x2.data := by simp [bl]
      have HBL := Lib.hid hbl
      have KS : w1.cell? ⟨g2, off2, none⟩ = some (.string x0) ∧ w1.cell? ⟨r, 1, none⟩ = some (.slice (some ⟨g, off, none⟩) q cap) ∧ w1.cell? ⟨w.heap.size, 2, none⟩ = some (.int .i64 j) ∧ w1.cell? ⟨g, off + j, none⟩ = some (.string x0) ∧ w1.cell? ⟨g2, off2 + 2, none⟩ = some (.string x2) := ⟨c0, cell_keep b1 cr1, cell_keep b1 cb, cell_keep b1 cj1, c2⟩
      clear hr ho b1 hbl HP2 hL e0 c0 c2 cr1 cb cj1
      go_wp2_with fail
      go_region_held3 (fun W => W.cell? ⟨g2, off2, none⟩ = some (.string x0) ∧ W.cell? ⟨r, 1, none⟩ = some (.slice (some ⟨g, off, none⟩) q cap) ∧ W.cell? ⟨w.heap.size, 2, none⟩ = some (.int .i64 j) ∧ W.cell? ⟨g, off + j, none⟩ = some (.string x0) ∧ W.cell? ⟨g2, off2 + 2, none⟩ = some (.string x2)) (first | assumption) (first | (go_at_call 40; refine (need11_ok 80 _).mono ?_; rintro e w2 ⟨rfl, h2⟩; rw [h2]; clear h2 w2))
      obtain ⟨_, _, _, _, c2⟩ := KS
      have c3 : w1.drew.cell? ⟨g2, off2 + 2, none⟩ = some (.string x2) := c2
      go_wp2_with fail
      go_ret
      refine ⟨?_, B1.out⟩
      simp only [if_true, HBL.out]
      rfl
    · rw [if_neg (by simpa using fun e => hu e.symm)]
      go_enter Try.func67, Try.ntmps67
      go_wp2_with fail
      rw [← hW2.out]
      clear hW2
      refine (HP2.out _ B0.out).mono ?_; rintro e w1 ⟨⟨v, L, rfl, ho, hL⟩, b1⟩
      have BD := Lib.hid (below_step (below_step B0.out b1) (drew11 w1))
      obtain ⟨x0, x1, x2, rfl, e0, rfl, rfl⟩ := map_three hL
      have H1 := Lib.hid (beq_texts (a := x0) (b := u) (fun e => hu (by rw [← e]; exact e0)))
      obtain ⟨po, pcap, rfl, hrow⟩ := ownT_row ho
      rcases hrow with e | ⟨g2, off2, rfl, hlt2, hr⟩
      · cases e
      have c0 := hr 0 (by simp)
      simp only [List.getD_cons_zero, Nat.add_zero] at c0
      have KS : w1.cell? ⟨g2, off2, none⟩ = some (.string x0) ∧ w1.cell? ⟨r, 1, none⟩ = some (.slice (some ⟨g, off, none⟩) q cap) ∧ w1.cell? ⟨w.heap.size, 2, none⟩ = some (.int .i64 j) ∧ w1.cell? ⟨g, off + j, none⟩ = some (.string u) := ⟨c0, cell_keep b1 cr1, cell_keep b1 cb, cell_keep b1 cj1⟩
      clear hr ho b1 HP2 hL e0 c0 cr1 cb cj1 hu
      go_wp2_with fail
      -- region tag
      refine wp_region_held_drew (S := fun W => W.cell? ⟨g2, off2, none⟩ = some (.string x0) ∧ W.cell? ⟨r, 1, none⟩ = some (.slice (some ⟨g, off, none⟩) q cap) ∧ W.cell? ⟨w.heap.size, 2, none⟩ = some (.int .i64 j) ∧ W.cell? ⟨g, off + j, none⟩ = some (.string u)) (by kernel_rfl) (by first | assumption | (exact KS)) (fun hHeld => ?_)
      refine wpAnyH_take (i := 0) (oi := { dst := some 10, op := Op.move (Operand.tmp 5), type := 22, pos := "forge.go:97", after := #[], guard := none }) (v := ?_) rfl (by kernel_rfl) (by kernel_rfl) (by kernel_rfl) (fun _ _ _ h => h) (Or.inl ⟨by rfl, ?_⟩) (by assumption) ?_
      rotate_left 1
      · (intro w hSw; (try dsimp only at hSw); go_simp; try with_reducible rfl)
      (try simp only [Act.put, List.setIfInBounds_toArray, List.set_cons_zero, List.set_cons_succ])
      refine wpAnyH_take (i := 1) (oi := { dst := some 11, op := Op.indexAddr 22 (Operand.tmp 10) (Operand.const (Value.int IntKind.i64 0)), type := 0, pos := "forge.go:97", after := #[{ on := 0, ground := Ground.data }], guard := none }) (v := ?_) rfl (by kernel_rfl) (by kernel_rfl) (by kernel_rfl) (fun _ _ _ h => h) (Or.inl ⟨by rfl, ?_⟩) (by assumption) ?_
      rotate_left 1
      · (intro w hSw; (try dsimp only at hSw); go_simp; try with_reducible rfl)
      (try simp only [Act.put, List.setIfInBounds_toArray, List.set_cons_zero, List.set_cons_succ])
      refine wpAnyH_take (i := 2) (oi := { dst := some 12, op := Op.load 9 (Operand.tmp 11), type := 9, pos := "forge.go:97", after := #[{ on := 1, ground := Ground.data }], guard := none }) (v := ?_) rfl (by kernel_rfl) (by kernel_rfl) (by kernel_rfl) (fun _ _ _ h => h) (Or.inl ⟨by rfl, ?_⟩) (by assumption) ?_
      rotate_left 1
      · (intro w hSw; (try dsimp only at hSw); go_simp; try with_reducible rfl)
      (try simp only [Act.put, List.setIfInBounds_toArray, List.set_cons_zero, List.set_cons_succ])
      refine wpAnyH_take (i := 3) (oi := { dst := some 13, op := Op.move (Operand.tmp 0), type := 67, pos := "forge.go:97", after := #[], guard := none }) (v := ?_) rfl (by kernel_rfl) (by kernel_rfl) (by kernel_rfl) (fun _ _ _ h => h) (Or.inl ⟨by rfl, ?_⟩) (by assumption) ?_
      rotate_left 1
      · (intro w hSw; (try dsimp only at hSw); go_simp; try with_reducible rfl)
      (try simp only [Act.put, List.setIfInBounds_toArray, List.set_cons_zero, List.set_cons_succ])
      refine wpAnyH_take (i := 4) (oi := { dst := some 14, op := Op.nilCheck (Operand.tmp 13), type := 0, pos := "forge.go:97", after := #[{ on := 3, ground := Ground.data }], guard := none }) (v := ?_) rfl (by kernel_rfl) (by kernel_rfl) (by kernel_rfl) (fun _ _ _ h => h) (Or.inl ⟨by rfl, ?_⟩) (by assumption) ?_
      rotate_left 1
      · (intro w hSw; (try dsimp only at hSw); go_simp; try with_reducible rfl)
      (try simp only [Act.put, List.setIfInBounds_toArray, List.set_cons_zero, List.set_cons_succ])
      refine wpAnyH_take (i := 5) (oi := { dst := some 15, op := Op.fieldAddr 69 (Operand.tmp 14) 1, type := 0, pos := "forge.go:97", after := #[{ on := 4, ground := Ground.data }], guard := none }) (v := ?_) rfl (by kernel_rfl) (by kernel_rfl) (by kernel_rfl) (fun _ _ _ h => h) (Or.inl ⟨by rfl, ?_⟩) (by assumption) ?_
      rotate_left 1
      · (intro w hSw; (try dsimp only at hSw); go_simp; try with_reducible rfl)
      (try simp only [Act.put, List.setIfInBounds_toArray, List.set_cons_zero, List.set_cons_succ])
      refine wpAnyH_take (i := 6) (oi := { dst := some 16, op := Op.load 22 (Operand.tmp 15), type := 22, pos := "forge.go:97", after := #[{ on := 5, ground := Ground.data }], guard := none }) (v := ?_) rfl (by kernel_rfl) (by kernel_rfl) (by kernel_rfl) (fun _ _ _ h => h) (Or.inl ⟨by rfl, ?_⟩) (by assumption) ?_
      rotate_left 1
      · (intro w hSw; (try dsimp only at hSw); go_simp; try with_reducible rfl)
      (try simp only [Act.put, List.setIfInBounds_toArray, List.set_cons_zero, List.set_cons_succ])
      refine wpAnyH_take (i := 7) (oi := { dst := some 17, op := Op.fieldAddr 46 (Operand.tmp 3) 2, type := 0, pos := "forge.go:97", after := #[], guard := none }) (v := ?_) rfl (by kernel_rfl) (by kernel_rfl) (by kernel_rfl) (fun _ _ _ h => h) (Or.inl ⟨by rfl, ?_⟩) (by assumption) ?_
      rotate_left 1
      · (intro w hSw; (try dsimp only at hSw); go_simp; try with_reducible rfl)
      (try simp only [Act.put, List.setIfInBounds_toArray, List.set_cons_zero, List.set_cons_succ])
      refine wpAnyH_take (i := 8) (oi := { dst := some 18, op := Op.load 3 (Operand.tmp 17), type := 3, pos := "forge.go:97", after := #[{ on := 7, ground := Ground.data }], guard := none }) (v := ?_) rfl (by kernel_rfl) (by kernel_rfl) (by kernel_rfl) (fun _ _ _ h => h) (Or.inl ⟨by rfl, ?_⟩) (by assumption) ?_
      rotate_left 1
      · (intro w hSw; (try dsimp only at hSw); go_simp; try with_reducible rfl)
      (try simp only [Act.put, List.setIfInBounds_toArray, List.set_cons_zero, List.set_cons_succ])
      refine wpAnyH_take (i := 9) (oi := { dst := some 19, op := Op.indexAddr 22 (Operand.tmp 16) (Operand.tmp 18), type := 0, pos := "forge.go:97", after := #[{ on := 6, ground := Ground.data }, { on := 8, ground := Ground.data }], guard := none }) (v := ?_) rfl (by kernel_rfl) (by kernel_rfl) (by kernel_rfl) (fun _ _ _ h => h) (Or.inl ⟨by rfl, ?_⟩) (by assumption) ?_
      rotate_left 1
      · (intro w hSw; (try dsimp only at hSw); go_simp; try with_reducible rfl)
      (try simp only [Act.put, List.setIfInBounds_toArray, List.set_cons_zero, List.set_cons_succ])
      refine wpAnyH_take (i := 10) (oi := { dst := some 20, op := Op.load 9 (Operand.tmp 19), type := 9, pos := "forge.go:97", after := #[{ on := 9, ground := Ground.data }], guard := none }) (v := ?_) rfl (by kernel_rfl) (by kernel_rfl) (by kernel_rfl) (fun _ _ _ h => h) (Or.inl ⟨by rfl, ?_⟩) (by assumption) ?_
      rotate_left 1
      · (intro w hSw; (try dsimp only at hSw); go_simp; try with_reducible rfl)
      (try simp only [Act.put, List.setIfInBounds_toArray, List.set_cons_zero, List.set_cons_succ])
      refine wpAnyH_take (i := 11) (oi := { dst := some 21, op := Op.binOp BinOp.eql 9 (Operand.tmp 12) (Operand.tmp 20) 9, type := 4, pos := "forge.go:97", after := #[{ on := 2, ground := Ground.data }, { on := 10, ground := Ground.data }], guard := none }) (v := .bool false) rfl (by kernel_rfl) (by kernel_rfl) (by kernel_rfl) (fun _ _ _ h => h) (Or.inl ⟨by rfl, ?_⟩) (by assumption) ?_
      · (intro w hSw; (try dsimp only at hSw); go_simp; first | done | exact H1.out | simpa using H1.out)
      (try simp only [Act.put, List.setIfInBounds_toArray, List.set_cons_zero, List.set_cons_succ])
      refine wpAnyH_ready (rs := [12]) (by kernel_rfl) (by simp) ?_
      refine AllReadyH.cons (o := { dst := some 22, op := Op.call { callee := Callee.value (Operand.func 40), args := #[Operand.tmp 21, Operand.const (Value.int IntKind.i64 80)], argTypes := #[4, 27] }, type := 0, pos := "forge.go:97", after := #[{ on := 11, ground := Ground.data }], guard := none }) rfl (fun K hK => ?_) AllReadyH.nil
      go_simp
      go_at_call 40
      refine (need11_bad 80 _).mono ?_; rintro e w2 ⟨rfl, rfl⟩
      exact ⟨rfl, doPost_bad (by decide) BD.out⟩
      -- end
  · have HP2 := Lib.hid (fun V hV => (HP.out V hV).2 h6)
    rw [if_neg h6]
    clear HP h6 hx ha hb hk hj h
    go_enter Try.func67, Try.ntmps67
    go_wp2_with fail
    refine (HP2.out _ (BW.out _)).mono ?_; rintro e w1 ⟨rfl, b1⟩
    exact ⟨rfl, doPost_bad (by decide) (below_step (BW.out _) b1)⟩
end Go.Proofs.Ytpajcalfjfkogaa.Pl

namespace Go.Proofs.Ytpajcalfjfkogaa.Pl
open Go.RowKit

theorem earlier_any (v : Int) (k : Nat) (w : World) : Calls Try.prog 72 #[.int .i64 v, .int .i64 k] w fun e w' => e = .returned (.bool (decide (0 ≤ v ∧ v < k))) ∧ w' = w := by
  by_cases h0 : 0 ≤ v
  · by_cases h1 : v < k
    · rw [decide_eq_true ⟨h0, h1⟩]
      go_enter Try.func72, Try.ntmps72
      go_wp2_with fail
      go_ret
      exact ⟨by simp, rfl⟩
    · rw [decide_eq_false (fun h => h1 h.2)]
      go_enter Try.func72, Try.ntmps72
      go_wp2_with fail
      go_ret
      exact ⟨by simp, rfl⟩
  · rw [decide_eq_false (fun h => h0 h.1)]
    go_enter Try.func72, Try.ntmps72
    go_wp2_with fail
    go_ret
    exact ⟨by simp, rfl⟩
end Go.Proofs.Ytpajcalfjfkogaa.Pl

namespace Go.Proofs.Ytpajcalfjfkogaa.Pl
open Go.RowKit

theorem ownT_cap11 {w : World} {A : Nat} {v : Value} {l : List ByteArray} (h : OwnT w A v l) : ∃ ao cap, v = .slice ao l.length cap ∧ l.length ≤ cap ∧ TxtRow w ao l := by
  obtain ⟨ao, cap, e, hrow⟩ := ownT_row h
  refine ⟨ao, cap, e, ?_, hrow⟩
  rcases h.2 with ⟨rfl, h0⟩ | ⟨g, c, cur, rfl, _, _, hc, _⟩
  · omega
  · injection e with _ _ e3; omega
set_option maxHeartbeats 8000000 in
set_option maxRecDepth 100000 in
theorem do11_row (r : Nat) (s : Stp) (lo : Option Addr) (lc : Nat) (was : List ByteArray) (wo : Option Addr) (wc : Nat) (l : List ByteArray) (ao : Option Addr) (cap : Nat) (hx : ∀ x ∈ l, checkP (bl x) = 0) (hli : ∀ v ∈ s.list, 0 ≤ v ∧ v < l.length) (e : s.fn = 6) (w : World) (h : RunAt w r was wo wc l ao cap) (hrow2 : IntRow w lo s.list) :
    Calls Try.prog 68 #[ptr11 r, stpV s lo lc] w (DoPost (stepP (was.map bl) (l.map bl) s) w) := by
  rw [step6 _ _ e]
  unfold stpV
  obtain ⟨f, a, b, c, n0, tx, li⟩ := s
  simp only at e hli hrow2 ⊢
  subst e
  have HROW2 := Lib.hid (fun V (hV : Below w.heap.size w V) => hrow2.below hV)
  have HRUN := Lib.hid (fun V (hV : Below w.heap.size w V) => h.below hV)
  obtain ⟨m, hm⟩ : ∃ m, m = li.length := ⟨_, rfl⟩
  have HM := Lib.hid hm
  have h5 : ∀ k, (rowP ((li.take k).map (termAt (l.map bl)))).2 ≠ 0 → rowP ((li.take k).map (termAt (l.map bl))) = ([], 5) := fun k => made_five (fun y hy => by
    obtain ⟨v, hv, rfl⟩ := List.mem_map.1 hy
    rw [termAt_map]
    exact hx _ (term_in (hli v (List.mem_of_mem_take hv))))
  obtain ⟨W1, hW1⟩ : ∃ V, V = w.alloc (.cells #[.int .u8 6, .int .i64 a, .int .i64 b, .int .i64 c, .int .i64 n0, .string tx, .slice lo m lc] 46) := ⟨_, rfl⟩
  have cl : W1.cell? ⟨w.heap.size, 6, none⟩ = some (.slice lo m lc) := by rw [hW1]; simp
  have B0 : Hid (Below w.heap.size w W1) := Lib.hid (by rw [hW1]; exact (Below.refl _ _).alloc (Nat.le_refl _) _)
  have hW2 := Lib.hid hW1
  rw [← hm]
  clear hW1
  by_cases h32 : m ≤ 32
  · have h32' : (m : Int) ≤ 32 := by omega
    have HLI : Hid (∀ j, (hj : j < li.length) → 0 ≤ li[j] ∧ li[j] < (l.length : Int)) := Lib.hid (fun j hj => hli _ (List.getElem_mem hj))
    have HTM : Hid (∀ k, ((li.take k).map fun v => l.getD v.toNat ByteArray.empty).map bl = (li.take k).map (termAt (l.map bl))) := Lib.hid (fun k => by
      rw [List.map_map]
      apply List.map_congr_left
      intro v _
      exact (termAt_map l v).symm)
    have HXX : Hid (∀ k, ∀ x ∈ ((li.take k).map fun v => l.getD v.toNat ByteArray.empty), x.size ≤ 100000) := Lib.hid (fun k x hx2 => by
      obtain ⟨v, hv, rfl⟩ := List.mem_map.1 hx2
      have := check_len (hx _ (term_in (hli v (List.mem_of_mem_take hv))))
      rw [← size_bl] at this
      omega)
    have HTK : Hid (li.take 33 = li.take m) := Lib.hid (by rw [List.take_of_length_le (by omega), List.take_of_length_le (by omega)])
    rw [HTK.out]
    have H5 := Lib.hid (h5 m)
    obtain ⟨P, hP⟩ : ∃ P, P = rowP ((li.take m).map (termAt (l.map bl))) := ⟨_, rfl⟩
    have HP := Lib.hid hP
    rw [← hP] at H5
    rw [← hP]
    obtain ⟨n, hn⟩ : ∃ n, n = l.length := ⟨_, rfl⟩
    have HN := Lib.hid hn
    rw [← hn] at HLI
    clear hx hli h hrow2 hm hP h5 h32 hn
    go_enter Try.func68, Try.ntmps68
    go_wp2_with fail
    rw [← hW2.out]
    clear hW2
    go_wp2_with (go_at_call 40; refine (need11_ok 5 _).mono ?_; rintro e w2 ⟨rfl, h2⟩; rw [h2]; clear h2 w2)
    clear cl
    go_loopw [5, 16] (fun pv iv wr => ∃ j : Nat, iv = .int .i64 j ∧ j ≤ m ∧ Hid (OwnT wr W1.heap.size pv ((li.take j).map fun v => l.getD v.toNat ByteArray.empty)) ∧ Hid (Below W1.heap.size W1 wr)) (fun _ iv _ => m - (intOf iv).toNat)
    case atStart => exact ⟨0, rfl, Nat.zero_le _, Lib.hid (ownT_nil _ _), Lib.hid (Below.refl _ _)⟩
    case round =>
      obtain ⟨j, rfl, hjm, hown, hb⟩ := hrel
      have BW := Lib.hid (below_step B0.out hb.out)
      by_cases hj : j < m
      · have hj' : (j : Int) < (m : Int) := by omega
        have hjl : j < li.length := by rw [← HM.out]; exact hj
        rcases HROW2.out _ BW.out with e | ⟨g, off, rfl, hlt, hc⟩
        · exfalso
          rw [e] at hjl
          exact absurd hjl (Nat.not_lt_zero _)
        have cj := hc j hjl
        obtain ⟨hx0, hx1⟩ := HLI.out j hjl
        have HNX : Hid ((li.take (j + 1)).map (fun v => l.getD v.toNat ByteArray.empty) = (li.take j).map (fun v => l.getD v.toNat ByteArray.empty) ++ [l.getD li[j].toNat ByteArray.empty]) := Lib.hid (by
          rw [List.take_succ_eq_append_getElem hjl, List.map_append]
          rfl)
        generalize li[j] = x at *
        obtain ⟨k, rfl⟩ := Int.eq_ofNat_of_zero_le hx0
        rw [Int.toNat_natCast] at HNX
        have hkn : k < n := by omega
        have hkl : k < l.length := by rw [← HN.out]; exact hkn
        have hk0 : (0 : Int) ≤ (k : Int) := by omega
        have hrun := HRUN.out _ BW.out
        obtain ⟨_, cr⟩ := hrun.cell
        rw [← HN.out] at cr
        rcases hrun.terms with e | ⟨g2, off2, rfl, hlt2, hc2⟩
        · exfalso
          rw [e] at hkl
          exact absurd hkl (Nat.not_lt_zero _)
        have ck := hc2 k hkl
        generalize l.getD k ByteArray.empty = t at *
        have HS := Lib.hid hb.out.size
        have HLN : Hid (((li.take j).map (fun v => l.getD v.toNat ByteArray.empty)).length ≤ 1000000000) := Lib.hid (by rw [List.length_map, List.length_take]; omega)
        have HJ : Hid (j + 1 ≤ m) := Lib.hid hj
        generalize (li.take j).map (fun v => l.getD v.toNat ByteArray.empty) = D at *
        clear hc hc2 hlt hlt2 hjl hkl hrun
        go_wp2_with (at_builtin; refine wpList_app10 rfl _ _ rfl rfl t rfl rfl hown.out HS.out HLN.out ?_; intro v' w4 ho4 hg4 _; have O4 := Lib.hid ho4; have B4 := Lib.hid (hb.out.trans (below_push11 hown.out HS.out hg4)); clear ho4 hg4)
        go_roundw
        case rel => exact ⟨j + 1, by go_num, HJ.out, Lib.hid (by rw [HNX.out]; exact O4.out), B4⟩
        case measure => simp [intOf]; omega
      · obtain rfl : j = m := by omega
        have hl33 : ((li.take j).map (fun v => l.getD v.toNat ByteArray.empty)).length ≤ 1000 := by rw [List.length_map, List.length_take]; omega
        have hxx := HXX.out j
        obtain ⟨a6, c6, rfl, hc6, hr6⟩ := ownT_cap11 hown.out
        have HR := Lib.hid (row6_any _ a6 c6 hc6 hl33 hxx wr hr6)
        rw [HTM.out j, ← HP.out] at HR
        generalize ((li.take j).map (fun v => l.getD v.toNat ByteArray.empty)).length = q at *
        clear hl33 hxx hr6 hc6 hown
        by_cases hz : P.2 = 0
        · obtain ⟨t, z⟩ := P
          obtain rfl : z = 0 := hz
          unfold st2 at HR
          simp only at HR
          clear HP H5
          go_wp2_with fail
          refine HR.out.mono ?_; rintro e w5 ⟨rfl, b5⟩
          have B5 := Lib.hid (below_step BW.out b5)
          clear b5 HR
          go_wp2_with (go_at_call 90; refine (valid11_ok _ _).mono ?_; rintro e w6 ⟨rfl, h6⟩; rw [h6]; clear h6 w6)
          go_ret
          exact doPost_ok B5.out
        · obtain rfl := H5.out hz
          unfold st2 at HR
          simp only at HR
          clear HP H5 hz
          go_wp2_with fail
          refine HR.out.mono ?_; rintro e w5 ⟨rfl, b5⟩
          have B5 := Lib.hid (below_step BW.out b5)
          clear b5 HR
          go_wp2_with (go_at_call 90; refine (valid11_bad _ 5 (by decide) _).mono ?_; rintro e w6 ⟨rfl, h6⟩; rw [h6]; clear h6 w6)
          exact ⟨rfl, doPost_bad (by decide) B5.out⟩
  · have hP : rowP ((li.take 33).map (termAt (l.map bl))) = ([], 5) := by
      refine h5 33 (fun hz => ?_)
      have hlen : ((li.take 33).map (termAt (l.map bl))).length = 33 := by rw [List.length_map, List.length_take]; omega
      obtain ⟨M, q1, q2, q3⟩ := row_parts (l := (li.take 33).map (termAt (l.map bl))) (by rw [hlen]; omega) (Prod.ext rfl hz)
      have hg := q1.1
      simp only [Tm.good] at hg
      obtain ⟨c, hk⟩ := head_kind hg.1
      have := (kd_le10 hk).1
      have h2 := congrArg List.length q3
      rw [List.length_map, hlen] at h2
      omega
    rw [hP]
    have H1 := Lib.hid (fun (inst : Decidable ((m : Int) ≤ 32)) => @decide_eq_false _ inst (by omega))
    clear hx hli h hrow2 hm hP h5 h32
    go_enter Try.func68, Try.ntmps68
    go_wp2_with fail
    rw [← hW2.out]
    clear hW2
    go_wp2_with (go_at_call 40; rw [H1.out _]; refine (need11_bad 5 _).mono ?_; rintro e w2 ⟨rfl, rfl⟩)
    exact ⟨rfl, doPost_bad (by decide) B0.out⟩
end Go.Proofs.Ytpajcalfjfkogaa.Pl
