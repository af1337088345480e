/- The document's May of layer 12. -/
import Derived.Test.YthemopejebioaaaGreatWireY19
import Derived.Test.YthemopejebioaaaGreatWireY21
import Derived.Test.YthemopejebioaaaGreatWireY16
namespace Go.Proofs.YthemopejebioaaaGreat.Pl
open Go.RowKit

theorem bare_row (m : Ms) (ao : Option Addr) (cap : Nat) : ∃ bo bc, bareV m (.slice ao m.mem.length cap) = .slice bo (bareP m).mem.length bc ∧ (∀ V, MemRow V ao m.mem → MemRow V bo (bareP m).mem) ∧ (bareP m).mem.length ≤ m.mem.length := by
  by_cases h1 : m.kind = 1
  · have e1 : (bareP m).mem = m.mem := by unfold bareP; rw [if_pos h1]
    exact ⟨ao, cap, by unfold bareV; rw [if_pos h1, e1], fun V h => by rw [e1]; exact h, by rw [e1]; exact Nat.le_refl _⟩
  · have e1 : (bareP m).mem = [] := by
      unfold bareP; rw [if_neg h1]
      by_cases h2 : m.kind = 2
      · rw [if_pos h2]
      · rw [if_neg h2]
        by_cases h3 : m.kind = 3
        · rw [if_pos h3]
        · rw [if_neg h3]
          by_cases h6 : m.kind = 6
          · rw [if_pos h6]
          · rw [if_neg h6]
    exact ⟨none, 0, by unfold bareV; rw [if_neg h1, e1]; rfl, fun V h => by rw [e1]; exact .inl rfl, by rw [e1]; exact Nat.zero_le _⟩
theorem may_bare {m : Ms} (h : mayP m = true) : bareP m = m := by
  have hk := may_kind h
  obtain ⟨k, c, e, q, aud, mem, body, yes, tag⟩ := m
  dsimp only at hk
  have hc : k = 1 ∨ k = 2 ∨ k = 3 ∨ k = 4 ∨ k = 5 ∨ k = 6 := by omega
  rcases hc with rfl | rfl | rfl | rfl | rfl | rfl
  · have h' : (mayX c e q && orgP aud && mayL c mem && termP body && !votesP ⟨1, c, e, q, aud, mem, body, yes, tag⟩) = true := h
    simp only [Bool.and_eq_true, Bool.not_eq_true'] at h'
    obtain ⟨r1, r2⟩ := zero_votes h'.2
    dsimp only at r1 r2; subst r1; subst r2; rfl
  · have h' : (mayX c e q && !asksP ⟨2, c, e, q, aud, mem, body, yes, tag⟩ && ((yes && termP tag) || !votesP ⟨2, c, e, q, aud, mem, body, yes, tag⟩)) = true := h
    simp only [Bool.and_eq_true, Bool.not_eq_true'] at h'
    obtain ⟨r1, r2, r3⟩ := zero_asks h'.1.2
    dsimp only at r1 r2 r3; subst r1; subst r2; subst r3
    cases yes with
    | true => rfl
    | false =>
      have h3 := h'.2
      simp only [Bool.false_and, Bool.false_or, Bool.not_eq_true'] at h3
      obtain ⟨_, r5⟩ := zero_votes h3
      dsimp only at r5; subst r5; rfl
  · have h' : (mayX c e q && !asksP ⟨3, c, e, q, aud, mem, body, yes, tag⟩ && decide (tag.size = 0)) = true := h
    simp only [Bool.and_eq_true, Bool.not_eq_true', decide_eq_true_eq] at h'
    obtain ⟨r1, r2, r3⟩ := zero_asks h'.1.2
    dsimp only at r1 r2 r3; subst r1; subst r2; subst r3
    have r5 := empty_of h'.2
    subst r5; rfl
  · have h' : (mayX c e q && !asksP ⟨4, c, e, q, aud, mem, body, yes, tag⟩ && !votesP ⟨4, c, e, q, aud, mem, body, yes, tag⟩) = true := h
    simp only [Bool.and_eq_true, Bool.not_eq_true'] at h'
    obtain ⟨r1, r2, r3⟩ := zero_asks h'.1.2
    obtain ⟨r4, r5⟩ := zero_votes h'.2
    dsimp only at r1 r2 r3 r4 r5; subst r1; subst r2; subst r3; subst r4; subst r5; rfl
  · have h' : (mayX c e q && !asksP ⟨5, c, e, q, aud, mem, body, yes, tag⟩ && !votesP ⟨5, c, e, q, aud, mem, body, yes, tag⟩) = true := h
    simp only [Bool.and_eq_true, Bool.not_eq_true'] at h'
    obtain ⟨r1, r2, r3⟩ := zero_asks h'.1.2
    obtain ⟨r4, r5⟩ := zero_votes h'.2
    dsimp only at r1 r2 r3 r4 r5; subst r1; subst r2; subst r3; subst r4; subst r5; rfl
  · have h' : (decide (c = 0 ∧ e = 0 ∧ q = 0) && !asksP ⟨6, c, e, q, aud, mem, body, yes, tag⟩ && !votesP ⟨6, c, e, q, aud, mem, body, yes, tag⟩) = true := h
    simp only [Bool.and_eq_true, Bool.not_eq_true', decide_eq_true_eq] at h'
    obtain ⟨r1, r2, r3⟩ := zero_asks h'.1.2
    obtain ⟨r4, r5⟩ := zero_votes h'.2
    obtain ⟨⟨⟨q1, q2, q3⟩, _⟩, _⟩ := h'
    dsimp only at r1 r2 r3 r4 r5; subst r1; subst r2; subst r3; subst r4; subst r5; subst q1; subst q2; subst q3; rfl
theorem may_unlike {m : Ms} (h : ¬ bareP m = m) : mayP m = false := by
  cases k : mayP m with
  | false => rfl
  | true => exact absurd (may_bare k) h
/-- A message that is bare: what its kind asks. -/
def wantP (m : Ms) : Bool :=
  if m.kind = 6 then true else mayX m.c m.e m.q && (if m.kind = 1 then orgP m.aud && (mayL m.c m.mem && termP m.body) else if m.kind = 2 then !m.yes || termP m.tag else true)
theorem may_want {m : Ms} (hk : 1 ≤ m.kind ∧ m.kind ≤ 6) (hb : bareP m = m) : mayP m = wantP m := by
  obtain ⟨k, c, e, q, aud, mem, body, yes, tag⟩ := m
  dsimp only at hk
  have hc : k = 1 ∨ k = 2 ∨ k = 3 ∨ k = 4 ∨ k = 5 ∨ k = 6 := by omega
  rcases hc with rfl | rfl | rfl | rfl | rfl | rfl
  · have hb' : (⟨1, c, e, q, aud, mem, body, false, ⟨#[]⟩⟩ : Ms) = ⟨1, c, e, q, aud, mem, body, yes, tag⟩ := hb
    simp only [Ms.mk.injEq, true_and] at hb'
    obtain ⟨r1, r2⟩ := hb'; subst r1; subst r2
    show (mayX c e q && orgP aud && mayL c mem && termP body && true) = (mayX c e q && (orgP aud && (mayL c mem && termP body)))
    simp only [Bool.and_assoc, Bool.and_true]
  · have hb' : (⟨2, c, e, q, 0, [], ⟨#[]⟩, yes, if yes = true then tag else ⟨#[]⟩⟩ : Ms) = ⟨2, c, e, q, aud, mem, body, yes, tag⟩ := hb
    simp only [Ms.mk.injEq, true_and] at hb'
    obtain ⟨r1, r2, r3, r4⟩ := hb'
    subst r1; subst r2; subst r3
    cases yes with
    | true => show (mayX c e q && true && ((true && termP tag) || false)) = (mayX c e q && (false || termP tag)); simp
    | false =>
      simp only [Bool.false_eq_true, if_false] at r4
      subst r4
      show (mayX c e q && true && (false || true)) = (mayX c e q && true)
      simp
  · have hb' : (⟨3, c, e, q, 0, [], ⟨#[]⟩, yes, ⟨#[]⟩⟩ : Ms) = ⟨3, c, e, q, aud, mem, body, yes, tag⟩ := hb
    simp only [Ms.mk.injEq, true_and] at hb'
    obtain ⟨r1, r2, r3, r4⟩ := hb'
    subst r1; subst r2; subst r3; subst r4
    show (mayX c e q && true && true) = (mayX c e q && true)
    simp
  · have hb' : (⟨4, c, e, q, 0, [], ⟨#[]⟩, false, ⟨#[]⟩⟩ : Ms) = ⟨4, c, e, q, aud, mem, body, yes, tag⟩ := hb
    simp only [Ms.mk.injEq, true_and] at hb'
    obtain ⟨r1, r2, r3, r4, r5⟩ := hb'
    subst r1; subst r2; subst r3; subst r4; subst r5
    show (mayX c e q && true && true) = (mayX c e q && true)
    simp
  · have hb' : (⟨5, c, e, q, 0, [], ⟨#[]⟩, false, ⟨#[]⟩⟩ : Ms) = ⟨5, c, e, q, aud, mem, body, yes, tag⟩ := hb
    simp only [Ms.mk.injEq, true_and] at hb'
    obtain ⟨r1, r2, r3, r4, r5⟩ := hb'
    subst r1; subst r2; subst r3; subst r4; subst r5
    show (mayX c e q && true && true) = (mayX c e q && true)
    simp
  · have hb' : (⟨6, 0, 0, 0, 0, [], ⟨#[]⟩, false, ⟨#[]⟩⟩ : Ms) = ⟨6, c, e, q, aud, mem, body, yes, tag⟩ := hb
    simp only [Ms.mk.injEq, true_and] at hb'
    obtain ⟨q1, q2, q3, r1, r2, r3, r4, r5⟩ := hb'
    subst q1; subst q2; subst q3; subst r1; subst r2; subst r3; subst r4; subst r5
    rfl
theorem word_some {k : Nat} (h : 1 ≤ k ∧ k ≤ 6) : tb (wordP k) ≠ ⟨#[]⟩ := by
  intro e
  have e2 : wordP k = [] := tb_inj e
  have hc : k = 1 ∨ k = 2 ∨ k = 3 ∨ k = 4 ∨ k = 5 ∨ k = 6 := by omega
  rcases hc with rfl | rfl | rfl | rfl | rfl | rfl <;> cases e2

set_option maxHeartbeats 8000000 in
set_option maxRecDepth 100000 in
theorem rmay12_any (m : Ms) (ao : Option Addr) (cap : Nat) (hb : m.body.size ≤ 281474976710656) (ht : m.tag.size ≤ 281474976710656) (hms : ∀ x ∈ m.mem, x.2.size ≤ 281474976710656) (hml : m.mem.length ≤ 1000000) (w : World) (hrow : MemRow w ao m.mem) :
    Calls Tryz.prog 12 #[.agg (msC m (.slice ao m.mem.length cap))] w fun x w' => x = .returned (.bool (mayP m)) ∧ Below w.heap.size w w' := by
  have HW := fun V => rword_any m.kind V
  obtain ⟨bo, bc, hbv, hbr, hbl⟩ := bare_row m ao cap
  have HB := fun V => rbare12_any m ao m.mem.length cap V
  rw [hbv] at HB
  have HS := fun V (hV : Below w.heap.size w V) => same_any (bareP m) m bo ao bc cap (Nat.le_trans hbl hml) V (hbr V (hrow.below hV)) (hrow.below hV)
  have HX := fun V => rmaytxn_any m.c m.e m.q V
  have HO := Lib.hid (fun V => rorg_any m.aud V)
  have HL := Lib.hid (fun V (hV : Below w.heap.size w V) => rmaymems_any m.c m.e m.q m.mem ao cap hms (by omega) V (hrow.below hV))
  have HTB := Lib.hid (fun V => rmay_any m.body hb V)
  have HTG := Lib.hid (fun V => rmay_any m.tag ht V)
  obtain ⟨W0, hW0⟩ : ∃ V, V = w.alloc (.cells (msC m (.slice ao m.mem.length cap)) 26) := ⟨_, rfl⟩
  have g0 : GAt W0 w.heap.size m (.slice ao m.mem.length cap) := by rw [hW0]; exact gat_new _ _ _
  have b0 : Below w.heap.size w W0 := by rw [hW0]; exact (Below.refl _ _).alloc (Nat.le_refl _) _
  have hun : ¬ bareP m = m → mayP m = false := may_unlike
  have hno : ¬ (1 ≤ m.kind ∧ m.kind ≤ 6) → mayP m = false := fun h => by
    cases k : mayP m with
    | false => rfl
    | true => exact absurd (may_kind k) h
  have hwa : 1 ≤ m.kind ∧ m.kind ≤ 6 → bareP m = m → mayP m = wantP m := fun h1 h2 => may_want h1 h2
  have HWS := @word_some m.kind
  have HWN := @word_none m.kind
  unfold wantP at hwa
  generalize bareP m = bm at *
  obtain ⟨E, hE⟩ : ∃ E, E = eqM bm m := ⟨_, rfl⟩
  have hET : E = true → bm = m := fun h => by
    apply Classical.byContradiction
    intro k
    rw [hE, eqM_no k] at h; cases h
  have hEF : E = false → ¬ bm = m := fun h k => by rw [hE, eqM_yes k] at h; cases h
  rw [← hE] at HS
  clear hE
  generalize mayP m = Z at *
  have HB := Lib.hid HB
  have HS := Lib.hid HS
  obtain ⟨n, hn⟩ : ∃ n, n = m.mem.length := ⟨_, rfl⟩
  rw [← hn] at HB HS HL g0 hW0 hml
  rw [← hn]
  clear hbv hbr hbl hn hrow hms hb ht
  obtain ⟨k, c, e, q, aud, mem, body, yes, tag⟩ := m
  dsimp only [msC] at *
  have GG := Lib.hid (g0.below (drew12 W0))
  have BB := Lib.hid (below_step b0 (drew12 W0))
  have HCE : Hid (∀ V, GAt V w.heap.size ⟨k, c, e, q, aud, mem, body, yes, tag⟩ (.slice ao n cap) → V.cell? ⟨w.heap.size, 0, none⟩ = some (.int .u8 k) ∧ V.cell? ⟨w.heap.size, 1, none⟩ = some (.int .i64 c) ∧ V.cell? ⟨w.heap.size, 2, none⟩ = some (.int .i64 e) ∧ V.cell? ⟨w.heap.size, 3, none⟩ = some (.int .i64 q) ∧ V.cell? ⟨w.heap.size, 4, none⟩ = some (.int .i64 aud) ∧ V.cell? ⟨w.heap.size, 5, none⟩ = some (.slice ao n cap) ∧ V.cell? ⟨w.heap.size, 6, none⟩ = some (.string body) ∧ V.cell? ⟨w.heap.size, 7, none⟩ = some (.bool yes) ∧ V.cell? ⟨w.heap.size, 8, none⟩ = some (.string tag)) := Lib.hid (fun V h => h.cells)
  have KS := HCE.out _ GG.out
  have HW0 := Lib.hid hW0
  clear hW0 g0 b0
  by_cases hk : 1 ≤ k ∧ k ≤ 6
  · have hwd := HWS hk
    generalize tb (wordP k) = wd at *
    have hwe : (wd.toList == (⟨#[]⟩ : ByteArray).toList) = false := (str_ne12 hwd).1
    have hwn : ¬ wd.toList = [] := fun h => hwd (by apply ByteArray.ext; rw [Lib.toList_data] at h; apply Array.ext'; rw [h])
    have HW := Lib.hid HW
    have HWA := Lib.hid (hwa hk)
    clear hwa hno HWS HWN hwd
    go_enter Tryz.func12, Tryz.ntmps12
    go_wp2_with fail
    rw [← HW0.out]
    clear HW0
    refine wp_region_held_drew (S := fun W => W.cell? ⟨w.heap.size, 0, none⟩ = some (.int .u8 k) ∧ W.cell? ⟨w.heap.size, 1, none⟩ = some (.int .i64 c) ∧ W.cell? ⟨w.heap.size, 2, none⟩ = some (.int .i64 e) ∧ W.cell? ⟨w.heap.size, 3, none⟩ = some (.int .i64 q) ∧ W.cell? ⟨w.heap.size, 4, none⟩ = some (.int .i64 aud) ∧ W.cell? ⟨w.heap.size, 5, none⟩ = some (.slice ao n cap) ∧ W.cell? ⟨w.heap.size, 6, none⟩ = some (.string body) ∧ W.cell? ⟨w.heap.size, 7, none⟩ = some (.bool yes) ∧ W.cell? ⟨w.heap.size, 8, none⟩ = some (.string tag)) (by kernel_rfl) (by first | assumption | exact KS) (fun hHeld => ?_)
    generalize W0.drew = wz at *
    refine wpAnyH_take (i := 0) (oi := { dst := some 3, op := Op.fieldAddr 26 (Operand.tmp 1) 0, type := 0, pos := "ref.go:160", after := #[], guard := none }) (v := ?_) rfl (by kernel_rfl) (by kernel_rfl) (by kernel_rfl) (fun _ _ _ h => h) (Or.inl ⟨by rfl, ?_⟩) (by assumption) ?_
    rotate_left 1
    · (intro w hSw; (try dsimp only at hSw); go_simp; try with_reducible rfl)
    (try simp only [Act.put, List.setIfInBounds_toArray, List.set_cons_zero, List.set_cons_succ])
    refine wpAnyH_take (i := 1) (oi := { dst := some 4, op := Op.load 5 (Operand.tmp 3), type := 5, pos := "ref.go:160", after := #[{ on := 0, ground := Ground.data }], guard := none }) (v := ?_) rfl (by kernel_rfl) (by kernel_rfl) (by kernel_rfl) (fun _ _ _ h => h) (Or.inl ⟨by rfl, ?_⟩) (by assumption) ?_
    rotate_left 1
    · (intro w hSw; (try dsimp only at hSw); go_simp; try with_reducible rfl)
    (try simp only [Act.put, List.setIfInBounds_toArray, List.set_cons_zero, List.set_cons_succ])
    refine wpAnyH_ready (rs := [2]) (by kernel_rfl) (by simp) ?_
    refine AllReadyH.cons (o := { dst := some 5, op := Op.call { callee := Callee.value (Operand.func 15), args := #[Operand.tmp 4], argTypes := #[5] }, type := 9, pos := "ref.go:160", after := #[{ on := 1, ground := Ground.data }], guard := none }) rfl (fun K hK => ?_) AllReadyH.nil
    go_simp
    refine (HW.out _).mono ?_; rintro e1 w1 ⟨rfl, hw⟩; rw [hw]; clear hw w1
    refine hK.out _ _ (HCE.out _ GG.out) (fun hHeld => ?_)
    clear hK K
    (try simp only [Act.put, List.setIfInBounds_toArray, List.set_cons_zero, List.set_cons_succ])
    refine wpAnyH_take (i := 3) (oi := { dst := some 6, op := Op.binOp BinOp.eql 9 (Operand.tmp 5) (Operand.const (Value.string { data := #[] })) 9, type := 4, pos := "ref.go:160", after := #[{ on := 2, ground := Ground.data }], guard := none }) (v := .bool false) rfl (by kernel_rfl) (by kernel_rfl) (by kernel_rfl) (fun _ _ _ h => h) (Or.inl ⟨by rfl, ?_⟩) (by assumption) ?_
    · (intro w hSw; go_simp; all_goals (first | exact hwn | exact hwe | rfl))
    (try simp only [Act.put, List.setIfInBounds_toArray, List.set_cons_zero, List.set_cons_succ])
    refine wpAnyH_take (i := 4) (oi := { dst := some 7, op := Op.move (Operand.tmp 6), type := 4, pos := "ref.go:160", after := #[{ on := 3, ground := Ground.data }, { on := 2, ground := Ground.chain }], guard := none }) (v := ?_) rfl (by kernel_rfl) (by kernel_rfl) (by kernel_rfl) (fun _ _ _ h => h) (Or.inl ⟨by rfl, ?_⟩) (by assumption) ?_
    rotate_left 1
    · (intro w hSw; (try dsimp only at hSw); go_simp; try with_reducible rfl)
    (try simp only [Act.put, List.setIfInBounds_toArray, List.set_cons_zero, List.set_cons_succ])
    refine wpAnyH_take (i := 5) (oi := { dst := some 8, op := Op.load 26 (Operand.tmp 1), type := 26, pos := "ref.go:160", after := #[{ on := 4, ground := Ground.guard }], guard := some (4, false) }) (v := ?_) rfl (by kernel_rfl) (by kernel_rfl) (by kernel_rfl) (fun _ _ _ h => h) (Or.inl ⟨by rfl, ?_⟩) (by assumption) ?_
    rotate_left 1
    · (intro w hSw; (try dsimp only at hSw); go_simp; try with_reducible rfl)
    (try simp only [Act.put, List.setIfInBounds_toArray, List.set_cons_zero, List.set_cons_succ])
    refine wpAnyH_take (i := 7) (oi := { dst := some 10, op := Op.load 26 (Operand.tmp 1), type := 26, pos := "ref.go:160", after := #[{ on := 4, ground := Ground.guard }], guard := some (4, false) }) (v := ?_) rfl (by kernel_rfl) (by kernel_rfl) (by kernel_rfl) (fun _ _ _ h => h) (Or.inl ⟨by rfl, ?_⟩) (by assumption) ?_
    rotate_left 1
    · (intro w hSw; (try dsimp only at hSw); go_simp; try with_reducible rfl)
    (try simp only [Act.put, List.setIfInBounds_toArray, List.set_cons_zero, List.set_cons_succ])
    refine wpAnyH_ready (rs := [6]) (by kernel_rfl) (by simp) ?_
    refine AllReadyH.cons (o := { dst := some 9, op := Op.call { callee := Callee.value (Operand.func 41), args := #[Operand.tmp 8], argTypes := #[26] }, type := 26, pos := "ref.go:160", after := #[{ on := 5, ground := Ground.data }, { on := 4, ground := Ground.chain }, { on := 4, ground := Ground.guard }], guard := some (4, false) }) rfl (fun K hK => ?_) AllReadyH.nil
    go_simp
    refine (HB.out _).mono ?_; rintro e2 w2 ⟨rfl, b2⟩
    have GG := Lib.hid (GG.out.below b2)
    have BB := Lib.hid (below_step BB.out b2)
    clear b2
    refine hK.out _ _ (HCE.out _ GG.out) (fun hHeld => ?_)
    clear hK K
    (try simp only [Act.put, List.setIfInBounds_toArray, List.set_cons_zero, List.set_cons_succ])
    refine wpAnyH_ready (rs := [8]) (by kernel_rfl) (by simp) ?_
    refine AllReadyH.cons (o := { dst := some 11, op := Op.call { callee := Callee.value (Operand.func 13), args := #[Operand.tmp 9, Operand.tmp 10], argTypes := #[26, 26] }, type := 4, pos := "ref.go:160", after := #[{ on := 6, ground := Ground.data }, { on := 7, ground := Ground.data }, { on := 6, ground := Ground.chain }, { on := 4, ground := Ground.guard }], guard := some (4, false) }) rfl (fun K hK => ?_) AllReadyH.nil
    go_simp
    refine (HS.out _ BB.out).mono ?_; rintro e3 w3 ⟨rfl, b3⟩
    have GG := Lib.hid (GG.out.below b3)
    have BB := Lib.hid (below_step BB.out b3)
    clear b3
    refine hK.out _ _ (HCE.out _ GG.out) (fun hHeld => ?_)
    clear hK K
    (try simp only [Act.put, List.setIfInBounds_toArray, List.set_cons_zero, List.set_cons_succ])
    refine wpAnyH_take (i := 9) (oi := { dst := some 12, op := Op.unOp UnOp.not 4 (Operand.tmp 11), type := 4, pos := "ref.go:160", after := #[{ on := 8, ground := Ground.data }, { on := 4, ground := Ground.guard }], guard := some (4, false) }) (v := ?_) rfl (by kernel_rfl) (by kernel_rfl) (by kernel_rfl) (fun _ _ _ h => h) (Or.inl ⟨by rfl, ?_⟩) (by assumption) ?_
    rotate_left 1
    · (intro w hSw; (try dsimp only at hSw); go_simp; try with_reducible rfl)
    (try simp only [Act.put, List.setIfInBounds_toArray, List.set_cons_zero, List.set_cons_succ])
    refine wpAnyH_take (i := 10) (oi := { dst := some 13, op := Op.pick (Operand.tmp 7) (Operand.const (Value.bool true)) (Operand.tmp 12), type := 4, pos := "ref.go:160", after := #[{ on := 4, ground := Ground.data }, { on := 9, ground := Ground.data }], guard := none }) (v := ?_) rfl (by kernel_rfl) (by kernel_rfl) (by kernel_rfl) (fun _ _ _ h => h) (Or.inl ⟨by rfl, ?_⟩) (by assumption) ?_
    rotate_left 1
    · (intro w hSw; (try dsimp only at hSw); go_simp; try with_reducible rfl)
    (try simp only [Act.put, List.setIfInBounds_toArray, List.set_cons_zero, List.set_cons_succ])
    refine wpAnyH_done (by kernel_rfl) ?_ _
    clear hHeld KS
    obtain ⟨z0, z1, z2, z3, z4, z5, z6, z7, z8⟩ := HCE.out _ GG.out
    cases E with
    | false =>
      have hz : Z = false := hun (hEF rfl)
      subst hz
      clear hun hEF hET HWA
      go_wp2_with fail
      go_ret
      exact ⟨rfl, BB.out⟩
    | true =>
      have hz := HWA.out (hET rfl)
      clear hun hEF hET HWA HS HB
      have hc : k = 1 ∨ k = 2 ∨ k = 3 ∨ k = 4 ∨ k = 5 ∨ k = 6 := by omega
      rcases hc with rfl | rfl | rfl | rfl | rfl | rfl
      · rw [if_neg (by decide)] at hz
        rw [if_pos rfl] at hz
        have HZ := Lib.hid hz
        clear hz
        go_wp2_with fail
        generalize mayX c e q = mx at *
        refine (HX _).mono ?_; rintro e4 w4 ⟨rfl, b4⟩
        have GG := Lib.hid (GG.out.below b4)
        have BB := Lib.hid (below_step BB.out b4)
        clear b4 z0 z1 z2 z3 z4 z5 z6 z7 z8
        obtain ⟨z0, z1, z2, z3, z4, z5, z6, z7, z8⟩ := HCE.out _ GG.out
        cases mx with
        | false =>
          go_wp2_with fail
          go_ret
          exact ⟨by rw [HZ.out]; rfl, BB.out⟩
        | true =>
          generalize orgP aud = oc at *
          generalize mayL c mem = ml at *
          go_wp2_with fail
          refine (HO.out _).mono ?_; rintro e5 w5 ⟨rfl, hw⟩; rw [hw]; clear hw w5
          cases oc with
          | false =>
            go_wp2_with fail
            go_ret
            exact ⟨by rw [HZ.out]; rfl, BB.out⟩
          | true =>
            go_wp2_with fail
            refine (HL.out _ BB.out).mono ?_; rintro e6 w6 ⟨rfl, b6⟩
            have GG := Lib.hid (GG.out.below b6)
            have BB := Lib.hid (below_step BB.out b6)
            clear b6 z0 z1 z2 z3 z4 z5 z6 z7 z8
            obtain ⟨z0, z1, z2, z3, z4, z5, z6, z7, z8⟩ := HCE.out _ GG.out
            cases ml with
            | false =>
              go_wp2_with fail
              go_ret
              exact ⟨by rw [HZ.out]; rfl, BB.out⟩
            | true =>
              go_wp2_with fail
              refine (HTB.out _).mono ?_; rintro e7 w7 ⟨rfl, b7⟩
              have BB := Lib.hid (below_step BB.out b7)
              go_wp2_with fail
              go_ret
              exact ⟨by rw [HZ.out]; unfold termP; rfl, BB.out⟩
      · rw [if_neg (by decide)] at hz
        rw [if_neg (by decide), if_pos rfl] at hz
        have HZ := Lib.hid hz
        clear hz
        go_wp2_with fail
        generalize mayX c e q = mx at *
        refine (HX _).mono ?_; rintro e4 w4 ⟨rfl, b4⟩
        have GG := Lib.hid (GG.out.below b4)
        have BB := Lib.hid (below_step BB.out b4)
        clear b4 z0 z1 z2 z3 z4 z5 z6 z7 z8
        obtain ⟨z0, z1, z2, z3, z4, z5, z6, z7, z8⟩ := HCE.out _ GG.out
        cases mx with
        | false =>
          go_wp2_with fail
          go_ret
          exact ⟨by rw [HZ.out]; rfl, BB.out⟩
        | true =>
          cases yes with
          | false =>
            go_wp2_with fail
            go_ret
            exact ⟨by rw [HZ.out]; rfl, BB.out⟩
          | true =>
            go_wp2_with fail
            refine (HTG.out _).mono ?_; rintro e7 w7 ⟨rfl, b7⟩
            have BB := Lib.hid (below_step BB.out b7)
            go_wp2_with fail
            go_ret
            exact ⟨by rw [HZ.out]; unfold termP; rfl, BB.out⟩
      · rw [if_neg (by decide)] at hz
        rw [if_neg (by decide), if_neg (by decide), Bool.and_true] at hz
        have HZ := Lib.hid hz
        clear hz
        go_wp2_with fail
        generalize mayX c e q = mx at *
        refine (HX _).mono ?_; rintro e4 w4 ⟨rfl, b4⟩
        have GG := Lib.hid (GG.out.below b4)
        have BB := Lib.hid (below_step BB.out b4)
        clear b4 z0 z1 z2 z3 z4 z5 z6 z7 z8
        obtain ⟨z0, z1, z2, z3, z4, z5, z6, z7, z8⟩ := HCE.out _ GG.out
        cases mx with
        | false =>
          go_wp2_with fail
          go_ret
          exact ⟨by rw [HZ.out]; rfl, BB.out⟩
        | true =>
          go_wp2_with fail
          go_ret
          exact ⟨by rw [HZ.out]; rfl, BB.out⟩
      · rw [if_neg (by decide)] at hz
        rw [if_neg (by decide), if_neg (by decide), Bool.and_true] at hz
        have HZ := Lib.hid hz
        clear hz
        go_wp2_with fail
        generalize mayX c e q = mx at *
        refine (HX _).mono ?_; rintro e4 w4 ⟨rfl, b4⟩
        have GG := Lib.hid (GG.out.below b4)
        have BB := Lib.hid (below_step BB.out b4)
        clear b4 z0 z1 z2 z3 z4 z5 z6 z7 z8
        obtain ⟨z0, z1, z2, z3, z4, z5, z6, z7, z8⟩ := HCE.out _ GG.out
        cases mx with
        | false =>
          go_wp2_with fail
          go_ret
          exact ⟨by rw [HZ.out]; rfl, BB.out⟩
        | true =>
          go_wp2_with fail
          go_ret
          exact ⟨by rw [HZ.out]; rfl, BB.out⟩
      · rw [if_neg (by decide)] at hz
        rw [if_neg (by decide), if_neg (by decide), Bool.and_true] at hz
        have HZ := Lib.hid hz
        clear hz
        go_wp2_with fail
        generalize mayX c e q = mx at *
        refine (HX _).mono ?_; rintro e4 w4 ⟨rfl, b4⟩
        have GG := Lib.hid (GG.out.below b4)
        have BB := Lib.hid (below_step BB.out b4)
        clear b4 z0 z1 z2 z3 z4 z5 z6 z7 z8
        obtain ⟨z0, z1, z2, z3, z4, z5, z6, z7, z8⟩ := HCE.out _ GG.out
        cases mx with
        | false =>
          go_wp2_with fail
          go_ret
          exact ⟨by rw [HZ.out]; rfl, BB.out⟩
        | true =>
          go_wp2_with fail
          go_ret
          exact ⟨by rw [HZ.out]; rfl, BB.out⟩
      · rw [if_pos rfl] at hz
        subst hz
        go_wp2_with fail
        go_ret
        exact ⟨rfl, BB.out⟩
  · have hz : Z = false := hno hk
    subst hz
    rw [HWN hk] at HW
    have HW := Lib.hid HW
    clear hwa hno HWS HWN hun hET hEF
    go_enter Tryz.func12, Tryz.ntmps12
    go_wp2_with fail
    rw [← HW0.out]
    clear HW0
    refine wp_region_held_drew (S := fun W => W.cell? ⟨w.heap.size, 0, none⟩ = some (.int .u8 k) ∧ W.cell? ⟨w.heap.size, 1, none⟩ = some (.int .i64 c) ∧ W.cell? ⟨w.heap.size, 2, none⟩ = some (.int .i64 e) ∧ W.cell? ⟨w.heap.size, 3, none⟩ = some (.int .i64 q) ∧ W.cell? ⟨w.heap.size, 4, none⟩ = some (.int .i64 aud) ∧ W.cell? ⟨w.heap.size, 5, none⟩ = some (.slice ao n cap) ∧ W.cell? ⟨w.heap.size, 6, none⟩ = some (.string body) ∧ W.cell? ⟨w.heap.size, 7, none⟩ = some (.bool yes) ∧ W.cell? ⟨w.heap.size, 8, none⟩ = some (.string tag)) (by kernel_rfl) (by first | assumption | exact KS) (fun hHeld => ?_)
    generalize W0.drew = wz at *
    refine wpAnyH_take (i := 0) (oi := { dst := some 3, op := Op.fieldAddr 26 (Operand.tmp 1) 0, type := 0, pos := "ref.go:160", after := #[], guard := none }) (v := ?_) rfl (by kernel_rfl) (by kernel_rfl) (by kernel_rfl) (fun _ _ _ h => h) (Or.inl ⟨by rfl, ?_⟩) (by assumption) ?_
    rotate_left 1
    · (intro w hSw; (try dsimp only at hSw); go_simp; try with_reducible rfl)
    (try simp only [Act.put, List.setIfInBounds_toArray, List.set_cons_zero, List.set_cons_succ])
    refine wpAnyH_take (i := 1) (oi := { dst := some 4, op := Op.load 5 (Operand.tmp 3), type := 5, pos := "ref.go:160", after := #[{ on := 0, ground := Ground.data }], guard := none }) (v := ?_) rfl (by kernel_rfl) (by kernel_rfl) (by kernel_rfl) (fun _ _ _ h => h) (Or.inl ⟨by rfl, ?_⟩) (by assumption) ?_
    rotate_left 1
    · (intro w hSw; (try dsimp only at hSw); go_simp; try with_reducible rfl)
    (try simp only [Act.put, List.setIfInBounds_toArray, List.set_cons_zero, List.set_cons_succ])
    refine wpAnyH_ready (rs := [2]) (by kernel_rfl) (by simp) ?_
    refine AllReadyH.cons (o := { dst := some 5, op := Op.call { callee := Callee.value (Operand.func 15), args := #[Operand.tmp 4], argTypes := #[5] }, type := 9, pos := "ref.go:160", after := #[{ on := 1, ground := Ground.data }], guard := none }) rfl (fun K hK => ?_) AllReadyH.nil
    go_simp
    refine (HW.out _).mono ?_; rintro e1 w1 ⟨rfl, hw⟩; rw [hw]; clear hw w1
    refine hK.out _ _ (HCE.out _ GG.out) (fun hHeld => ?_)
    clear hK K
    (try simp only [Act.put, List.setIfInBounds_toArray, List.set_cons_zero, List.set_cons_succ])
    refine wpAnyH_take (i := 3) (oi := { dst := some 6, op := Op.binOp BinOp.eql 9 (Operand.tmp 5) (Operand.const (Value.string { data := #[] })) 9, type := 4, pos := "ref.go:160", after := #[{ on := 2, ground := Ground.data }], guard := none }) (v := .bool true) rfl (by kernel_rfl) (by kernel_rfl) (by kernel_rfl) (fun _ _ _ h => h) (Or.inl ⟨by rfl, ?_⟩) (by assumption) ?_
    · (intro w hSw; go_simp; all_goals (first | rfl | (rw [Lib.toList_data]; rfl)))
    (try simp only [Act.put, List.setIfInBounds_toArray, List.set_cons_zero, List.set_cons_succ])
    refine wpAnyH_take (i := 4) (oi := { dst := some 7, op := Op.move (Operand.tmp 6), type := 4, pos := "ref.go:160", after := #[{ on := 3, ground := Ground.data }, { on := 2, ground := Ground.chain }], guard := none }) (v := ?_) rfl (by kernel_rfl) (by kernel_rfl) (by kernel_rfl) (fun _ _ _ h => h) (Or.inl ⟨by rfl, ?_⟩) (by assumption) ?_
    rotate_left 1
    · (intro w hSw; (try dsimp only at hSw); go_simp; try with_reducible rfl)
    (try simp only [Act.put, List.setIfInBounds_toArray, List.set_cons_zero, List.set_cons_succ])
    refine wpAnyH_take (i := 5) (oi := { dst := some 8, op := Op.load 26 (Operand.tmp 1), type := 26, pos := "ref.go:160", after := #[{ on := 4, ground := Ground.guard }], guard := some (4, false) }) (v := undef) rfl (by kernel_rfl) (by kernel_rfl) (by kernel_rfl) (fun _ _ _ h => h) (Or.inr ⟨by rfl, rfl⟩) (by assumption) ?_
    (try simp only [Act.put, List.setIfInBounds_toArray, List.set_cons_zero, List.set_cons_succ])
    refine wpAnyH_take (i := 6) (oi := { dst := some 9, op := Op.call { callee := Callee.value (Operand.func 41), args := #[Operand.tmp 8], argTypes := #[26] }, type := 26, pos := "ref.go:160", after := #[{ on := 5, ground := Ground.data }, { on := 4, ground := Ground.chain }, { on := 4, ground := Ground.guard }], guard := some (4, false) }) (v := undef) rfl (by kernel_rfl) (by kernel_rfl) (by kernel_rfl) (fun _ _ _ h => h) (Or.inr ⟨by rfl, rfl⟩) (by assumption) ?_
    (try simp only [Act.put, List.setIfInBounds_toArray, List.set_cons_zero, List.set_cons_succ])
    refine wpAnyH_take (i := 7) (oi := { dst := some 10, op := Op.load 26 (Operand.tmp 1), type := 26, pos := "ref.go:160", after := #[{ on := 4, ground := Ground.guard }], guard := some (4, false) }) (v := undef) rfl (by kernel_rfl) (by kernel_rfl) (by kernel_rfl) (fun _ _ _ h => h) (Or.inr ⟨by rfl, rfl⟩) (by assumption) ?_
    (try simp only [Act.put, List.setIfInBounds_toArray, List.set_cons_zero, List.set_cons_succ])
    refine wpAnyH_take (i := 8) (oi := { dst := some 11, op := Op.call { callee := Callee.value (Operand.func 13), args := #[Operand.tmp 9, Operand.tmp 10], argTypes := #[26, 26] }, type := 4, pos := "ref.go:160", after := #[{ on := 6, ground := Ground.data }, { on := 7, ground := Ground.data }, { on := 6, ground := Ground.chain }, { on := 4, ground := Ground.guard }], guard := some (4, false) }) (v := undef) rfl (by kernel_rfl) (by kernel_rfl) (by kernel_rfl) (fun _ _ _ h => h) (Or.inr ⟨by rfl, rfl⟩) (by assumption) ?_
    (try simp only [Act.put, List.setIfInBounds_toArray, List.set_cons_zero, List.set_cons_succ])
    refine wpAnyH_take (i := 9) (oi := { dst := some 12, op := Op.unOp UnOp.not 4 (Operand.tmp 11), type := 4, pos := "ref.go:160", after := #[{ on := 8, ground := Ground.data }, { on := 4, ground := Ground.guard }], guard := some (4, false) }) (v := undef) rfl (by kernel_rfl) (by kernel_rfl) (by kernel_rfl) (fun _ _ _ h => h) (Or.inr ⟨by rfl, rfl⟩) (by assumption) ?_
    (try simp only [Act.put, List.setIfInBounds_toArray, List.set_cons_zero, List.set_cons_succ])
    refine wpAnyH_take (i := 10) (oi := { dst := some 13, op := Op.pick (Operand.tmp 7) (Operand.const (Value.bool true)) (Operand.tmp 12), type := 4, pos := "ref.go:160", after := #[{ on := 4, ground := Ground.data }, { on := 9, ground := Ground.data }], guard := none }) (v := ?_) rfl (by kernel_rfl) (by kernel_rfl) (by kernel_rfl) (fun _ _ _ h => h) (Or.inl ⟨by rfl, ?_⟩) (by assumption) ?_
    rotate_left 1
    · (intro w hSw; (try dsimp only at hSw); go_simp; try with_reducible rfl)
    (try simp only [Act.put, List.setIfInBounds_toArray, List.set_cons_zero, List.set_cons_succ])
    refine wpAnyH_done (by kernel_rfl) ?_ _
    go_wp2_with fail
    go_ret
    exact ⟨rfl, BB.out⟩
end Go.Proofs.YthemopejebioaaaGreat.Pl
