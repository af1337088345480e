/- The program's own run of steps: whether a step fits. -/
import Derived.Test.YtpajcalfjfkogaaForgeF18
namespace Go.Proofs.Ytpajcalfjfkogaa.Pl
open Go.RowKit

/-- What steps of a kind do, as a value. -/
abbrev doV (R : Nat) (fN fT fL : Bool) (g : Fn) (r : Nat) : Value := .agg #[.int .i64 R, .bool fN, .bool fT, .bool fL, .func g #[ptr11 r] #[]]
def refI (s : Stp) (i : Nat) : Int := if i = 0 then s.a else if i = 1 then s.b else s.c
def listP (s : Stp) (k : Nat) : Bool := s.list.all fun v => decide (0 ≤ v) && decide (v < k)
def flagP (fN fT fL : Bool) (s : Stp) : Bool := (fN || decide (s.n = 0)) && (fT || decide (s.text.size = 0)) && (fL || s.list.isEmpty)
def refsP (R : Nat) (s : Stp) (k : Nat) : Bool := namedP (decide (0 < R)) s.a k && namedP (decide (1 < R)) s.b k && namedP (decide (2 < R)) s.c k
def fitsP (R : Nat) (fN fT fL : Bool) (s : Stp) (k : Nat) : Bool := refsP R s k && listP s k && flagP fN fT fL s
theorem refs_all {R : Nat} {s : Stp} {k : Nat} : refsP R s k = true ↔ ∀ i, i < 3 → namedP (decide (i < R)) (refI s i) k = true := by
  unfold refsP
  rw [Bool.and_eq_true, Bool.and_eq_true]
  constructor
  · rintro ⟨⟨h0, h1⟩, h2⟩ i hi
    have h : i = 0 ∨ i = 1 ∨ i = 2 := by omega
    rcases h with rfl | rfl | rfl
    · exact h0
    · exact h1
    · exact h2
  · exact fun h => ⟨⟨h 0 (by omega), h 1 (by omega)⟩, h 2 (by omega)⟩
theorem fits_no1 {R : Nat} {fN fT fL : Bool} {s : Stp} {k i : Nat} (hi : i < 3) (h : namedP (decide (i < R)) (refI s i) k = false) : fitsP R fN fT fL s k = false := by
  have : refsP R s k = false := by
    rw [← Bool.not_eq_true]
    intro h2
    rw [refs_all.1 h2 i hi] at h
    cases h
  rw [fitsP, this]
  rfl
theorem fits_no2 {R : Nat} {fN fT fL : Bool} {s : Stp} {k j : Nat} (hj : j < s.list.length) (h : ¬ (0 ≤ s.list[j] ∧ s.list[j] < k)) : fitsP R fN fT fL s k = false := by
  have : listP s k = false := by
    rw [← Bool.not_eq_true]
    intro h2
    have := List.all_eq_true.1 h2 _ (List.getElem_mem hj)
    simp only [Bool.and_eq_true, decide_eq_true_eq] at this
    exact h this
  rw [fitsP, this, Bool.and_false]
  rfl
theorem fits_end {R : Nat} {fN fT fL : Bool} {s : Stp} {k : Nat} (h1 : refsP R s k = true) (h2 : ∀ j, (hj : j < s.list.length) → 0 ≤ s.list[j] ∧ s.list[j] < k) : fitsP R fN fT fL s k = flagP fN fT fL s := by
  have : listP s k = true := by
    refine List.all_eq_true.2 fun v hv => ?_
    obtain ⟨j, hj, rfl⟩ := List.getElem_of_mem hv
    have := h2 j hj
    simp only [Bool.and_eq_true, decide_eq_true_eq]
    exact this
  rw [fitsP, h1, this]
  rfl
theorem isEmpty11 {s : ByteArray} (h : s.size ≠ 0) : s.toList.isEmpty = false := by
  rw [Lib.toList_data]
  cases e : s.data.toList with
  | nil => exact absurd (by have := congrArg List.length e; simpa using this) h
  | cons x y => rfl
theorem arr3_0 (a b c : Int) (V : World) : (Instr.index 110 (.agg #[.int .i64 a, .int .i64 b, .int .i64 c]) (.int .i64 0)).run Try.prog V = .ok (.int .i64 a) V := by kernel_rfl
theorem arr3_1 (a b c : Int) (V : World) : (Instr.index 110 (.agg #[.int .i64 a, .int .i64 b, .int .i64 c]) (.int .i64 1)).run Try.prog V = .ok (.int .i64 b) V := by kernel_rfl
theorem arr3_2 (a b c : Int) (V : World) : (Instr.index 110 (.agg #[.int .i64 a, .int .i64 b, .int .i64 c]) (.int .i64 2)).run Try.prog V = .ok (.int .i64 c) V := by kernel_rfl
theorem arr3_at (a b c : Int) (i : Nat) (hi : i < 3) (V : World) : (Instr.index 110 (.agg #[.int .i64 a, .int .i64 b, .int .i64 c]) (.int .i64 (i : Int))).run Try.prog V = .ok (.int .i64 (if i = 0 then a else if i = 1 then b else c)) V := by
  have h : i = 0 ∨ i = 1 ∨ i = 2 := by omega
  rcases h with rfl | rfl | rfl
  · exact arr3_0 a b c V
  · exact arr3_1 a b c V
  · exact arr3_2 a b c V
set_option maxHeartbeats 8000000 in
set_option maxRecDepth 100000 in
theorem fits11_any (R : Nat) (fN fT fL : Bool) (g : Fn) (r : Nat) (s : Stp) (lo : Option Addr) (lc k : Nat) (hl : s.list.length ≤ 9223372036854775807) (w : World) (hrow2 : IntRow w lo s.list) :
    Calls Try.prog 41 #[doV R fN fT fL g r, stpV s lo lc, .int .i64 k] w fun e w' => e = .returned (.bool (fitsP R fN fT fL s k)) ∧ Below w.heap.size w w' := by
  have HNO1 := Lib.hid (fun i (hi : i < 3) h => fits_no1 (R := R) (fN := fN) (fT := fT) (fL := fL) (s := s) (k := k) (i := i) hi h)
  have HNO2 := Lib.hid (fun j (hj : j < s.list.length) h => fits_no2 (R := R) (fN := fN) (fT := fT) (fL := fL) (s := s) (k := k) (j := j) hj h)
  have HEND := Lib.hid (fun h1 h2 => fits_end (R := R) (fN := fN) (fT := fT) (fL := fL) (s := s) (k := k) h1 h2)
  have HALL := Lib.hid (refs_all (R := R) (s := s) (k := k))
  have HIX := Lib.hid (fun i hi V => arr3_at s.a s.b s.c i hi V)
  have HRI : Hid (∀ i, (if i = 0 then s.a else if i = 1 then s.b else s.c) = refI s i) := Lib.hid (fun i => rfl)
  generalize hZ : fitsP R fN fT fL s k = Z at *
  have HROW2 := Lib.hid (fun V (hV : Below w.heap.size w V) => hrow2.below hV)
  obtain ⟨m, hm⟩ : ∃ m, m = s.list.length := ⟨_, rfl⟩
  have HM := Lib.hid hm
  unfold stpV
  rw [← hm]
  rw [← hm] at hl
  have HFL : Hid (flagP fN fT fL s = ((fN || decide (s.n = 0)) && (fT || decide (s.text.size = 0)) && (fL || decide (m = 0)))) := Lib.hid (by
    unfold flagP
    congr 2
    cases h : s.list with
    | nil => rw [h] at hm; simp [hm]
    | cons x y => rw [h] at hm; simp [hm])
  generalize s.a = a at *
  generalize s.b = b at *
  generalize s.c = c at *
  generalize s.n = n at *
  generalize s.text = tx at *
  generalize hfn : s.fn = f at *
  obtain ⟨W1, hW1⟩ : ∃ V, V = (w.alloc (.cells #[.int .i64 R, .bool fN, .bool fT, .bool fL, .func g #[ptr11 r] #[]] 75)).alloc (.cells #[.int .u8 f, .int .i64 a, .int .i64 b, .int .i64 c, .int .i64 n, .string tx, .slice lo m lc] 46) := ⟨_, rfl⟩
  have B0 : Hid (Below w.heap.size w W1) := Lib.hid (by rw [hW1]; exact ((Below.refl _ _).alloc (Nat.le_refl _) _).alloc (by simp) _)
  have n1 : (w.alloc (.cells #[.int .i64 R, .bool fN, .bool fT, .bool fL, .func g #[ptr11 r] #[]] 75)).heap.size = w.heap.size + 1 := by simp
  have h0 : W1.heap[w.heap.size]? = some (.cells #[.int .i64 R, .bool fN, .bool fT, .bool fL, .func g #[ptr11 r] #[]] 75 (0, 0)) := by rw [hW1]; exact (Below.heap_alloc _ _ _ (by omega)).trans (Go.heap_alloc_new w _)
  have h1 : W1.heap[w.heap.size + 1]? = some (.cells #[.int .u8 f, .int .i64 a, .int .i64 b, .int .i64 c, .int .i64 n, .string tx, .slice lo m lc] 46 (0, 0)) := by rw [hW1, ← n1]; exact Go.heap_alloc_new _ _
  have C0 : Hid (W1.cell? ⟨w.heap.size, 0, none⟩ = some (.int .i64 R) ∧ W1.cell? ⟨w.heap.size, 1, none⟩ = some (.bool fN) ∧ W1.cell? ⟨w.heap.size, 2, none⟩ = some (.bool fT) ∧ W1.cell? ⟨w.heap.size, 3, none⟩ = some (.bool fL)) := Lib.hid ⟨cell_of_row _ _ _ _ _ _ h0, cell_of_row _ _ _ _ _ _ h0, cell_of_row _ _ _ _ _ _ h0, cell_of_row _ _ _ _ _ _ h0⟩
  have C1 : Hid (W1.cell? ⟨w.heap.size + 1, 1, none⟩ = some (.int .i64 a) ∧ W1.cell? ⟨w.heap.size + 1, 2, none⟩ = some (.int .i64 b) ∧ W1.cell? ⟨w.heap.size + 1, 3, none⟩ = some (.int .i64 c) ∧ W1.cell? ⟨w.heap.size + 1, 4, none⟩ = some (.int .i64 n) ∧ W1.cell? ⟨w.heap.size + 1, 5, none⟩ = some (.string tx) ∧ W1.cell? ⟨w.heap.size + 1, 6, none⟩ = some (.slice lo m lc)) := Lib.hid ⟨cell_of_row _ _ _ _ _ _ h1, cell_of_row _ _ _ _ _ _ h1, cell_of_row _ _ _ _ _ _ h1, cell_of_row _ _ _ _ _ _ h1, cell_of_row _ _ _ _ _ _ h1, cell_of_row _ _ _ _ _ _ h1⟩
  have HLT : Hid (w.heap.size + 1 < W1.heap.size) := Lib.hid (by rw [hW1]; simp)
  have hW2 := Lib.hid hW1
  clear hW1 hrow2 hm hZ hfn h0 h1 n1
  go_enter Try.func41, Try.ntmps41
  go_wp2_with fail
  rw [← hW2.out]
  clear hW2
  go_loopw [18] (fun iv wr => ∃ i : Nat, iv = .int .i64 i ∧ i ≤ 3 ∧ Hid (∀ j, j < i → namedP (decide (j < R)) (refI s j) k = true) ∧ Hid (Below W1.heap.size W1 wr)) (fun iv _ => 3 - (intOf iv).toNat)
  case atStart => exact ⟨0, rfl, by omega, Lib.hid (fun j hj => absurd hj (Nat.not_lt_zero _)), Lib.hid (Below.refl _ _)⟩
  case round =>
    obtain ⟨i, rfl, hi3, hall, hb⟩ := hrel
    have BW := Lib.hid (below_step B0.out hb.out)
    by_cases hi : i < 3
    · have hi' : (i : Int) < 3 := by omega
      have cR := cell_keep hb.out C0.out.1
      have hix := HIX.out i hi
      rw [HRI.out i] at hix
      have HN := HNO1.out i hi
      have HY : namedP (decide (i < R)) (refI s i) k = true → Hid (∀ j, j < i + 1 → namedP (decide (j < R)) (refI s j) k = true) := fun h => Lib.hid (fun j hj => by
        by_cases e : j < i
        · exact hall.out j e
        · obtain rfl : j = i := by omega
          exact h)
      generalize refI s i = v at *
      by_cases hiR : i < R
      · have hiR' : (i : Int) < (R : Int) := by omega
        rw [decide_eq_true hiR] at HN HY
        by_cases hv : 0 ≤ v ∧ v < k
        · have HYD := HY (by simp only [namedP, if_true, Bool.and_eq_true, decide_eq_true_eq]; exact hv)
          have HE := Lib.hid (fun V => earlier_any v k V)
          rw [decide_eq_true hv] at HE
          clear HN HY hv
          go_wp2_with (go_at_call 72; refine (HE.out _).mono ?_; rintro e w2 ⟨rfl, h2⟩; rw [h2]; clear h2 w2)
          go_roundw
          case rel => exact ⟨i + 1, by go_num, by omega, HYD, hb⟩
          case measure => simp [intOf]; omega
        · have HNN := Lib.hid (HN (by simp only [namedP, if_true]; simpa using hv))
          have HE := Lib.hid (fun V => earlier_any v k V)
          rw [decide_eq_false hv] at HE
          clear HN HY hv
          go_wp2_with (go_at_call 72; refine (HE.out _).mono ?_; rintro e w2 ⟨rfl, h2⟩; rw [h2]; clear h2 w2)
          go_ret
          exact ⟨by rw [HNN.out]; rfl, BW.out⟩
      · have hiR' : ¬ (i : Int) < (R : Int) := by omega
        have hiR2 : (R : Int) ≤ (i : Int) := by omega
        rw [decide_eq_false hiR] at HN HY
        by_cases hv : v = 0
        · have HYD := HY (by rw [hv]; simp [namedP])
          subst hv
          clear HN HY
          go_wp2_with fail
          go_roundw
          case rel => exact ⟨i + 1, by go_num, by omega, HYD, hb⟩
          case measure => simp [intOf]; omega
        · have HNN := Lib.hid (HN (by simp [namedP, hv]))
          have hv1 : (v != 0) = true := by rw [bne_iff_ne]; exact hv
          clear HN HY
          go_wp2_with fail
          go_ret
          exact ⟨by rw [HNN.out]; rfl, BW.out⟩
    · obtain rfl : i = 3 := by omega
      rw [show ((3 : Nat) : Int) = 3 from rfl]
      have HR1 := Lib.hid (HALL.out.2 (fun j hj => hall.out j hj))
      have c6 := cell_keep hb.out C1.out.2.2.2.2.2
      clear hi hi3 hall HIX HRI HNO1 HALL
      go_wp2_with fail
      go_loopw [46] (fun iv wq => ∃ j : Nat, iv = .int .i64 j ∧ j ≤ m ∧ Hid (∀ i, (hi : i < s.list.length) → i < j → 0 ≤ s.list[i] ∧ s.list[i] < k) ∧ Hid (Below W1.heap.size W1 wq)) (fun iv _ => m - (intOf iv).toNat)
      case atStart => exact ⟨0, rfl, Nat.zero_le _, Lib.hid (fun i _ hi => absurd hi (Nat.not_lt_zero _)), hb⟩
      case round =>
        obtain ⟨j, rfl, hjm, hall, hb2⟩ := hrel
        have BQ := Lib.hid (below_step B0.out hb2.out)
        by_cases hj : j < m
        · have hj' : (j : Int) < (m : Int) := by omega
          have hjl : j < s.list.length := by rw [← HM.out]; exact hj
          rcases HROW2.out _ BQ.out with e | ⟨gg, off, rfl, hlt, hc⟩
          · exfalso
            rw [e] at hjl
            exact absurd hjl (Nat.not_lt_zero _)
          have cj := hc j hjl
          have HN := HNO2.out j hjl
          have HY : 0 ≤ s.list[j] ∧ s.list[j] < k → Hid (∀ i, (hi : i < s.list.length) → i < j + 1 → 0 ≤ s.list[i] ∧ s.list[i] < k) := fun h => Lib.hid (fun i hi hij => by
            by_cases e : i < j
            · exact hall.out i hi e
            · obtain rfl : i = j := by omega
              exact h)
          generalize s.list[j] = v at *
          clear hc hlt hjl hb hall
          by_cases hv : 0 ≤ v ∧ v < k
          · have HYD := HY hv
            have HE := Lib.hid (fun V => earlier_any v k V)
            rw [decide_eq_true hv] at HE
            clear HN HY hv
            go_wp2_with (go_at_call 72; refine (HE.out _).mono ?_; rintro e w2 ⟨rfl, h2⟩; rw [h2]; clear h2 w2)
            go_roundw
            case rel => exact ⟨j + 1, by go_num, by omega, HYD, hb2⟩
            case measure => simp [intOf]; omega
          · have HNN := Lib.hid (HN hv)
            have HE := Lib.hid (fun V => earlier_any v k V)
            rw [decide_eq_false hv] at HE
            clear HN HY hv
            go_wp2_with (go_at_call 72; refine (HE.out _).mono ?_; rintro e w2 ⟨rfl, h2⟩; rw [h2]; clear h2 w2)
            go_ret
            exact ⟨by rw [HNN.out]; rfl, BQ.out⟩
        · obtain rfl : j = m := by omega
          have HZ : Hid (Z = ((fN || decide (n = 0)) && (fT || decide (tx.size = 0)) && (fL || decide (j = 0)))) := Lib.hid ((HEND.out HR1.out (fun i hi => hall.out i hi (by rw [HM.out]; exact hi))).trans HFL.out)
          have cN := cell_keep hb2.out C0.out.2.1
          have cT := cell_keep hb2.out C0.out.2.2.1
          have cL := cell_keep hb2.out C0.out.2.2.2
          have cn := cell_keep hb2.out C1.out.2.2.2.1
          have ct := cell_keep hb2.out C1.out.2.2.2.2.1
          have cl := cell_keep hb2.out C1.out.2.2.2.2.2
          clear hj hjm hall hb HR1 HEND HFL c6 HNO2 HROW2 HM C0 C1 HLT hl
          have hN : fN = true ∨ (fN = false ∧ n = 0) ∨ (fN = false ∧ (n == 0) = false ∧ n ≠ 0) := by
            cases fN
            · by_cases h : n = 0
              · exact .inr (.inl ⟨rfl, h⟩)
              · exact .inr (.inr ⟨rfl, by rw [beq_eq_false_iff_ne]; exact h, h⟩)
            · exact .inl rfl
          have hT : fT = true ∨ (fT = false ∧ tx = ⟨#[]⟩) ∨ (fT = false ∧ tx.toList.isEmpty = false ∧ tx.size ≠ 0) := by
            cases fT
            · by_cases h : tx.size = 0
              · exact .inr (.inl ⟨rfl, size_none h⟩)
              · exact .inr (.inr ⟨rfl, isEmpty11 h, h⟩)
            · exact .inl rfl
          have hL : fL = true ∨ (fL = false ∧ j = 0) ∨ (fL = false ∧ ((j : Int) == 0) = false ∧ j ≠ 0) := by
            cases fL
            · by_cases h : j = 0
              · exact .inr (.inl ⟨rfl, h⟩)
              · exact .inr (.inr ⟨rfl, by rw [beq_eq_false_iff_ne]; omega, h⟩)
            · exact .inl rfl
          rcases hN with rfl | ⟨rfl, rfl⟩ | ⟨rfl, hn1, hn2⟩
          · rcases hT with rfl | ⟨rfl, rfl⟩ | ⟨rfl, ht1, ht2⟩
            · rcases hL with rfl | ⟨rfl, rfl⟩ | ⟨rfl, hl1, hl2⟩
              · go_wp2_with fail
                go_ret
                exact ⟨by rw [HZ.out]; rfl, BQ.out⟩
              · rw [show ((0 : Nat) : Int) = 0 from rfl] at *
                go_wp2_with fail
                go_ret
                exact ⟨by rw [HZ.out]; rfl, BQ.out⟩
              · go_wp2_with fail
                go_ret
                exact ⟨by rw [HZ.out, decide_eq_false hl2]; rfl, BQ.out⟩
            · rcases hL with rfl | ⟨rfl, rfl⟩ | ⟨rfl, hl1, hl2⟩
              · go_wp2_with fail
                go_ret
                exact ⟨by rw [HZ.out]; rfl, BQ.out⟩
              · rw [show ((0 : Nat) : Int) = 0 from rfl] at *
                go_wp2_with fail
                go_ret
                exact ⟨by rw [HZ.out]; rfl, BQ.out⟩
              · go_wp2_with fail
                go_ret
                exact ⟨by rw [HZ.out, decide_eq_false hl2]; rfl, BQ.out⟩
            · go_wp2_with fail
              go_ret
              exact ⟨by rw [HZ.out, decide_eq_false ht2]; rfl, BQ.out⟩
          · rcases hT with rfl | ⟨rfl, rfl⟩ | ⟨rfl, ht1, ht2⟩
            · rcases hL with rfl | ⟨rfl, rfl⟩ | ⟨rfl, hl1, hl2⟩
              · go_wp2_with fail
                go_ret
                exact ⟨by rw [HZ.out]; rfl, BQ.out⟩
              · rw [show ((0 : Nat) : Int) = 0 from rfl] at *
                go_wp2_with fail
                go_ret
                exact ⟨by rw [HZ.out]; rfl, BQ.out⟩
              · go_wp2_with fail
                go_ret
                exact ⟨by rw [HZ.out, decide_eq_false hl2]; rfl, BQ.out⟩
            · rcases hL with rfl | ⟨rfl, rfl⟩ | ⟨rfl, hl1, hl2⟩
              · go_wp2_with fail
                go_ret
                exact ⟨by rw [HZ.out]; rfl, BQ.out⟩
              · rw [show ((0 : Nat) : Int) = 0 from rfl] at *
                go_wp2_with fail
                go_ret
                exact ⟨by rw [HZ.out]; rfl, BQ.out⟩
              · go_wp2_with fail
                go_ret
                exact ⟨by rw [HZ.out, decide_eq_false hl2]; rfl, BQ.out⟩
            · go_wp2_with fail
              go_ret
              exact ⟨by rw [HZ.out, decide_eq_false ht2]; rfl, BQ.out⟩
          · go_wp2_with fail
            go_ret
            exact ⟨by rw [HZ.out, decide_eq_false hn2]; rfl, BQ.out⟩
end Go.Proofs.Ytpajcalfjfkogaa.Pl
