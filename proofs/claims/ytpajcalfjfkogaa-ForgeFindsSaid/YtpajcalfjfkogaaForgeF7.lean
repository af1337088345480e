/- What the document's May of layer 11 answers: may a step's fields be. -/
import Derived.Test.YtpajcalfjfkogaaForgeF4
namespace Go.Proofs.Ytpajcalfjfkogaa.Pl
open Go.RowKit

/-- A step as a value. -/
def stpV (s : Stp) (lo : Option Addr) (lc : Nat) : Value := .agg #[.int .u8 s.fn, .int .i64 s.a, .int .i64 s.b, .int .i64 s.c, .int .i64 s.n, .string s.text, .slice lo s.list.length lc]
theorem size_none {t : ByteArray} (h : t.size = 0) : t = ⟨#[]⟩ := by
  apply ByteArray.ext
  exact Array.eq_empty_of_size_eq_zero h
set_option maxHeartbeats 4000000 in
set_option maxRecDepth 100000 in
theorem rmay11_any (s : Stp) (lo : Option Addr) (lc : Nat) (k : Nat) (hl : s.list.length ≤ 9223372036854775807) (w : World) (hrow : IntRow w lo s.list) :
    Calls Try.prog 23 #[stpV s lo lc, .int .i64 k] w fun e w' => e = .returned (.bool (maySt s k)) ∧ Below w.heap.size w w' := by
  have HN := Lib.hid (fun V => rnames11_any s.fn V)
  have HA := Lib.hid (fun V => rnamed11_any (namesA s.fn) s.a k V)
  have HB := Lib.hid (fun V => rnamed11_any (namesB s.fn) s.b k V)
  have HC := Lib.hid (fun V => rnamed11_any (namesC s.fn) s.c k V)
  obtain ⟨nk, hnk⟩ : ∃ z, z = (namesN s.fn || decide (s.n = 0)) := ⟨_, rfl⟩
  obtain ⟨tk, htk⟩ : ∃ z, z = (namesT s.fn || decide (s.text.size = 0)) := ⟨_, rfl⟩
  obtain ⟨lk, hlk⟩ : ∃ z, z = (namesL s.fn || s.list.isEmpty) := ⟨_, rfl⟩
  obtain ⟨al, hal⟩ : ∃ z, z = (s.list.all fun v => decide (0 ≤ v) && decide (v < k)) := ⟨_, rfl⟩
  have hz : maySt s k = (namesK s.fn && namedP (namesA s.fn) s.a k && namedP (namesB s.fn) s.b k && namedP (namesC s.fn) s.c k && nk && tk && lk && al) := by rw [hnk, htk, hlk, hal]; rfl
  unfold stpV
  obtain ⟨f, a, b, c, n, tx, li⟩ := s
  simp only [namesV] at HN HA HB HC hnk htk hlk hal hz hrow hl ⊢
  rw [hz]
  clear hz
  generalize namedP (namesA f) a k = ra at *
  generalize namedP (namesB f) b k = rb at *
  generalize namedP (namesC f) c k = rc at *
  generalize namesA f = A at *
  generalize namesB f = B at *
  generalize namesC f = C at *
  generalize namesN f = N at *
  generalize namesT f = T at *
  generalize namesL f = L at *
  generalize namesK f = K at *
  obtain ⟨m, hm⟩ : ∃ m, m = li.length := ⟨_, rfl⟩
  have HROW := Lib.hid hrow
  have HM := Lib.hid hm
  have HNO : Hid (∀ j, (hj : j < li.length) → ¬ (0 ≤ li[j] ∧ li[j] < k) → al = false) := Lib.hid (fun j hj h => by
    rw [hal, List.all_eq_false]
    refine ⟨li[j], List.getElem_mem hj, fun h2 => h ?_⟩
    simpa using h2)
  have HYES : Hid ((∀ j, (hj : j < li.length) → 0 ≤ li[j] ∧ li[j] < k) → al = true) := Lib.hid (fun h => by
    rw [hal, List.all_eq_true]
    intro v hv
    obtain ⟨j, hj, rfl⟩ := List.getElem_of_mem hv
    simpa using h j hj)
  have HNK := Lib.hid hnk
  have HTK := Lib.hid htk
  have hlk2 : lk = (L || decide (m = 0)) := by
    rw [hlk]
    congr 1
    rw [hm]
    cases li <;> rfl
  have HLK := Lib.hid hlk2
  rw [← hm] at hl ⊢
  clear hnk htk hlk hlk2 hal hrow hm
  have BW : Hid (∀ v, Below w.heap.size w (w.alloc (.cells v 46))) := Lib.hid (fun v => (Below.refl _ _).alloc (Nat.le_refl _) _)
  go_enter Try.func23, Try.ntmps23
  go_wp2_with fail
  refine (HN.out _).mono ?_; rintro e _ ⟨rfl, rfl⟩
  clear HN
  cases K with
  | false =>
    go_wp2_with fail
    go_ret
    exact ⟨rfl, BW.out _⟩
  | true =>
    go_wp2_with fail
    refine (HA.out _).mono ?_; rintro e _ ⟨rfl, rfl⟩
    clear HA
    cases ra with
    | false =>
      go_wp2_with fail
      go_ret
      exact ⟨rfl, BW.out _⟩
    | true =>
      go_wp2_with fail
      refine (HB.out _).mono ?_; rintro e _ ⟨rfl, rfl⟩
      clear HB
      cases rb with
      | false =>
        go_wp2_with fail
        go_ret
        exact ⟨rfl, BW.out _⟩
      | true =>
        go_wp2_with fail
        refine (HC.out _).mono ?_; rintro e _ ⟨rfl, rfl⟩
        clear HC
        cases rc with
        | false =>
          go_wp2_with fail
          go_ret
          exact ⟨rfl, BW.out _⟩
        | true =>
          cases N with
          | true =>
            obtain rfl : nk = true := by rw [HNK.out]; rfl
            cases T with
            | true =>
              obtain rfl : tk = true := by rw [HTK.out]; rfl
              cases L with
              | true =>
                obtain rfl : lk = true := by rw [HLK.out]; rfl
                go_wp2_with fail
                go_loop [12] (fun iv => ∃ j : Nat, iv = .int .i64 j ∧ j ≤ m ∧ Hid (∀ i, (hi : i < li.length) → i < j → 0 ≤ li[i] ∧ li[i] < k)) (fun iv => m - (intOf iv).toNat)
                case atStart => exact ⟨0, rfl, Nat.zero_le _, Lib.hid (fun i _ h => absurd h (Nat.not_lt_zero i))⟩
                case round =>
                  obtain ⟨j, rfl, hjm, hg⟩ := hrel
                  by_cases hj : j < m
                  · have hj' : (j : Int) < (m : Int) := by omega
                    have hjl : j < li.length := by rw [← HM.out]; exact hj
                    rcases HROW.out with e | ⟨g, off, rfl, hlt, hc⟩
                    · exfalso
                      rw [e] at hjl
                      exact absurd hjl (Nat.not_lt_zero _)
                    have cj := hc j hjl
                    have HB2 := Lib.hid (HNO.out j hjl)
                    have HG2 : Hid (0 ≤ li[j] ∧ li[j] < (k : Int) → ∀ i, (hi : i < li.length) → i < j + 1 → 0 ≤ li[i] ∧ li[i] < (k : Int)) := Lib.hid (fun h i hi hij => by
                      by_cases e : i = j
                      · subst e; exact h
                      · exact hg.out i hi (by omega))
                    generalize li[j] = x at *
                    clear hc hjl hg
                    by_cases h0 : 0 ≤ x
                    · by_cases h1 : x < (k : Int)
                      · have HG3 := Lib.hid (HG2.out ⟨h0, h1⟩)
                        clear HB2 HG2
                        go_wp2_with fail
                        go_round
                        case rel => exact ⟨j + 1, by go_num, by omega, HG3⟩
                        case measure => simp [intOf]; omega
                      · have HQ := Lib.hid (HB2.out (fun h => h1 h.2))
                        clear HB2 HG2
                        go_wp2_with fail
                        go_ret
                        exact ⟨by rw [HQ.out]; rfl, BW.out _⟩
                    · have HQ := Lib.hid (HB2.out (fun h => h0 h.1))
                      clear HB2 HG2
                      go_wp2_with fail
                      go_ret
                      exact ⟨by rw [HQ.out]; rfl, BW.out _⟩
                  · obtain rfl : j = m := by omega
                    have HQ := Lib.hid (HYES.out (fun i hi => hg.out i hi (by rw [HM.out]; exact hi)))
                    go_wp2_with fail
                    go_ret
                    exact ⟨by rw [HQ.out]; rfl, BW.out _⟩
              | false =>
                by_cases hq : m = 0
                · obtain rfl : lk = true := by rw [HLK.out, decide_eq_true hq]; rfl
                  subst hq
                  go_wp2_with fail
                  go_loop [12] (fun iv => iv = .int .i64 0) (fun iv => 0)
                  case atStart => exact rfl
                  case round =>
                    obtain rfl := hrel
                    have HQ := Lib.hid (HYES.out (fun i hi => absurd hi (by have := HM.out; omega)))
                    go_wp2_with fail
                    go_ret
                    exact ⟨by rw [HQ.out]; rfl, BW.out _⟩
                · obtain rfl : lk = false := by rw [HLK.out, decide_eq_false hq]; rfl
                  have hq2 : (0 : Int) < (m : Int) := by omega
                  go_wp2_with fail
                  go_ret
                  exact ⟨rfl, BW.out _⟩
            | false =>
              by_cases hq : tx.size = 0
              · obtain rfl : tk = true := by rw [HTK.out, decide_eq_true hq]; rfl
                obtain rfl := size_none hq
                cases L with
                | true =>
                  obtain rfl : lk = true := by rw [HLK.out]; rfl
                  go_wp2_with fail
                  go_loop [12] (fun iv => ∃ j : Nat, iv = .int .i64 j ∧ j ≤ m ∧ Hid (∀ i, (hi : i < li.length) → i < j → 0 ≤ li[i] ∧ li[i] < k)) (fun iv => m - (intOf iv).toNat)
                  case atStart => exact ⟨0, rfl, Nat.zero_le _, Lib.hid (fun i _ h => absurd h (Nat.not_lt_zero i))⟩
                  case round =>
                    obtain ⟨j, rfl, hjm, hg⟩ := hrel
                    by_cases hj : j < m
                    · have hj' : (j : Int) < (m : Int) := by omega
                      have hjl : j < li.length := by rw [← HM.out]; exact hj
                      rcases HROW.out with e | ⟨g, off, rfl, hlt, hc⟩
                      · exfalso
                        rw [e] at hjl
                        exact absurd hjl (Nat.not_lt_zero _)
                      have cj := hc j hjl
                      have HB2 := Lib.hid (HNO.out j hjl)
                      have HG2 : Hid (0 ≤ li[j] ∧ li[j] < (k : Int) → ∀ i, (hi : i < li.length) → i < j + 1 → 0 ≤ li[i] ∧ li[i] < (k : Int)) := Lib.hid (fun h i hi hij => by
                        by_cases e : i = j
                        · subst e; exact h
                        · exact hg.out i hi (by omega))
                      generalize li[j] = x at *
                      clear hc hjl hg
                      by_cases h0 : 0 ≤ x
                      · by_cases h1 : x < (k : Int)
                        · have HG3 := Lib.hid (HG2.out ⟨h0, h1⟩)
                          clear HB2 HG2
                          go_wp2_with fail
                          go_round
                          case rel => exact ⟨j + 1, by go_num, by omega, HG3⟩
                          case measure => simp [intOf]; omega
                        · have HQ := Lib.hid (HB2.out (fun h => h1 h.2))
                          clear HB2 HG2
                          go_wp2_with fail
                          go_ret
                          exact ⟨by rw [HQ.out]; rfl, BW.out _⟩
                      · have HQ := Lib.hid (HB2.out (fun h => h0 h.1))
                        clear HB2 HG2
                        go_wp2_with fail
                        go_ret
                        exact ⟨by rw [HQ.out]; rfl, BW.out _⟩
                    · obtain rfl : j = m := by omega
                      have HQ := Lib.hid (HYES.out (fun i hi => hg.out i hi (by rw [HM.out]; exact hi)))
                      go_wp2_with fail
                      go_ret
                      exact ⟨by rw [HQ.out]; rfl, BW.out _⟩
                | false =>
                  by_cases hq : m = 0
                  · obtain rfl : lk = true := by rw [HLK.out, decide_eq_true hq]; rfl
                    subst hq
                    go_wp2_with fail
                    go_loop [12] (fun iv => iv = .int .i64 0) (fun iv => 0)
                    case atStart => exact rfl
                    case round =>
                      obtain rfl := hrel
                      have HQ := Lib.hid (HYES.out (fun i hi => absurd hi (by have := HM.out; omega)))
                      go_wp2_with fail
                      go_ret
                      exact ⟨by rw [HQ.out]; rfl, BW.out _⟩
                  · obtain rfl : lk = false := by rw [HLK.out, decide_eq_false hq]; rfl
                    have hq2 : (0 : Int) < (m : Int) := by omega
                    go_wp2_with fail
                    go_ret
                    exact ⟨rfl, BW.out _⟩
              · obtain rfl : tk = false := by rw [HTK.out, decide_eq_false hq]; rfl
                have hq3 : tx ≠ ⟨#[]⟩ := fun e => hq (by rw [e]; rfl)
                obtain ⟨hq4, hq5⟩ := str6_ne hq3
                rw [show (⟨#[]⟩ : ByteArray).toList = [] from by rw [Lib.toList_data]] at hq4 hq5
                have hq8 : ¬ tx.toList = [] := by simpa using hq4
                have hq9 : tx.toList.isEmpty = false := by simpa using hq4
                go_wp2_with fail
                go_ret
                exact ⟨rfl, BW.out _⟩
          | false =>
            by_cases hq : n = 0
            · obtain rfl : nk = true := by rw [HNK.out, decide_eq_true hq]; rfl
              subst hq
              cases T with
              | true =>
                obtain rfl : tk = true := by rw [HTK.out]; rfl
                cases L with
                | true =>
                  obtain rfl : lk = true := by rw [HLK.out]; rfl
                  go_wp2_with fail
                  go_loop [12] (fun iv => ∃ j : Nat, iv = .int .i64 j ∧ j ≤ m ∧ Hid (∀ i, (hi : i < li.length) → i < j → 0 ≤ li[i] ∧ li[i] < k)) (fun iv => m - (intOf iv).toNat)
                  case atStart => exact ⟨0, rfl, Nat.zero_le _, Lib.hid (fun i _ h => absurd h (Nat.not_lt_zero i))⟩
                  case round =>
                    obtain ⟨j, rfl, hjm, hg⟩ := hrel
                    by_cases hj : j < m
                    · have hj' : (j : Int) < (m : Int) := by omega
                      have hjl : j < li.length := by rw [← HM.out]; exact hj
                      rcases HROW.out with e | ⟨g, off, rfl, hlt, hc⟩
                      · exfalso
                        rw [e] at hjl
                        exact absurd hjl (Nat.not_lt_zero _)
                      have cj := hc j hjl
                      have HB2 := Lib.hid (HNO.out j hjl)
                      have HG2 : Hid (0 ≤ li[j] ∧ li[j] < (k : Int) → ∀ i, (hi : i < li.length) → i < j + 1 → 0 ≤ li[i] ∧ li[i] < (k : Int)) := Lib.hid (fun h i hi hij => by
                        by_cases e : i = j
                        · subst e; exact h
                        · exact hg.out i hi (by omega))
                      generalize li[j] = x at *
                      clear hc hjl hg
                      by_cases h0 : 0 ≤ x
                      · by_cases h1 : x < (k : Int)
                        · have HG3 := Lib.hid (HG2.out ⟨h0, h1⟩)
                          clear HB2 HG2
                          go_wp2_with fail
                          go_round
                          case rel => exact ⟨j + 1, by go_num, by omega, HG3⟩
                          case measure => simp [intOf]; omega
                        · have HQ := Lib.hid (HB2.out (fun h => h1 h.2))
                          clear HB2 HG2
                          go_wp2_with fail
                          go_ret
                          exact ⟨by rw [HQ.out]; rfl, BW.out _⟩
                      · have HQ := Lib.hid (HB2.out (fun h => h0 h.1))
                        clear HB2 HG2
                        go_wp2_with fail
                        go_ret
                        exact ⟨by rw [HQ.out]; rfl, BW.out _⟩
                    · obtain rfl : j = m := by omega
                      have HQ := Lib.hid (HYES.out (fun i hi => hg.out i hi (by rw [HM.out]; exact hi)))
                      go_wp2_with fail
                      go_ret
                      exact ⟨by rw [HQ.out]; rfl, BW.out _⟩
                | false =>
                  by_cases hq : m = 0
                  · obtain rfl : lk = true := by rw [HLK.out, decide_eq_true hq]; rfl
                    subst hq
                    go_wp2_with fail
                    go_loop [12] (fun iv => iv = .int .i64 0) (fun iv => 0)
                    case atStart => exact rfl
                    case round =>
                      obtain rfl := hrel
                      have HQ := Lib.hid (HYES.out (fun i hi => absurd hi (by have := HM.out; omega)))
                      go_wp2_with fail
                      go_ret
                      exact ⟨by rw [HQ.out]; rfl, BW.out _⟩
                  · obtain rfl : lk = false := by rw [HLK.out, decide_eq_false hq]; rfl
                    have hq2 : (0 : Int) < (m : Int) := by omega
                    go_wp2_with fail
                    go_ret
                    exact ⟨rfl, BW.out _⟩
              | false =>
                by_cases hq : tx.size = 0
                · obtain rfl : tk = true := by rw [HTK.out, decide_eq_true hq]; rfl
                  obtain rfl := size_none hq
                  cases L with
                  | true =>
                    obtain rfl : lk = true := by rw [HLK.out]; rfl
                    go_wp2_with fail
                    go_loop [12] (fun iv => ∃ j : Nat, iv = .int .i64 j ∧ j ≤ m ∧ Hid (∀ i, (hi : i < li.length) → i < j → 0 ≤ li[i] ∧ li[i] < k)) (fun iv => m - (intOf iv).toNat)
                    case atStart => exact ⟨0, rfl, Nat.zero_le _, Lib.hid (fun i _ h => absurd h (Nat.not_lt_zero i))⟩
                    case round =>
                      obtain ⟨j, rfl, hjm, hg⟩ := hrel
                      by_cases hj : j < m
                      · have hj' : (j : Int) < (m : Int) := by omega
                        have hjl : j < li.length := by rw [← HM.out]; exact hj
                        rcases HROW.out with e | ⟨g, off, rfl, hlt, hc⟩
                        · exfalso
                          rw [e] at hjl
                          exact absurd hjl (Nat.not_lt_zero _)
                        have cj := hc j hjl
                        have HB2 := Lib.hid (HNO.out j hjl)
                        have HG2 : Hid (0 ≤ li[j] ∧ li[j] < (k : Int) → ∀ i, (hi : i < li.length) → i < j + 1 → 0 ≤ li[i] ∧ li[i] < (k : Int)) := Lib.hid (fun h i hi hij => by
                          by_cases e : i = j
                          · subst e; exact h
                          · exact hg.out i hi (by omega))
                        generalize li[j] = x at *
                        clear hc hjl hg
                        by_cases h0 : 0 ≤ x
                        · by_cases h1 : x < (k : Int)
                          · have HG3 := Lib.hid (HG2.out ⟨h0, h1⟩)
                            clear HB2 HG2
                            go_wp2_with fail
                            go_round
                            case rel => exact ⟨j + 1, by go_num, by omega, HG3⟩
                            case measure => simp [intOf]; omega
                          · have HQ := Lib.hid (HB2.out (fun h => h1 h.2))
                            clear HB2 HG2
                            go_wp2_with fail
                            go_ret
                            exact ⟨by rw [HQ.out]; rfl, BW.out _⟩
                        · have HQ := Lib.hid (HB2.out (fun h => h0 h.1))
                          clear HB2 HG2
                          go_wp2_with fail
                          go_ret
                          exact ⟨by rw [HQ.out]; rfl, BW.out _⟩
                      · obtain rfl : j = m := by omega
                        have HQ := Lib.hid (HYES.out (fun i hi => hg.out i hi (by rw [HM.out]; exact hi)))
                        go_wp2_with fail
                        go_ret
                        exact ⟨by rw [HQ.out]; rfl, BW.out _⟩
                  | false =>
                    by_cases hq : m = 0
                    · obtain rfl : lk = true := by rw [HLK.out, decide_eq_true hq]; rfl
                      subst hq
                      go_wp2_with fail
                      go_loop [12] (fun iv => iv = .int .i64 0) (fun iv => 0)
                      case atStart => exact rfl
                      case round =>
                        obtain rfl := hrel
                        have HQ := Lib.hid (HYES.out (fun i hi => absurd hi (by have := HM.out; omega)))
                        go_wp2_with fail
                        go_ret
                        exact ⟨by rw [HQ.out]; rfl, BW.out _⟩
                    · obtain rfl : lk = false := by rw [HLK.out, decide_eq_false hq]; rfl
                      have hq2 : (0 : Int) < (m : Int) := by omega
                      go_wp2_with fail
                      go_ret
                      exact ⟨rfl, BW.out _⟩
                · obtain rfl : tk = false := by rw [HTK.out, decide_eq_false hq]; rfl
                  have hq3 : tx ≠ ⟨#[]⟩ := fun e => hq (by rw [e]; rfl)
                  obtain ⟨hq4, hq5⟩ := str6_ne hq3
                  rw [show (⟨#[]⟩ : ByteArray).toList = [] from by rw [Lib.toList_data]] at hq4 hq5
                  have hq8 : ¬ tx.toList = [] := by simpa using hq4
                  have hq9 : tx.toList.isEmpty = false := by simpa using hq4
                  go_wp2_with fail
                  go_ret
                  exact ⟨rfl, BW.out _⟩
            · obtain rfl : nk = false := by rw [HNK.out, decide_eq_false hq]; rfl
              have hq6 : (n != 0) = true := by rw [bne_iff_ne]; exact hq
              go_wp2_with fail
              go_ret
              exact ⟨rfl, BW.out _⟩
end Go.Proofs.Ytpajcalfjfkogaa.Pl
