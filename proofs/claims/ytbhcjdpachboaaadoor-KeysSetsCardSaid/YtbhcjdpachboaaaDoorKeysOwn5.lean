/- What keys.pairs hands to a loop. -/
import Derived.RangeFuncBox
import Derived.RangeFuncNested
import Derived.RangeFuncLeaves
import Derived.Shelf.Abstract
import Derived.WalkKit
import Derived.OwnWalkIn
import Derived.TacticsInMore
import Derived.LoopNIn
import Derived.LoopIn
import Derived.Maps.AppendAt
import Derived.Test.YtbhcjdpachboaaaDoorKeysOwn4
import Derived.Test.YtbhcjdpachboaaaDoorKeysOwn2
namespace Go.Proofs.YtbhcjdpachboaaaDoor.Pl
open Go.RowKit Go.Shelf
attribute [local go_sem] Oper.semAt_some

/-- Two organisations, the lower one first. -/
abbrev PairK : Type := { p : Nat × Nat // p.1 ≤ p.2 ∧ p.2 < 8 }
def clampP (a b : Nat) : PairK := ⟨(min (min a b) 7, min (max a b) 7), by show min (min a b) 7 ≤ min (max a b) 7; omega, by show min (max a b) 7 < 8; omega⟩
theorem clamp_val {a b : Nat} (h : a ≤ b) (hb : b < 8) : (clampP a b).1 = (a, b) := by
  show (min (min a b) 7, min (max a b) 7) = (a, b)
  rw [Nat.min_eq_left h, Nat.max_eq_right h, Nat.min_eq_left (by omega), Nat.min_eq_left (by omega)]
def encK (x : PairK) : Array Value := #[.agg #[.int .i64 (x.1.1 : Int), .int .i64 (x.1.2 : Int)]]
/-- The pairs of a and whoever is neither below a nor above j. -/
def colP (a j : Nat) : List PairK := ((List.range j).filter (fun b => decide (a ≤ b))).map (clampP a)
def allP (m k : Nat) : List PairK := (List.range k).flatMap (fun a => colP a m)
theorem colP_succ {a j : Nat} (h : a ≤ j) : colP a (j + 1) = colP a j ++ [clampP a j] := by simp [colP, List.range_succ, h]
theorem colP_low (a : Nat) : ∀ j, j ≤ a → colP a j = []
  | 0, _ => rfl
  | j + 1, h => by
    have ih := colP_low a j (by omega)
    unfold colP at ih ⊢
    rw [List.range_succ, List.filter_append, List.map_append, ih]
    simp
    omega
theorem allP_succ (m k : Nat) : allP m (k + 1) = allP m k ++ colP k m := range_flat _ _
theorem colP_len (a j : Nat) : (colP a j).length ≤ j := by
  have := List.length_filter_le (fun b => decide (a ≤ b)) (List.range j)
  rw [List.length_range] at this
  simpa [colP] using this
theorem allP_len (m k : Nat) : (allP m k).length ≤ m * k := flat_len _ m (fun a => colP_len a m) k

/-- A round need keep nothing. -/
def KeepAny (_ _ : World) : Prop := True
set_option maxRecDepth 100000 in
set_option maxHeartbeats 1000000 in
theorem pairs1_in (n : Nat) (hn : 1 ≤ n) (l B1 : Nat) (m : Nat) (hm : m ≤ 8) (z : Int) (hz : amongK z = (m : Int)) (J Jx : List PairK → World → Prop)
    (W : World) (c1 : W.cell? ⟨B1, 0, none⟩ = some (.int .i64 z))
    (hJ : AbidesFrom W.heap.size J)
    (hY : ∀ pre x W1, J pre W1 → pre.length < 64 → YieldAt Fence.wide (n - 1) Tryd.prog l (encK x) W1 fun e W' =>
      (e = .returned (.bool true) ∧ J (pre ++ [x]) W' ∧ KeepAny W1 W') ∨ (e = .returned (.bool false) ∧ Jx (pre ++ [x]) W'))
    (h0 : J [] W) :
    CallsIn Fence.wide n Tryd.prog 38 #[.func (.yield l) #[] #[], .pointer (some ⟨B1, 0, none⟩)] W fun e W' => (∃ v, e = .returned v) ∧
      ((∃ ys, ys = allP m m ∧ J ys W') ∨ (∃ pre, True ∧ Jx pre W')) := by
  have HM := Lib.hid (among_any z)
  rw [hz] at HM
  refine callsIn_of_wp Tryd.func38 rfl trivial ?_ rfl
  simp only [Tryd.ntmps38, List.size_toArray, List.length_cons, List.length_nil, Nat.reduceAdd, Nat.reduceSub, Array.replicate_succ, Array.replicate_zero, List.push_toArray, List.append_toArray, List.nil_append, List.cons_append]
  gi_wp2_with (refine ⟨trivial, ?_⟩; gi_at_call 34; refine (callsIn_wide.2 (HM.out _)).mono ?_; rintro e w1 ⟨rfl, rfl⟩)
  gi_loopw [9] (fun r wr => ∃ k : Nat, r = .int .i64 k ∧ k ≤ m ∧ J (allP m k) wr) (fun r _ => m - (intOf r).toNat)
  case atStart => exact ⟨0, rfl, Nat.zero_le _, h0⟩
  case round =>
    obtain ⟨k, rfl, hkm, hJs⟩ := hrel
    by_cases hk : k < m
    · have hk' : (k : Int) < (m : Int) := by omega
      clear h0
      gi_wp2
      gi_loopw [5] (fun r wr => ∃ j : Nat, r = .int .i64 j ∧ k ≤ j ∧ j ≤ m ∧ J (allP m k ++ colP k j) wr) (fun r _ => m - (intOf r).toNat)
      case atStart => exact ⟨k, rfl, Nat.le_refl _, hkm, by rw [colP_low k k (Nat.le_refl _), List.append_nil]; exact hJs⟩
      case round =>
        obtain ⟨j, rfl, hkj, hjm, hJs2⟩ := hrel
        by_cases hj : j < m
        · have hj' : (j : Int) < (m : Int) := by omega
          have hlen : (allP m k ++ colP k j).length < 64 := by
            rw [List.length_append]
            have h1 := allP_len m k
            have h2 := colP_len k j
            have h3 : m * k ≤ 8 * 7 := Nat.mul_le_mul hm (by omega)
            omega
          have HY := hY _ (clampP k j) wr hJs2 hlen
          unfold encK at HY
          rw [clamp_val hkj (by omega)] at HY
          rw [List.append_assoc, ← colP_succ hkj] at HY
          have hwj : wrap64 ((j : Int) + 1) = (j : Int) + 1 := by unfold wrap64; omega
          have HJ := Lib.hid hJ
          have HYA := Lib.hid hY
          clear hJ hY hJs hJs2 hlen hm hz
          obtain ⟨fn, tmps, assign, body, hy, hR⟩ := HY
          dsimp only at hy
          gi_wp2
          refine hR.mono ?_
          rintro e W3 (⟨rfl, hJ3, _⟩ | ⟨rfl, hJx3⟩)
          · gi_wp2
            go_roundw
            case rel => exact ⟨j + 1, by rw [hwj, Int.natCast_add, Int.natCast_one], by omega, by omega, hJ3⟩
            case measure =>
              rw [hwj]
              show m - ((j : Int) + 1).toNat < m - (j : Int).toNat
              omega
          · gi_wp2
            refine bodyPost_ret (results_none rfl _ _ _) rfl ?_
            exact ⟨⟨_, rfl⟩, .inr ⟨_, trivial, hJx3⟩⟩
        · obtain rfl : j = m := by omega
          have hJ4 : J (allP j (k + 1)) wr := by rw [allP_succ]; exact hJs2
          clear hj hjm hJs
          gi_wp2
          go_roundw
          case rel => exact ⟨k + 1, by go_num, by omega, hJ4⟩
          case measure => simp [intOf]; omega
    · obtain rfl : k = m := by omega
      clear hk hkm
      gi_wp2
      go_end0
      exact ⟨⟨_, rfl⟩, .inl ⟨_, rfl, hJs⟩⟩
theorem pairs_in (z : Int) (w : World) :
    Calls Tryd.prog 32 #[.int .i64 z] w fun e w' => e = .returned (.func (.func 38) #[] #[.pointer (some ⟨w.heap.size, 0, none⟩)]) ∧
      w.alloc (.cells #[.int .i64 z] 3) = w' := by
  go_enter Tryd.func32, Tryd.ntmps32
  go_wp2
  go_ret
  exact ⟨rfl, rfl⟩
theorem pairs_stops (n : Nat) (hn : 1 ≤ n) (B1 : Nat) (m : Nat) (hm : m ≤ 8) (z : Int) (hz : amongK z = (m : Int))
    (w : World) (hB1 : B1 < w.heap.size) (c1 : w.cell? ⟨B1, 0, none⟩ = some (.int .i64 z)) :
    SeqStopsK Fence.wide n Tryd.prog 38 #[.pointer (some ⟨B1, 0, none⟩)] encK KeepAny (fun ys => ys = allP m m) (fun _ => True) 64 w := fun l J Jx W hW hJ _ hY h0 =>
  pairs1_in n hn l B1 m hm z hz J Jx W ((hW.cell (p := ⟨B1, 0, none⟩) hB1).trans c1) hJ hY h0
end Go.Proofs.YtbhcjdpachboaaaDoor.Pl
