/- What Long of layer 6 tells of a row of texts. -/
import Derived.Test.YtfghhhghhjbiaaaTermMakes
import Derived.Lib.Hide
namespace Go.Proofs.Ytfghhhghhjbiaaa.Pl
open Go.RowKit

/-- More, or longer texts than a statement looks at. -/
def Lng (l : List ByteArray) : Prop := 40 < l.length ∨ ∃ x ∈ l, 20000 < x.size
theorem lng_no {l : List ByteArray} (h : ¬ Lng l) : l.length ≤ 40 ∧ ∀ x ∈ l, x.size ≤ 20000 := by
  refine ⟨Nat.le_of_not_lt (fun k => h (.inl k)), fun x hx => Nat.le_of_not_lt (fun k => h (.inr ⟨x, hx, k⟩))⟩

set_option maxHeartbeats 1000000 in
set_option maxRecDepth 100000 in
theorem tlong_any (l : List ByteArray) (ao : Option Addr) (cap : Nat) (hl : l.length ≤ 9223372036854775807) (w : World) (hrow : TxtRow w ao l) (r : Bool) (hr : r = true ↔ Lng l) :
    Calls Try.prog 27 #[.slice ao l.length cap] w fun e w' => e = .returned (.bool r) ∧ w = w' := by
  by_cases h40 : 40 < l.length
  · obtain rfl : r = true := hr.2 (.inl h40)
    have q : (40 : Int) < ((l.length : Nat) : Int) := by omega
    generalize l.length = n at *
    clear hr hrow h40
    go_enter Try.func27, Try.ntmps27
    go_wp2_with fail
    go_ret
    exact ⟨rfl, rfl⟩
  · have q : ¬ (40 : Int) < ((l.length : Nat) : Int) := by omega
    have HYES : Hid (∀ k, k < l.length → 20000 < (l.getD k ByteArray.empty).size → r = true) := Lib.hid (fun k hk h => hr.2 (.inr ⟨_, getD_mem6 l k hk, h⟩))
    have HNO : Hid ((∀ k, k < l.length → ¬ 20000 < (l.getD k ByteArray.empty).size) → r = false) := Lib.hid (fun h => by
      cases e : r with
      | false => rfl
      | true =>
        rcases hr.1 e with h1 | ⟨x, hx, h1⟩
        · exact absurd h1 h40
        · obtain ⟨k, hk, rfl⟩ := mem_getD6 hx
          exact absurd h1 (h k hk))
    have HROW := Lib.hid hrow
    obtain ⟨n, hn⟩ : ∃ n, n = l.length := ⟨_, rfl⟩
    have HN := Lib.hid hn
    have h40' : n ≤ 40 := by omega
    rw [← hn] at hl q ⊢
    clear hrow hr hn h40
    go_enter Try.func27, Try.ntmps27
    go_wp2_with fail
    go_loopw [3] (fun iv wr => ∃ k : Nat, iv = .int .i64 k ∧ k ≤ n ∧ Hid (∀ j, j < k → ¬ 20000 < (l.getD j ByteArray.empty).size) ∧ Hid (w = wr)) (fun iv _ => n - (intOf iv).toNat)
    case atStart => exact ⟨0, rfl, Nat.zero_le _, Lib.hid (fun j hj => absurd hj (Nat.not_lt_zero j)), Lib.hid rfl⟩
    case round =>
      obtain ⟨k, rfl, hkn, hch, hw⟩ := hrel
      by_cases hk : k < n
      · have hk' : (k : Int) < (n : Int) := by omega
        rcases HROW.out with e | ⟨b, off, rfl, hlt, hc⟩
        · exfalso; have := HN.out; rw [e] at this; simp at this; omega
        have ck := hc k (by have := HN.out; omega)
        rw [hw.out] at ck
        have HK := Lib.hid (HYES.out k (by have := HN.out; omega))
        have HY : Hid (¬ 20000 < (l.getD k ByteArray.empty).size → ∀ j, j < k + 1 → ¬ 20000 < (l.getD j ByteArray.empty).size) := Lib.hid (fun h j hj => by
          by_cases e : j = k
          · rw [e]; exact h
          · exact hch.out j (by omega))
        generalize l.getD k ByteArray.empty = y at *
        clear hc hlt
        by_cases hy : 20000 < y.size
        · have q2 : (20000 : Int) < (y.size : Int) := by omega
          have HX := Lib.hid (HK.out hy)
          clear hy
          go_wp2_with fail
          go_ret
          exact ⟨ret6_bool HX.out.symm, hw.out⟩
        · have q2 : ¬ (20000 : Int) < (y.size : Int) := by omega
          have HX := Lib.hid (HY.out hy)
          clear hy
          go_wp2_with fail
          go_roundw
          case rel => exact ⟨k + 1, by go_num, by omega, HX, hw⟩
          case measure => simp [intOf]; omega
      · obtain rfl : k = n := by omega
        have HX := Lib.hid (HNO.out (fun j hj => hch.out j (by have := HN.out; omega)))
        clear hk hkn
        go_wp2_with fail
        go_ret
        exact ⟨ret6_bool HX.out.symm, hw.out⟩
end Go.Proofs.Ytfghhhghhjbiaaa.Pl
