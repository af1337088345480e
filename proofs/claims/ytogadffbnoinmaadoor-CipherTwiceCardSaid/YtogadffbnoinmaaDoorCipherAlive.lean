/- alive of layer 4 answers true; what long tells. -/
import Derived.Test.YtogadffbnoinmaaDoorCipherOpen
import Derived.Test.YtogadffbnoinmaaDoorCipherEval
import Derived.Test.YtogadffbnoinmaaDoorHmacZeros
namespace Go.Proofs.YtogadffbnoinmaaDoor.Pl
open Go.RowKit

def Large (k n s : ByteArray) : Prop := 1024 < k.size ∨ 1024 < n.size ∨ 4096 < s.size
theorem not_large {k n s : ByteArray} (h : ¬ Large k n s) : k.size ≤ 1024 ∧ n.size ≤ 1024 ∧ s.size ≤ 4096 := by
  unfold Large at h; omega
theorem long_no (k n s : ByteArray) (h : k.size ≤ 1024 ∧ n.size ≤ 1024 ∧ s.size ≤ 4096) (w : World) :
    Calls Tryd.prog 7 #[.string k, .string n, .string s] w fun e w' => e = .returned (.bool false) ∧ w = w' := by
  have q1 : ¬ (1024 : Int) < (k.size : Int) := by omega
  have q2 : ¬ (1024 : Int) < (n.size : Int) := by omega
  have q3 : ¬ (4096 : Int) < (s.size : Int) := by omega
  clear h
  go_enter Tryd.func7, Tryd.ntmps7
  go_wp2_with fail
  go_ret
  exact ⟨rfl, rfl⟩
theorem long_yes (k n s : ByteArray) (h : Large k n s) (w : World) :
    Calls Tryd.prog 7 #[.string k, .string n, .string s] w fun e w' => e = .returned (.bool true) ∧ w = w' := by
  have h' : 1024 < k.size ∨ (¬ 1024 < k.size ∧ 1024 < n.size) ∨ (¬ 1024 < k.size ∧ ¬ 1024 < n.size ∧ 4096 < s.size) := by unfold Large at h; omega
  clear h
  rcases h' with h | ⟨h1, h⟩ | ⟨h1, h2, h⟩
  · have q1 : (1024 : Int) < (k.size : Int) := by omega
    clear h
    go_enter Tryd.func7, Tryd.ntmps7
    go_wp2_with fail
    go_ret
    exact ⟨rfl, rfl⟩
  · have q1 : ¬ (1024 : Int) < (k.size : Int) := by omega
    have q2 : (1024 : Int) < (n.size : Int) := by omega
    clear h h1
    go_enter Tryd.func7, Tryd.ntmps7
    go_wp2_with fail
    go_ret
    exact ⟨rfl, rfl⟩
  · have q1 : ¬ (1024 : Int) < (k.size : Int) := by omega
    have q2 : ¬ (1024 : Int) < (n.size : Int) := by omega
    have q3 : (4096 : Int) < (s.size : Int) := by omega
    clear h h1 h2
    go_enter Tryd.func7, Tryd.ntmps7
    go_wp2_with fail
    go_ret
    exact ⟨rfl, rfl⟩

theorem zeros_extract (n a b : Nat) (hb : b ≤ n) : (bytesOf (List.replicate n 0)).extract a b = bytesOf (List.replicate (b - a) 0) := by
  apply ByteArray.ext
  apply Array.ext'
  simp [bytesOf, ByteArray.data_extract, Nat.min_eq_left hb]
theorem unfit_zeros : ¬ Fits ⟨#[107]⟩ (bytesOf (List.replicate 44 0)) := by
  unfold Fits tagAt hidOf
  rw [zeros_size, zeros_extract 44 _ _ (by decide), zeros_extract 44 _ _ (by decide)]
  intro h
  have h2 := congrArg nums h
  rw [nums_bytesOf (tagOf_bytes _ _), nums_bytesOf (fun x hx => by rw [List.eq_of_mem_replicate hx]; decide), nums_bytesOf (fun x hx => by rw [List.eq_of_mem_replicate hx]; decide)] at h2
  have e : tkey (nums ⟨#[107]⟩) = _ := tag_k
  rw [e] at h2
  have e2 := h2.trans tag_k0
  revert e2
  decide

set_option maxHeartbeats 1000000 in
set_option maxRecDepth 100000 in
theorem alive_any4 (w : World) (hT : Tab w) : Calls Tryd.prog 8 #[] w fun e w' => e = .returned (.bool true) ∧ Below w.heap.size w w' := by
  have HT := Lib.hid hT
  have hm1 : ∀ V, (Instr.makeSlice 31 (.int .i64 43) (.int .i64 43)).run Tryd.prog V = .ok (.slice (some ⟨V.heap.size, 0, none⟩) 43 43) (V.alloc (.cells (row .u8 (List.replicate 43 0)) 5)) := zeros_made 43 (by decide)
  have hm2 : ∀ V, (Instr.makeSlice 31 (.int .i64 44) (.int .i64 44)).run Tryd.prog V = .ok (.slice (some ⟨V.heap.size, 0, none⟩) 44 44) (V.alloc (.cells (row .u8 (List.replicate 44 0)) 5)) := zeros_made 44 (by decide)
  have hs1 := zeros_string 43
  have hs2 := zeros_string 44
  have O1 := Lib.hid (open_end ⟨#[107]⟩ (bytesOf (List.replicate 43 0)) (by rw [zeros_size]; decide))
  have O2 := Lib.hid (open_unfit ⟨#[107]⟩ (bytesOf (List.replicate 44 0)) (by decide) (by rw [zeros_size]; decide) (by rw [zeros_size]; decide) unfit_zeros)
  have S1 := Lib.hid (seal_any ⟨#[107]⟩ ⟨#[116, 119, 101, 108, 118, 101, 32, 98, 121, 116, 101, 115]⟩ ⟨#[]⟩ (by decide) (by decide) (by decide) w hT)
  have Z1 : Hid ((bytesOf (sealedL (nums ⟨#[107]⟩) (nums ⟨#[116, 119, 101, 108, 118, 101, 32, 98, 121, 116, 101, 115]⟩) (nums ⟨#[]⟩))).size = 44) := Lib.hid (by rw [bytesOf_size, sealedL_length]; decide)
  generalize List.replicate 43 0 = R1 at *
  generalize List.replicate 44 0 = R2 at *
  clear hT
  go_enter Tryd.func8, Tryd.ntmps8
  go_wp2_with fail
  refine S1.out.mono ?_; rintro e w1 ⟨rfl, b1⟩
  have B1 := Lib.hid b1
  generalize bytesOf (sealedL (nums ⟨#[107]⟩) (nums ⟨#[116, 119, 101, 108, 118, 101, 32, 98, 121, 116, 101, 115]⟩) (nums ⟨#[]⟩)) = A at *
  clear b1 S1
  go_wp2_with fail
  refine (O1.out _).mono ?_; rintro e w2 ⟨rfl, rfl⟩
  have B2 := Lib.hid (B1.out.alloc B1.out.size (.cells (row .u8 R1) 5))
  generalize w1.alloc (.cells (row .u8 R1) 5) = W2 at *
  go_wp2_with fail
  have B3 := Lib.hid (B2.out.alloc B2.out.size (.cells (row .u8 R2) 5))
  refine (O2.out _ (HT.out.below B3.out)).mono ?_; rintro e w3 ⟨rfl, b3⟩
  have B4 := Lib.hid (below_step B3.out b3)
  have q : ((A.size : Int) == 44) = true := by rw [Z1.out]; rfl
  clear b3
  go_wp2_with fail
  go_ret
  exact ⟨rfl, B4.out⟩
end Go.Proofs.YtogadffbnoinmaaDoor.Pl
