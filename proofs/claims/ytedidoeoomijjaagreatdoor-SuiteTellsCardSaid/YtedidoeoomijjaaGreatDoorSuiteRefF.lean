/- What the document's suites make of texts: keys, hashes, tags, seals. -/
import Derived.Test.YtedidoeoomijjaaGreatDoorSuiteRefE
import Derived.Test.YtedidoeoomijjaaGreatDoorSuiteZ9
import Derived.Test.YtedidoeoomijjaaGreatDoorCipherRef
import Derived.Test.YtedidoeoomijjaaGreatDoorTermNumber
namespace Go.Proofs.YtedidoeoomijjaaGreatDoor.Pl
open Go.RowKit

theorem str_back {x y : ByteArray} (h : bl x = bl y) : Ending.returned (.string x) = .returned (.string ⟨(bl y).toArray⟩) := by rw [← h, ← bl_eq]
theorem cat_size (n : ByteArray) : (⟨#[107, 101, 121, 32]⟩ ++ n : ByteArray).size = 4 + n.size := by rw [ByteArray.size_append]; rfl
set_option maxRecDepth 100000 in
theorem rkey8_any (k : Nat) (m name : ByteArray) (hm : m.size ≤ 1000) (hn : name.size ≤ 20000) (w : World) :
    Calls Tryz.prog 11 #[suiteV k m, .string name] w fun e w' => e = .returned (st2 (keyP cryP (k == 1) (bl m) (bl name))) ∧ Below w.heap.size w w' := by
  obtain ⟨K, hK⟩ : ∃ K : ByteArray, K = ⟨#[107, 101, 121, 32]⟩ ++ name := ⟨_, rfl⟩
  have hs : K.size ≤ 800000 := by rw [hK, cat_size]; omega
  have hb : ([107, 101, 121, 32] ++ bl name : List UInt8) = bl K := by rw [hK, bl_cat]; rfl
  have H := rkey8_by cryP k m name hn
  rw [← hK, hb, cry_mac, ← bl_eq] at H
  exact H (fun V => reftag_any m K (by omega) hs V) w
theorem rhash8_any (k : Nat) (m t : ByteArray) (ht : t.size ≤ 20000) (w : World) :
    Calls Tryz.prog 13 #[suiteV k m, .string t] w fun e w' => e = .returned (st2 (hash8P cryP (k == 1) (bl t))) ∧ Below w.heap.size w w' := by
  refine rhash8_by cryP k m t ht (fun V => ?_) w
  refine (refsum_any t (by omega) V).mono ?_
  rintro e w' ⟨rfl, h⟩
  refine ⟨?_, h⟩
  rw [cry_hash]
  exact str_back rfl
theorem keyB_size (y : ByteArray) : (keyB y).size ≤ y.size := by
  rw [← bl_length, bl_keyB]
  unfold textP
  split
  · have := rdt_out ((bl y).drop 1) 1024
    rw [List.length_drop, bl_length] at this
    dsimp only
    omega
  · exact Nat.zero_le _
theorem rmac8_any (k : Nat) (h12 : k = 1 ∨ k = 2) (m y t : ByteArray) (hy : y.size ≤ 20000) (ht : t.size ≤ 20000) (w : World) :
    Calls Tryz.prog 15 #[suiteV k m, .string y, .string t] w fun e w' => e = .returned (st2 (mac8P cryP (k == 1) (bl y) (bl t))) ∧ Below w.heap.size w w' := by
  refine rmac8_by cryP k h12 m y t hy ht (fun V => ?_) w
  refine (reftag_any (keyB y) t (by have := keyB_size y; omega) (by omega) V).mono ?_
  rintro e w' ⟨rfl, h⟩
  refine ⟨?_, h⟩
  rw [cry_mac]
  exact str_back rfl
theorem rseal8_any (k : Nat) (h12 : k = 1 ∨ k = 2) (m y n t : ByteArray) (hy : y.size ≤ 20000) (hn : n.size ≤ 20000) (ht : t.size ≤ 20000) (w : World) :
    Calls Tryz.prog 17 #[suiteV k m, .string y, .string n, .string t] w fun e w' => e = .returned (st2 (seal8P cryP (k == 1) (bl y) (bl n) (bl t))) ∧ Below w.heap.size w w' := by
  refine rseal8_by cryP k h12 m y n t hy hn ht (fun h V => ?_) w
  refine (rseal_any (keyB y) (keyB n) t (by have := keyB_size y; omega) h (by omega) V).mono ?_
  rintro e w' ⟨rfl, hb⟩
  refine ⟨⟨0, ?_⟩, hb⟩
  rw [cry_shut, ← bl_eq]
  rfl
end Go.Proofs.YtedidoeoomijjaaGreatDoor.Pl
