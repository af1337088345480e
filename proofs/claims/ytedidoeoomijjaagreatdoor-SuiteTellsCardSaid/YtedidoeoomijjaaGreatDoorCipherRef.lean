/- What the document's Seal and Open of layer 4 answer. -/
import Derived.Test.YtedidoeoomijjaaGreatDoorSuiteZ7
import Derived.Test.YtedidoeoomijjaaGreatDoorCipherOpen
import Derived.Lib.Strings
namespace Go.Proofs.YtedidoeoomijjaaGreatDoor.Pl
open Go.RowKit

theorem rseal_arg (key nonce s : ByteArray) (h : nonce.size ≠ 12) (w : World) :
    Calls Tryz.prog 36 #[.string key, .string nonce, .string s] w fun e w' => e = .returned (.tuple #[.string ⟨#[]⟩, .int .i64 2]) ∧ w = w' := by
  have e1 : ((nonce.size : Int) != 12) = true := by rw [bne_iff_ne]; omega
  clear h
  go_enter Tryz.func36, Tryz.ntmps36
  go_wp2_with fail
  go_ret2
  exact ⟨rfl, rfl⟩

set_option maxHeartbeats 1000000 in
set_option maxRecDepth 100000 in
theorem rseal_any (key nonce s : ByteArray) (hk : key.size ≤ 800000) (h : nonce.size = 12) (h2 : s.size ≤ 65536) (w : World) :
    Calls Tryz.prog 36 #[.string key, .string nonce, .string s] w (SealPost (sealedL (nums key) (nums nonce) (nums s)) w) := by
  have e1 : ((nonce.size : Int) != 12) = false := by rw [h]; rfl
  have hle : ¬ (65536 : Int) < (s.size : Int) := by omega
  have HX := Lib.hid (rxored_any key nonce s hk (by omega) (by omega) w)
  have HH : Hid (nums nonce ++ nums (bytesOf (hide (skey (nums key)) (nums nonce) (nums s))) = hiddenL (nums key) (nums nonce) (nums s)) := Lib.hid (by rw [nums_bytesOf (hide_bytes _ _ (nums_bytes s))]; rfl)
  have HZ : Hid ((bytesOf (hide (skey (nums key)) (nums nonce) (nums s))).size ≤ 65536) := Lib.hid (by rw [bytesOf_size, hide_length, nums_length]; exact h2)
  have HN := Lib.hid h
  have HK := Lib.hid hk
  clear h hk h2
  go_enter Tryz.func36, Tryz.ntmps36
  go_wp2_with fail
  refine HX.out.mono ?_; rintro e w1 ⟨rfl, b1⟩
  have B1 := Lib.hid b1
  obtain ⟨X, hX⟩ : ∃ X, X = bytesOf (hide (skey (nums key)) (nums nonce) (nums s)) := ⟨_, rfl⟩
  rw [← hX] at HH HZ ⊢
  have hcat : nonce.size + X.size ≤ 9223372036854775807 := by have := HZ.out; have := HN.out; omega
  clear b1 hX HX
  go_wp2_with fail
  have HQ : Hid (nums (nonce ++ X) = hiddenL (nums key) (nums nonce) (nums s)) := Lib.hid (by rw [nums_append]; exact HH.out)
  have HY : Hid ((nonce ++ X).size ≤ 100000) := Lib.hid (by rw [ByteArray.size_append]; have := HZ.out; have := HN.out; omega)
  generalize nonce ++ X = Y at *
  refine (rtagof_any key Y HK.out (by have := HY.out; omega) w1).mono ?_; rintro e w2 ⟨rfl, b2⟩
  have B2 := Lib.hid (below_step B1.out b2)
  have HF : Hid (Y ++ bytesOf (tagOf (tkey (nums key)) (nums Y)) = bytesOf (sealedL (nums key) (nums nonce) (nums s))) := Lib.hid (by rw [sealedL, bytesOf_append, ← HQ.out, bytesOf_nums])
  have HW : Hid ((bytesOf (tagOf (tkey (nums key)) (nums Y))).size = 32) := Lib.hid (by rw [bytesOf_size, tagOf_length])
  generalize bytesOf (tagOf (tkey (nums key)) (nums Y)) = T at *
  have hcat2 : Y.size + T.size ≤ 9223372036854775807 := by have := HW.out; have := HY.out; omega
  clear b2
  go_wp2_with fail
  go_ret2
  exact ⟨by rw [← HF.out]; rfl, B2.out⟩

theorem ropen_end (key x : ByteArray) (h : x.size < 44) (w : World) :
    Calls Tryz.prog 39 #[.string key, .string x] w fun e w' => e = .returned (.tuple #[.string ⟨#[]⟩, .int .i64 6]) ∧ w = w' := by
  go_enter Tryz.func39, Tryz.ntmps39
  go_wp2_with fail
  go_ret2
  exact ⟨rfl, rfl⟩

theorem extract_extract (x : ByteArray) (m a b : Nat) (hb : b ≤ m) : (x.extract 0 m).extract a b = x.extract a b := by
  apply ByteArray.ext
  simp [ByteArray.data_extract, Array.extract_extract, Nat.min_eq_left hb]
theorem rb_keep {w W V : World} (h : Hid (Below w.heap.size w W)) (hb : Below W.heap.size W V) : Hid (Below w.heap.size w V) := Lib.hid (below_step h.out hb)
theorem rb_tag {W : World} {key y T : ByteArray} (h : Hid (key.size ≤ 800000 ∧ y.size ≤ 800000 ∧ T = bytesOf (tagOf (tkey (nums key)) (nums y)))) :
    Calls Tryz.prog 61 #[.string key, .string y] W fun e w' => e = .returned (.string T) ∧ Below W.heap.size W w' := by
  rw [h.out.2.2]; exact rtagof_any key y h.out.1 h.out.2.1 W
theorem rb_xored {W : World} {key n y R : ByteArray} (h : Hid (key.size ≤ 800000 ∧ n.size ≤ 1000 ∧ y.size ≤ 100000 ∧ R = bytesOf (hide (skey (nums key)) (nums n) (nums y)))) :
    Calls Tryz.prog 60 #[.string key, .string n, .string y] W fun e w' => e = .returned (.string R) ∧ Below W.heap.size W w' := by
  rw [h.out.2.2.2]; exact rxored_any key n y h.out.1 h.out.2.1 h.out.2.2.1 W

set_option maxHeartbeats 1000000 in
set_option maxRecDepth 100000 in
theorem ropen_fits (key x : ByteArray) (hk : key.size ≤ 800000) (h1 : 44 ≤ x.size) (h2 : x.size ≤ 65580) (hf : Fits key x) (w : World) :
    Calls Tryz.prog 39 #[.string key, .string x] w fun e w' => e = .returned (.tuple #[.string (shown key (hidOf x)), .int .i64 0]) ∧ Below w.heap.size w w' := by
  obtain ⟨m, hm⟩ : ∃ m, m = x.size - 32 := ⟨_, rfl⟩
  have q0 : ¬ (x.size : Int) < 44 := by omega
  have q1 : ¬ (65580 : Int) < (x.size : Int) := by omega
  have q2 : (x.size : Int) - 32 = (m : Int) := by omega
  have hs1 := slice_to x m (by omega)
  have hs2 := slice_from x m (by omega)
  have hs3 : ∀ V, (Instr.sliceAt 9 (.string x) none (some (.int .i64 12)) none).run Tryz.prog V = .ok (.string (x.extract 0 12)) V := slice_to x 12 (by omega)
  have hs4 : ∀ V, (Instr.sliceAt 9 (.string x) (some (.int .i64 12)) (some (.int .i64 (m : Int))) none).run Tryz.prog V = .ok (.string (x.extract 12 m)) V := slice_mid x 12 m (by omega) (by omega)
  have hY : hidOf x = x.extract 0 m := by rw [hm]; rfl
  have hT : tagAt x = x.extract m x.size := by rw [hm]; rfl
  have HT : Hid (key.size ≤ 800000 ∧ (x.extract 0 m).size ≤ 800000 ∧ x.extract m x.size = bytesOf (tagOf (tkey (nums key)) (nums (x.extract 0 m)))) := Lib.hid ⟨hk, by simp; omega, by rw [← hT, ← hY]; exact hf⟩
  obtain ⟨R, eR⟩ : ∃ R, R = shown key (hidOf x) := ⟨_, rfl⟩
  have HR : Hid (key.size ≤ 800000 ∧ (x.extract 0 12).size ≤ 1000 ∧ (x.extract 12 m).size ≤ 100000 ∧ R = bytesOf (hide (skey (nums key)) (nums (x.extract 0 12)) (nums (x.extract 12 m)))) := Lib.hid ⟨hk, by simp; omega, by simp; omega, by
    have hs : (x.extract 0 m).size = m := by simp; omega
    rw [eR, hY, shown, hs, extract_extract x m 0 12 (by omega), extract_extract x m 12 m (Nat.le_refl _)]⟩
  have ER := Lib.hid eR
  have B0 : Hid (Below w.heap.size w w.drew) := Lib.hid (drew_below w)
  clear hm hf hk h1 h2 hY hT eR
  generalize x.extract 0 m = Y at *
  generalize x.extract m x.size = T at *
  generalize x.extract 0 12 = n at *
  generalize x.extract 12 m = h at *
  go_enter Tryz.func39, Tryz.ntmps39
  go_wp2_with fail
  go_region_held3 (fun W => Hid (Below w.heap.size w W)) (first | assumption | with_reducible exact rb_keep ‹_› ‹_›) (first
    | (go_at_call 61; with_reducible refine (rb_tag HT).mono ?_; rintro e w3 ⟨rfl, hb3⟩))
  have HB : Hid (Below w.heap.size w w3) := ‹_›
  go_wp2_with fail
  have B1 := rb_keep HB (drew_below w3)
  clear HB
  go_region_held3 (fun W => Hid (Below w.heap.size w W)) (first | assumption | with_reducible exact rb_keep ‹_› ‹_›) (first
    | (go_at_call 60; with_reducible refine (rb_xored HR).mono ?_; rintro e w4 ⟨rfl, hb4⟩))
  go_wp2_with fail
  go_ret2
  have hS : Hid (Below w.heap.size w w4) := ‹_›
  exact ⟨by rw [← ER.out]; rfl, hS.out⟩

theorem toList_ne {a b : ByteArray} (h : a ≠ b) : (a.toList == b.toList) = false ∧ (a.toList != b.toList) = true := by
  have h' : a.toList ≠ b.toList := fun e => h (by
    rw [Lib.toList_data, Lib.toList_data] at e
    apply ByteArray.ext
    exact Array.ext' e)
  exact ⟨beq_eq_false_iff_ne.2 h', bne_iff_ne.2 h'⟩
set_option maxHeartbeats 1000000 in
set_option maxRecDepth 100000 in
theorem ropen_unfit (key x : ByteArray) (hk : key.size ≤ 800000) (h1 : 44 ≤ x.size) (h2 : x.size ≤ 65580) (hf : ¬ Fits key x) (w : World) :
    Calls Tryz.prog 39 #[.string key, .string x] w fun e w' => e = .returned (.tuple #[.string ⟨#[]⟩, .int .i64 40]) ∧ Below w.heap.size w w' := by
  obtain ⟨m, hm⟩ : ∃ m, m = x.size - 32 := ⟨_, rfl⟩
  have q0 : ¬ (x.size : Int) < 44 := by omega
  have q1 : ¬ (65580 : Int) < (x.size : Int) := by omega
  have q2 : (x.size : Int) - 32 = (m : Int) := by omega
  have hs1 := slice_to x m (by omega)
  have hs2 := slice_from x m (by omega)
  have hY : hidOf x = x.extract 0 m := by rw [hm]; rfl
  have hT : tagAt x = x.extract m x.size := by rw [hm]; rfl
  obtain ⟨C, eC⟩ : ∃ C, C = bytesOf (tagOf (tkey (nums key)) (nums (x.extract 0 m))) := ⟨_, rfl⟩
  have hne : C ≠ x.extract m x.size := by rw [eC, ← hT, ← hY]; exact fun e => hf e.symm
  obtain ⟨g1, g2⟩ := toList_ne hne
  have HT : Hid (key.size ≤ 800000 ∧ (x.extract 0 m).size ≤ 800000 ∧ C = bytesOf (tagOf (tkey (nums key)) (nums (x.extract 0 m)))) := Lib.hid ⟨hk, by simp; omega, eC⟩
  have B0 : Hid (Below w.heap.size w w.drew) := Lib.hid (drew_below w)
  clear hm hf hk h1 h2 hY hT eC hne
  generalize x.extract 0 m = Y at *
  generalize x.extract m x.size = T at *
  go_enter Tryz.func39, Tryz.ntmps39
  go_wp2_with fail
  go_region_held3 (fun W => Hid (Below w.heap.size w W)) (first | assumption | with_reducible exact rb_keep ‹_› ‹_›) (first
    | (go_at_call 61; with_reducible refine (rb_tag HT).mono ?_; rintro e w3 ⟨rfl, hb3⟩))
  have HB : Hid (Below w.heap.size w w3) := ‹_›
  go_wp2_with fail
  go_ret2
  exact ⟨rfl, HB.out⟩
end Go.Proofs.YtedidoeoomijjaaGreatDoor.Pl
