/- CipherTwice answers true, whatever it is given. -/
import Derived.Test.YtogadffbnoinmaaDoorCipherXor
import Derived.Test.YtogadffbnoinmaaDoorCipherOpens
import Derived.Lib.Strings
namespace Go.Proofs.YtogadffbnoinmaaDoor.Pl
open Go.RowKit

theorem take_getD (l : List Nat) (n j : Nat) (h : j < n) : (l.take n).getD j 0 = l.getD j 0 := by
  simp [List.getD_eq_getElem?_getD, h]
/-- What is hidden in a sealed form, as far as n goes. -/
theorem sealed_mid (k nonce l : List Nat) (n : Nat) (hn : nonce.length = 12) (h : n ≤ l.length) : ((sealedL k nonce l).drop 12).take n = (hide (skey k) nonce l).take n := by
  rw [sealedL, hiddenL, List.append_assoc, List.drop_left' hn, List.take_append_of_le_length (by rw [hide_length]; exact h)]
/-- Two texts that were sealed with one nonce give away what they are, xor each other. -/
theorem twice_same (key nonce a b : ByteArray) (n : Nat) (hn : nonce.size = 12) (ha : n ≤ a.size) (hb : n ≤ b.size) :
    xorT ((bytesOf (sealedL (nums key) (nums nonce) (nums a))).extract 12 (12 + n)) ((bytesOf (sealedL (nums key) (nums nonce) (nums b))).extract 12 (12 + n)) = xorT (a.extract 0 n) (b.extract 0 n) := by
  unfold xorT
  have hnl : (nums nonce).length = 12 := by rw [nums_length]; exact hn
  have e1 : nums ((bytesOf (sealedL (nums key) (nums nonce) (nums a))).extract 12 (12 + n)) = (hide (skey (nums key)) (nums nonce) (nums a)).take n := by
    rw [nums_extract, nums_bytesOf (sealedL_bytes _ (nums_bytes _) (nums_bytes _)), show 12 + n - 12 = n by omega, sealed_mid _ _ _ _ hnl (by rw [nums_length]; exact ha)]
  have e2 : nums ((bytesOf (sealedL (nums key) (nums nonce) (nums b))).extract 12 (12 + n)) = (hide (skey (nums key)) (nums nonce) (nums b)).take n := by
    rw [nums_extract, nums_bytesOf (sealedL_bytes _ (nums_bytes _) (nums_bytes _)), show 12 + n - 12 = n by omega, sealed_mid _ _ _ _ hnl (by rw [nums_length]; exact hb)]
  have e3 : nums (a.extract 0 n) = (nums a).take n := by rw [nums_extract, List.drop_zero, Nat.sub_zero]
  have e4 : nums (b.extract 0 n) = (nums b).take n := by rw [nums_extract, List.drop_zero, Nat.sub_zero]
  rw [e1, e2, e3, e4]
  congr 1
  have la : (nums a).length = a.size := nums_length a
  have lb : (nums b).length = b.size := nums_length b
  apply listD_ext (by rw [xorf_length, xorf_length, List.length_take, List.length_take, hide_length])
  intro i hi
  rw [xorf_length, List.length_take, hide_length, la] at hi
  have hin : i < n := by omega
  rw [xorf_at _ _ _ (by rw [List.length_take, hide_length, la]; omega), xorf_at _ _ _ (by rw [List.length_take, la]; omega), take_getD _ _ _ hin, take_getD _ _ _ hin, take_getD _ _ _ hin, take_getD _ _ _ hin,
    hide, hide, xorf_at _ _ _ (by rw [la]; omega), xorf_at _ _ _ (by rw [lb]; omega)]
  rw [Nat.xor_assoc, Nat.xor_comm (ksAt _ _ i) _, Nat.xor_assoc, Nat.xor_self, Nat.xor_zero]

set_option maxRecDepth 100000 in
theorem twice_large (key nonce a b : ByteArray) (w : World) (hT : Tab w) (h : Large key nonce a ∨ (¬ Large key nonce a ∧ Large key nonce b)) :
    Calls Tryd.prog 6 #[.string key, .string nonce, .string a, .string b] w fun e w' => e = .returned (.bool true) ∧ Below w.heap.size w w' := by
  have HT := Lib.hid hT
  clear hT
  rcases h with h | ⟨h0, h⟩
  · have HG := Lib.hid h
    clear h
    go_enter Tryd.func6, Tryd.ntmps6
    go_wp2_with fail
    refine (long_yes key nonce a HG.out w).mono ?_; rintro e w1 ⟨rfl, rfl⟩
    go_wp2_with fail
    refine (alive_any4 w HT.out).mono ?_; rintro e w1 ⟨rfl, b1⟩
    have B1 := Lib.hid b1
    clear b1
    go_wp2_with fail
    go_ret
    exact ⟨rfl, B1.out⟩
  · have HG := Lib.hid h
    have H0 := Lib.hid (not_large h0)
    clear h h0
    go_enter Tryd.func6, Tryd.ntmps6
    go_wp2_with fail
    refine (long_no key nonce a H0.out w).mono ?_; rintro e w1 ⟨rfl, rfl⟩
    go_wp2_with fail
    refine (long_yes key nonce b HG.out w).mono ?_; rintro e w1 ⟨rfl, rfl⟩
    go_wp2_with fail
    refine (alive_any4 w HT.out).mono ?_; rintro e w1 ⟨rfl, b1⟩
    have B1 := Lib.hid b1
    clear b1
    go_wp2_with fail
    go_ret
    exact ⟨rfl, B1.out⟩
set_option maxRecDepth 100000 in
theorem twice_arg (key nonce a b : ByteArray) (w : World) (hT : Tab w) (h1 : ¬ Large key nonce a) (h2 : ¬ Large key nonce b) (hn : nonce.size ≠ 12) :
    Calls Tryd.prog 6 #[.string key, .string nonce, .string a, .string b] w fun e w' => e = .returned (.bool true) ∧ Below w.heap.size w w' := by
  have HT := Lib.hid hT
  have H1 := Lib.hid (not_large h1)
  have H2 := Lib.hid (not_large h2)
  have HN := Lib.hid hn
  clear hT h1 h2 hn
  go_enter Tryd.func6, Tryd.ntmps6
  go_wp2_with fail
  refine (long_no key nonce a H1.out w).mono ?_; rintro e w1 ⟨rfl, rfl⟩
  go_wp2_with fail
  refine (long_no key nonce b H2.out w).mono ?_; rintro e w1 ⟨rfl, rfl⟩
  go_wp2_with fail
  refine (seal_arg key nonce a HN.out w).mono ?_; rintro e w1 ⟨rfl, rfl⟩
  go_wp2_with fail
  refine (seal_arg key nonce b HN.out w).mono ?_; rintro e w1 ⟨rfl, rfl⟩
  go_wp2_with fail
  refine (alive_any4 w HT.out).mono ?_; rintro e w1 ⟨rfl, b1⟩
  have B1 := Lib.hid b1
  clear b1
  go_wp2_with fail
  go_ret
  exact ⟨rfl, B1.out⟩
theorem tw_keep {w W V : World} (h : Hid (Below w.heap.size w W)) (hb : Below W.heap.size W V) : Hid (Below w.heap.size w V) := Lib.hid (below_step h.out hb)
theorem tw_xor {W : World} {a b R : ByteArray} (h : Hid (a.size ≤ 100000 ∧ R = xorT a b)) :
    Calls Tryd.prog 13 #[.string a, .string b] W fun e w' => e = .returned (.string R) ∧ Below W.heap.size W w' := by
  rw [h.out.2]; exact rxor_any a b h.out.1 W
theorem tw_alive {w W : World} (hT : Hid (Tab w)) (h : Hid (Below w.heap.size w W)) : Calls Tryd.prog 8 #[] W fun e w' => e = .returned (.bool true) ∧ Below W.heap.size W w' :=
  alive_any4 W (hT.out.below h.out)

theorem seal_is (key nonce s x : ByteArray) (hk : key.size ≤ 1000000) (h : nonce.size = 12) (h2 : s.size ≤ 65536) (hx : x = bytesOf (sealedL (nums key) (nums nonce) (nums s))) (w : World) (hT : Tab w) :
    Calls Tryd.prog 9 #[.string key, .string nonce, .string s] w fun e w' => e = .returned (.tuple #[.string x, .int .i64 0]) ∧ Below w.heap.size w w' := by
  rw [hx]; exact seal_any key nonce s hk h h2 w hT

set_option maxHeartbeats 2000000 in
set_option maxRecDepth 100000 in
theorem twice_b (key nonce a b : ByteArray) (w : World) (hT : Tab w) (h1 : ¬ Large key nonce a) (h2 : ¬ Large key nonce b) (hn : nonce.size = 12) (hc : b.size < a.size) :
    Calls Tryd.prog 6 #[.string key, .string nonce, .string a, .string b] w fun e w' => e = .returned (.bool true) ∧ Below w.heap.size w w' := by
  have HT := Lib.hid hT
  have l1 := not_large h1
  have l2 := not_large h2
  have H1 := Lib.hid l1
  have H2 := Lib.hid l2
  have TS := twice_same key nonce a b b.size hn (by omega) (by omega)
  have z1 : (bytesOf (sealedL (nums key) (nums nonce) (nums a))).size = a.size + 44 := by rw [bytesOf_size, sealedL_length, nums_length, nums_length, hn]; omega
  have z2 : (bytesOf (sealedL (nums key) (nums nonce) (nums b))).size = b.size + 44 := by rw [bytesOf_size, sealedL_length, nums_length, nums_length, hn]; omega
  obtain ⟨x, hx⟩ : ∃ x, x = bytesOf (sealedL (nums key) (nums nonce) (nums a)) := ⟨_, rfl⟩
  obtain ⟨y, hy⟩ : ∃ y, y = bytesOf (sealedL (nums key) (nums nonce) (nums b)) := ⟨_, rfl⟩
  have S1 := Lib.hid (seal_is key nonce a x (by omega) hn (by omega) hx w hT)
  have S2 := Lib.hid (fun V hV => seal_is key nonce b y (by omega) hn (by omega) hy V hV)
  rw [← hx] at TS z1
  rw [← hy] at TS z2
  obtain ⟨m, hm⟩ : ∃ m, m = 12 + b.size := ⟨_, rfl⟩
  rw [← hm] at TS
  have hs1 : ∀ V, (Instr.sliceAt 9 (.string x) (some (.int .i64 12)) (some (.int .i64 (m : Int))) none).run Tryd.prog V = .ok (.string (x.extract 12 m)) V := slice_mid x 12 m (by omega) (by omega)
  have hs2 : ∀ V, (Instr.sliceAt 9 (.string y) (some (.int .i64 12)) (some (.int .i64 (m : Int))) none).run Tryd.prog V = .ok (.string (y.extract 12 m)) V := slice_mid y 12 m (by omega) (by omega)
  have hs3 := slice_to a b.size (by omega)
  have hs4 := slice_to b b.size (by omega)
  have hw : IntKind.i64.wrap (12 + (b.size : Int)) = (m : Int) := by rw [IntWalk.i64_in _ (by omega)]; omega
  have q0 : (b.size : Int) ≤ 4096 := by omega
  have q1 : ¬ x.size < m := by omega
  have q2 : ¬ y.size < m := by omega
  have q3 : (b.size : Int) < (a.size : Int) := by omega
  obtain ⟨R, hR⟩ : ∃ R, R = xorT (a.extract 0 b.size) (b.extract 0 b.size) := ⟨_, rfl⟩
  have X1 : Hid ((x.extract 12 m).size ≤ 100000 ∧ R = xorT (x.extract 12 m) (y.extract 12 m)) := Lib.hid ⟨by rw [ext_size _ _ _ (by omega)]; omega, by rw [hR, TS]⟩
  have X2 : Hid ((a.extract 0 b.size).size ≤ 100000 ∧ R = xorT (a.extract 0 b.size) (b.extract 0 b.size)) := Lib.hid ⟨by rw [ext_size _ _ _ (by omega)]; omega, hR⟩
  generalize x.extract 12 m = x' at *
  generalize y.extract 12 m = y' at *
  generalize a.extract 0 b.size = a' at *
  generalize b.extract 0 b.size = b' at *
  clear hT h1 h2 hn hc TS z1 z2 hx hy hm hR l1 l2
  go_enter Tryd.func6, Tryd.ntmps6
  go_wp2_with fail
  refine (long_no key nonce a H1.out w).mono ?_; rintro e w1 ⟨rfl, rfl⟩
  go_wp2_with fail
  refine (long_no key nonce b H2.out w).mono ?_; rintro e w1 ⟨rfl, rfl⟩
  go_wp2_with fail
  refine S1.out.mono ?_; rintro e w1 ⟨rfl, b1⟩
  have B1 := Lib.hid b1
  clear b1
  go_wp2_with fail
  refine (S2.out w1 (HT.out.below B1.out)).mono ?_; rintro e w2 ⟨rfl, b2⟩
  have B2 := Lib.hid (below_step B1.out b2)
  clear b2 S1 S2 B1
  go_wp2_with fail
  have B3 := tw_keep B2 (drew_below w2)
  clear B2
  go_region_held3 (fun W => Hid (Below w.heap.size w W)) (first | assumption | with_reducible exact tw_keep ‹_› ‹_›) (first
    | (go_at_call 13; with_reducible refine (tw_xor X1).mono ?_; rintro e w3 ⟨rfl, hb3⟩)
    | (go_at_call 13; with_reducible refine (tw_xor X2).mono ?_; rintro e w3 ⟨rfl, hb3⟩)
    | (go_at_call 8; with_reducible refine (tw_alive HT ‹_›).mono ?_; rintro e w3 ⟨rfl, hb3⟩))
  go_wp2_with fail
  go_ret
  have hS : Hid (Below w.heap.size w w3) := ‹_›
  exact ⟨rfl, hS.out⟩
set_option maxHeartbeats 2000000 in
set_option maxRecDepth 100000 in
theorem twice_a (key nonce a b : ByteArray) (w : World) (hT : Tab w) (h1 : ¬ Large key nonce a) (h2 : ¬ Large key nonce b) (hn : nonce.size = 12) (hc : ¬ b.size < a.size) :
    Calls Tryd.prog 6 #[.string key, .string nonce, .string a, .string b] w fun e w' => e = .returned (.bool true) ∧ Below w.heap.size w w' := by
  have HT := Lib.hid hT
  have l1 := not_large h1
  have l2 := not_large h2
  have H1 := Lib.hid l1
  have H2 := Lib.hid l2
  have TS := twice_same key nonce a b a.size hn (by omega) (by omega)
  have z1 : (bytesOf (sealedL (nums key) (nums nonce) (nums a))).size = a.size + 44 := by rw [bytesOf_size, sealedL_length, nums_length, nums_length, hn]; omega
  have z2 : (bytesOf (sealedL (nums key) (nums nonce) (nums b))).size = b.size + 44 := by rw [bytesOf_size, sealedL_length, nums_length, nums_length, hn]; omega
  obtain ⟨x, hx⟩ : ∃ x, x = bytesOf (sealedL (nums key) (nums nonce) (nums a)) := ⟨_, rfl⟩
  obtain ⟨y, hy⟩ : ∃ y, y = bytesOf (sealedL (nums key) (nums nonce) (nums b)) := ⟨_, rfl⟩
  have S1 := Lib.hid (seal_is key nonce a x (by omega) hn (by omega) hx w hT)
  have S2 := Lib.hid (fun V hV => seal_is key nonce b y (by omega) hn (by omega) hy V hV)
  rw [← hx] at TS z1
  rw [← hy] at TS z2
  obtain ⟨m, hm⟩ : ∃ m, m = 12 + a.size := ⟨_, rfl⟩
  rw [← hm] at TS
  have hs1 : ∀ V, (Instr.sliceAt 9 (.string x) (some (.int .i64 12)) (some (.int .i64 (m : Int))) none).run Tryd.prog V = .ok (.string (x.extract 12 m)) V := slice_mid x 12 m (by omega) (by omega)
  have hs2 : ∀ V, (Instr.sliceAt 9 (.string y) (some (.int .i64 12)) (some (.int .i64 (m : Int))) none).run Tryd.prog V = .ok (.string (y.extract 12 m)) V := slice_mid y 12 m (by omega) (by omega)
  have hs3 := slice_to a a.size (by omega)
  have hs4 := slice_to b a.size (by omega)
  have hw : IntKind.i64.wrap (12 + (a.size : Int)) = (m : Int) := by rw [IntWalk.i64_in _ (by omega)]; omega
  have q0 : (a.size : Int) ≤ 4096 := by omega
  have q1 : ¬ x.size < m := by omega
  have q2 : ¬ y.size < m := by omega
  have q3 : ¬ (b.size : Int) < (a.size : Int) := by omega
  obtain ⟨R, hR⟩ : ∃ R, R = xorT (a.extract 0 a.size) (b.extract 0 a.size) := ⟨_, rfl⟩
  have X1 : Hid ((x.extract 12 m).size ≤ 100000 ∧ R = xorT (x.extract 12 m) (y.extract 12 m)) := Lib.hid ⟨by rw [ext_size _ _ _ (by omega)]; omega, by rw [hR, TS]⟩
  have X2 : Hid ((a.extract 0 a.size).size ≤ 100000 ∧ R = xorT (a.extract 0 a.size) (b.extract 0 a.size)) := Lib.hid ⟨by rw [ext_size _ _ _ (by omega)]; omega, hR⟩
  generalize x.extract 12 m = x' at *
  generalize y.extract 12 m = y' at *
  generalize a.extract 0 a.size = a' at *
  generalize b.extract 0 a.size = b' at *
  clear hT h1 h2 hn hc TS z1 z2 hx hy hm hR l1 l2
  go_enter Tryd.func6, Tryd.ntmps6
  go_wp2_with fail
  refine (long_no key nonce a H1.out w).mono ?_; rintro e w1 ⟨rfl, rfl⟩
  go_wp2_with fail
  refine (long_no key nonce b H2.out w).mono ?_; rintro e w1 ⟨rfl, rfl⟩
  go_wp2_with fail
  refine S1.out.mono ?_; rintro e w1 ⟨rfl, b1⟩
  have B1 := Lib.hid b1
  clear b1
  go_wp2_with fail
  refine (S2.out w1 (HT.out.below B1.out)).mono ?_; rintro e w2 ⟨rfl, b2⟩
  have B2 := Lib.hid (below_step B1.out b2)
  clear b2 S1 S2 B1
  go_wp2_with fail
  have B3 := tw_keep B2 (drew_below w2)
  clear B2
  go_region_held3 (fun W => Hid (Below w.heap.size w W)) (first | assumption | with_reducible exact tw_keep ‹_› ‹_›) (first
    | (go_at_call 13; with_reducible refine (tw_xor X1).mono ?_; rintro e w3 ⟨rfl, hb3⟩)
    | (go_at_call 13; with_reducible refine (tw_xor X2).mono ?_; rintro e w3 ⟨rfl, hb3⟩)
    | (go_at_call 8; with_reducible refine (tw_alive HT ‹_›).mono ?_; rintro e w3 ⟨rfl, hb3⟩))
  go_wp2_with fail
  go_ret
  have hS : Hid (Below w.heap.size w w3) := ‹_›
  exact ⟨rfl, hS.out⟩
theorem twice_all (key nonce a b : ByteArray) (w : World) (hT : Tab w) :
    Calls Tryd.prog 6 #[.string key, .string nonce, .string a, .string b] w fun e w' => e = .returned (.bool true) ∧ Below w.heap.size w w' := by
  by_cases h1 : Large key nonce a
  · exact twice_large key nonce a b w hT (.inl h1)
  · by_cases h2 : Large key nonce b
    · exact twice_large key nonce a b w hT (.inr ⟨h1, h2⟩)
    · by_cases hn : nonce.size = 12
      · by_cases hc : b.size < a.size
        · exact twice_b key nonce a b w hT h1 h2 hn hc
        · exact twice_a key nonce a b w hT h1 h2 hn hc
      · exact twice_arg key nonce a b w hT h1 h2 hn
end Go.Proofs.YtogadffbnoinmaaDoor.Pl
