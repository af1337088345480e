/- KeysTerms answers true, whatever it is given. Leans on the program's own contracts: kterms_any and alive's. -/
import Derived.Test.YtbhcjdpachboaaaDoorKeysNamesLaw
import Derived.Test.YtbhcjdpachboaaaDoorKeysRefF
import Derived.Test.YtbhcjdpachboaaaDoorKeysTermsOwn
import Derived.Test.YtbhcjdpachboaaaDoorKeysBase6
import Derived.Test.YtbhcjdpachboaaaDoorKeysBase2
namespace Go.Proofs.YtbhcjdpachboaaaDoor.Pl
open Go.RowKit

theorem termsK_len (f : List UInt8 → List UInt8 × Nat) : ∀ l : List (List UInt8), (termsK f l).1.length ≤ l.length
  | [] => Nat.le_refl _
  | x :: l => by
    have := termsK_len f l
    rw [termsK]
    split
    · exact Nat.zero_le _
    · split
      · exact Nat.zero_le _
      · simp only [List.length_cons]; omega

set_option maxRecDepth 100000 in
theorem terms_long (c : Nat) (m : ByteArray) (n : Nat) (ao : Option Addr) (cap : Nat) (h : 80 < n ∨ (¬ 80 < n ∧ 1000 < m.size)) (w : World) (hT : KeyTab w) :
    Calls Tryd.prog 5 #[.int .u8 (c : Int), .string m, .slice ao n cap] w fun e w' => e = .returned (.bool true) ∧ Below w.heap.size w w' := by
  have T0 := Lib.hid hT
  have HA := Lib.hid (fun V h => alive9_any V h)
  clear hT
  rcases h with h | ⟨h, h2⟩
  · have q : (80 : Int) < (n : Int) := by omega
    clear h
    go_enter Tryd.func5, Tryd.ntmps5
    go_wp2_with fail
    refine (HA.out _ T0.out).mono ?_; rintro e w1 ⟨rfl, b1⟩
    have B1 := Lib.hid b1
    clear b1
    go_wp2_with fail
    go_ret
    exact ⟨rfl, B1.out⟩
  · have q : ¬ (80 : Int) < (n : Int) := by omega
    have q2 : (1000 : Int) < (m.size : Int) := by omega
    clear h h2
    go_enter Tryd.func5, Tryd.ntmps5
    go_wp2_with fail
    refine (HA.out _ T0.out).mono ?_; rintro e w1 ⟨rfl, b1⟩
    have B1 := Lib.hid b1
    clear b1
    go_wp2_with fail
    go_ret
    exact ⟨rfl, B1.out⟩
set_option maxHeartbeats 4000000 in
set_option maxRecDepth 100000 in
theorem terms_none (m : ByteArray) (l : List ByteArray) (ao : Option Addr) (cap : Nat) {c : Nat} (h1 : c ≠ 1) (h2 : ¬ (c = 2 ∧ 1 ≤ m.size ∧ m.size ≤ 64)) (hl : l.length ≤ 80) (hm : m.size ≤ 1000) (w : World) (hT : KeyTab w) (hT2 : Tab w) (hrow : TxtRow w ao l) :
    Calls Tryd.prog 5 #[.int .u8 c, .string m, .slice ao l.length cap] w fun e w' => e = .returned (.bool true) ∧ Below w.heap.size w w' := by
  have T0 := Lib.hid hT
  have R0 := Lib.hid hrow
  have HT2 := Lib.hid hT2
  have HA := Lib.hid (fun V h => alive9_any V h)
  have HG := Lib.hid (new_none c m h1 h2)
  clear h1 h2
  obtain ⟨n, hn⟩ : ∃ n, n = l.length := ⟨_, rfl⟩
  have HN := Lib.hid hn
  rw [← hn] at hl ⊢
  have q : ¬ (80 : Int) < (n : Int) := by omega
  have q2 : ¬ (1000 : Int) < (m.size : Int) := by omega
  clear hT hT2 hrow hn
  go_enter Tryd.func5, Tryd.ntmps5
  go_wp2_with fail
  go_loopw [7] (fun iv wr => ∃ k : Nat, iv = .int .i64 k ∧ k ≤ n ∧ Hid (∀ j, j < k → (l.getD j ByteArray.empty).size ≤ 1000) ∧ Hid (Below w.heap.size w wr)) (fun iv _ => n - (intOf iv).toNat)
  case atStart => exact ⟨0, rfl, Nat.zero_le _, Lib.hid (fun j hj => absurd hj (Nat.not_lt_zero j)), Lib.hid (Below.refl _ _)⟩
  case round =>
    obtain ⟨k, rfl, hkn, hs, hb⟩ := hrel
    have TB := Lib.hid (T0.out.below hb.out)
    by_cases hk : k < n
    · have hk' : (k : Int) < (n : Int) := by omega
      rcases R0.out.below hb.out with e | ⟨g, off, rfl, hlt, hc⟩
      · exfalso
        have := HN.out
        rw [e] at this
        simp at this
        omega
      have ck := hc k (by rw [← HN.out]; exact hk)
      have HX : Hid ((l.getD k ByteArray.empty).size ≤ 1000 → ∀ j, j < k + 1 → (l.getD j ByteArray.empty).size ≤ 1000) := Lib.hid (fun h j hj => by
        by_cases e : j = k
        · rw [e]; exact h
        · exact hs.out j (by omega))
      generalize l.getD k ByteArray.empty = x at *
      clear hc hlt
      by_cases hx : 1000 < x.size
      · have q3 : (1000 : Int) < (x.size : Int) := by omega
        clear hx
        go_wp2_with fail
        refine (HA.out _ TB.out).mono ?_; rintro e w1 ⟨rfl, b1⟩
        have B1 := Lib.hid (step9 hb.out b1)
        clear b1
        go_wp2_with fail
        go_ret
        exact ⟨rfl, B1.out⟩
      · have q3 : ¬ (1000 : Int) < (x.size : Int) := by omega
        have HQ := Lib.hid (HX.out (by omega))
        clear hx
        go_wp2_with fail
        go_roundw
        case rel => exact ⟨k + 1, by go_num, by omega, HQ, hb⟩
        case measure => simp [intOf]; omega
    · obtain rfl : k = n := by omega
      clear hk hkn
      go_wp2_with fail
      refine (HG.out _).mono ?_; rintro e w1 ⟨rfl, rfl⟩
      go_wp2_with fail
      refine (HA.out _ TB.out).mono ?_; rintro e w2 ⟨rfl, b2⟩
      have B2 := Lib.hid (step9 hb.out b2)
      clear b2
      go_wp2_with fail
      go_ret
      exact ⟨rfl, B2.out⟩
set_option maxHeartbeats 4000000 in
set_option maxRecDepth 100000 in
theorem terms_true (m : ByteArray) (l : List ByteArray) (ao : Option Addr) (cap : Nat)  (hl : l.length ≤ 80) (hm : m.size ≤ 1000) (w : World) (hT : KeyTab w) (hT2 : Tab w) (hrow : TxtRow w ao l) :
    Calls Tryd.prog 5 #[.int .u8 1, .string m, .slice ao l.length cap] w fun e w' => e = .returned (.bool true) ∧ Below w.heap.size w w' := by
  have T0 := Lib.hid hT
  have R0 := Lib.hid hrow
  have HT2 := Lib.hid hT2
  have HA := Lib.hid (fun V h => alive9_any V h)
  have HG := Lib.hid (fun V h => new_terms m V h)
  obtain ⟨n, hn⟩ : ∃ n, n = l.length := ⟨_, rfl⟩
  have HN := Lib.hid hn
  rw [← hn] at hl ⊢
  have q : ¬ (80 : Int) < (n : Int) := by omega
  have q2 : ¬ (1000 : Int) < (m.size : Int) := by omega
  clear hT hT2 hrow hn
  go_enter Tryd.func5, Tryd.ntmps5
  go_wp2_with fail
  go_loopw [7] (fun iv wr => ∃ k : Nat, iv = .int .i64 k ∧ k ≤ n ∧ Hid (∀ j, j < k → (l.getD j ByteArray.empty).size ≤ 1000) ∧ Hid (Below w.heap.size w wr)) (fun iv _ => n - (intOf iv).toNat)
  case atStart => exact ⟨0, rfl, Nat.zero_le _, Lib.hid (fun j hj => absurd hj (Nat.not_lt_zero j)), Lib.hid (Below.refl _ _)⟩
  case round =>
    obtain ⟨k, rfl, hkn, hs, hb⟩ := hrel
    have TB := Lib.hid (T0.out.below hb.out)
    by_cases hk : k < n
    · have hk' : (k : Int) < (n : Int) := by omega
      rcases R0.out.below hb.out with e | ⟨g, off, rfl, hlt, hc⟩
      · exfalso
        have := HN.out
        rw [e] at this
        simp at this
        omega
      have ck := hc k (by rw [← HN.out]; exact hk)
      have HX : Hid ((l.getD k ByteArray.empty).size ≤ 1000 → ∀ j, j < k + 1 → (l.getD j ByteArray.empty).size ≤ 1000) := Lib.hid (fun h j hj => by
        by_cases e : j = k
        · rw [e]; exact h
        · exact hs.out j (by omega))
      generalize l.getD k ByteArray.empty = x at *
      clear hc hlt
      by_cases hx : 1000 < x.size
      · have q3 : (1000 : Int) < (x.size : Int) := by omega
        clear hx
        go_wp2_with fail
        refine (HA.out _ TB.out).mono ?_; rintro e w1 ⟨rfl, b1⟩
        have B1 := Lib.hid (step9 hb.out b1)
        clear b1
        go_wp2_with fail
        go_ret
        exact ⟨rfl, B1.out⟩
      · have q3 : ¬ (1000 : Int) < (x.size : Int) := by omega
        have HQ := Lib.hid (HX.out (by omega))
        clear hx
        go_wp2_with fail
        go_roundw
        case rel => exact ⟨k + 1, by go_num, by omega, HQ, hb⟩
        case measure => simp [intOf]; omega
    · obtain rfl : k = n := by omega
      clear hk hkn
      go_wp2_with fail
      refine (HG.out _ (HT2.out.below hb.out)).mono ?_; rintro e w1 ⟨⟨p, rfl, hS⟩, b1⟩
      have B1 := Lib.hid (step9 hb.out b1)
      have T1 := Lib.hid (TB.out.below b1)
      have R1 := Lib.hid ((R0.out.below hb.out).below b1)
      have HSZ : Hid (∀ x ∈ l, x.size ≤ 1000) := Lib.hid (fun x hx => by
        obtain ⟨j, hj, e⟩ := List.mem_iff_getElem.1 hx
        have h := hs.out j (by rw [HN.out]; exact hj)
        rwa [List.getD_eq_getElem?_getD, List.getElem?_eq_getElem hj, Option.getD_some, e] at h)
      have HK := Lib.hid (kterms_any true m l ao cap (by rw [← HN.out]; exact hl) HSZ.out p w1 hS T1.out R1.out)
      have HR := Lib.hid (fun V h => rterms9_by (keyP cryP true (bl m)) 1 m l ao cap (by rw [← HN.out]; omega) (fun x hx V => by have H := rkey8_any 1 m x hm (by have := HSZ.out x hx; omega) V; rw [show ((1 : Nat) == 1) = true from rfl] at H; exact H) V h)
      rw [← HN.out] at HK HR
      clear b1 hS
      go_wp2_with fail
      refine HK.out.mono ?_; rintro e w2 ⟨⟨v1, rfl, y1, n1⟩, b2⟩
      have B2 := Lib.hid (step9 B1.out b2)
      have T2 := Lib.hid (T1.out.below b2)
      have R2 := Lib.hid (R1.out.below b2)
      have Y1 := Lib.hid y1
      have N1 := Lib.hid n1
      clear b2 y1 n1
      go_wp2_with fail
      refine (HR.out _ R2.out).mono ?_; rintro e w3 ⟨⟨v2, rfl, y2, n2⟩, b3⟩
      have B3 := Lib.hid (step9 B2.out b3)
      have T3 := Lib.hid (T2.out.below b3)
      have B23 := Lib.hid b3
      have Y2 := Lib.hid y2
      have N2 := Lib.hid n2
      clear b3 y2 n2
      have HPL : Hid ((termsK (keyP cryP true (bl m)) (l.map bl)).1.length ≤ 80) := Lib.hid (by have h := termsK_len (keyP cryP true (bl m)) (l.map bl); rw [List.length_map, ← HN.out] at h; omega)
      generalize termsK (keyP cryP true (bl m)) (l.map bl) = P at *
      obtain ⟨P1, P2⟩ := P
      dsimp only at Y1 Y2 N1 N2 HPL
      by_cases hP : P2 = 0
      · obtain ⟨L1, own1, e1⟩ := Y1.out hP
        obtain ⟨L2, own2, e2⟩ := Y2.out hP
        obtain ⟨ao1, cap1, rfl, row1⟩ := ownT_row own1
        obtain ⟨ao2, cap2, rfl, row2⟩ := ownT_row own2
        obtain rfl : L2 = L1 := bl_inj9 (by rw [e1, e2])
        have W1 := Lib.hid (row1.below B23.out)
        have W2 := Lib.hid row2
        have HLN : Hid (L2.length ≤ 281474976710656) := Lib.hid (by have h := HPL.out; rw [← e2, List.length_map] at h; omega)
        clear own1 own2 e1 e2 row1 row2 N1 N2 Y1 Y2 hP
        go_wp2_with fail
        refine (rsame_any L2 L2 ao1 ao2 cap1 cap2 HLN.out HLN.out _ W1.out W2.out true (by simp)).mono ?_; rintro e w4 ⟨rfl, b4⟩
        have B4 := Lib.hid (step9 B3.out b4)
        have T4 := Lib.hid (T3.out.below b4)
        clear b4
        go_wp2_with fail
        refine (HA.out _ T4.out).mono ?_; rintro e w5 ⟨rfl, b5⟩
        have B5 := Lib.hid (step9 B4.out b5)
        clear b5
        go_wp2_with fail
        go_ret
        exact ⟨rfl, B5.out⟩
      · have e1 := N1.out hP
        have e2 := N2.out hP
        subst e1
        subst e2
        clear N1 N2 Y1 Y2
        go_wp2_with fail
        refine (rsame_any [] [] none none 0 0 (by decide) (by decide) _ (.inl rfl) (.inl rfl) true (by simp)).mono ?_; rintro e w4 ⟨rfl, b4⟩
        have B4 := Lib.hid (step9 B3.out b4)
        have T4 := Lib.hid (T3.out.below b4)
        clear b4
        go_wp2_with fail
        refine (HA.out _ T4.out).mono ?_; rintro e w5 ⟨rfl, b5⟩
        have B5 := Lib.hid (step9 B4.out b5)
        clear b5
        go_wp2_with fail
        go_ret
        exact ⟨rfl, B5.out⟩
set_option maxHeartbeats 4000000 in
set_option maxRecDepth 100000 in
theorem terms_false (m : ByteArray) (l : List ByteArray) (ao : Option Addr) (cap : Nat) (h1 : 1 ≤ m.size) (h2 : m.size ≤ 64) (hl : l.length ≤ 80) (hm : m.size ≤ 1000) (w : World) (hT : KeyTab w) (hT2 : Tab w) (hrow : TxtRow w ao l) :
    Calls Tryd.prog 5 #[.int .u8 2, .string m, .slice ao l.length cap] w fun e w' => e = .returned (.bool true) ∧ Below w.heap.size w w' := by
  have T0 := Lib.hid hT
  have R0 := Lib.hid hrow
  have HT2 := Lib.hid hT2
  have HA := Lib.hid (fun V h => alive9_any V h)
  have HG := Lib.hid (fun V h => new_bytes m h1 h2 V h)
  clear h1 h2
  obtain ⟨n, hn⟩ : ∃ n, n = l.length := ⟨_, rfl⟩
  have HN := Lib.hid hn
  rw [← hn] at hl ⊢
  have q : ¬ (80 : Int) < (n : Int) := by omega
  have q2 : ¬ (1000 : Int) < (m.size : Int) := by omega
  clear hT hT2 hrow hn
  go_enter Tryd.func5, Tryd.ntmps5
  go_wp2_with fail
  go_loopw [7] (fun iv wr => ∃ k : Nat, iv = .int .i64 k ∧ k ≤ n ∧ Hid (∀ j, j < k → (l.getD j ByteArray.empty).size ≤ 1000) ∧ Hid (Below w.heap.size w wr)) (fun iv _ => n - (intOf iv).toNat)
  case atStart => exact ⟨0, rfl, Nat.zero_le _, Lib.hid (fun j hj => absurd hj (Nat.not_lt_zero j)), Lib.hid (Below.refl _ _)⟩
  case round =>
    obtain ⟨k, rfl, hkn, hs, hb⟩ := hrel
    have TB := Lib.hid (T0.out.below hb.out)
    by_cases hk : k < n
    · have hk' : (k : Int) < (n : Int) := by omega
      rcases R0.out.below hb.out with e | ⟨g, off, rfl, hlt, hc⟩
      · exfalso
        have := HN.out
        rw [e] at this
        simp at this
        omega
      have ck := hc k (by rw [← HN.out]; exact hk)
      have HX : Hid ((l.getD k ByteArray.empty).size ≤ 1000 → ∀ j, j < k + 1 → (l.getD j ByteArray.empty).size ≤ 1000) := Lib.hid (fun h j hj => by
        by_cases e : j = k
        · rw [e]; exact h
        · exact hs.out j (by omega))
      generalize l.getD k ByteArray.empty = x at *
      clear hc hlt
      by_cases hx : 1000 < x.size
      · have q3 : (1000 : Int) < (x.size : Int) := by omega
        clear hx
        go_wp2_with fail
        refine (HA.out _ TB.out).mono ?_; rintro e w1 ⟨rfl, b1⟩
        have B1 := Lib.hid (step9 hb.out b1)
        clear b1
        go_wp2_with fail
        go_ret
        exact ⟨rfl, B1.out⟩
      · have q3 : ¬ (1000 : Int) < (x.size : Int) := by omega
        have HQ := Lib.hid (HX.out (by omega))
        clear hx
        go_wp2_with fail
        go_roundw
        case rel => exact ⟨k + 1, by go_num, by omega, HQ, hb⟩
        case measure => simp [intOf]; omega
    · obtain rfl : k = n := by omega
      clear hk hkn
      go_wp2_with fail
      refine (HG.out _ (HT2.out.below hb.out)).mono ?_; rintro e w1 ⟨⟨p, rfl, hS⟩, b1⟩
      have B1 := Lib.hid (step9 hb.out b1)
      have T1 := Lib.hid (TB.out.below b1)
      have R1 := Lib.hid ((R0.out.below hb.out).below b1)
      have HSZ : Hid (∀ x ∈ l, x.size ≤ 1000) := Lib.hid (fun x hx => by
        obtain ⟨j, hj, e⟩ := List.mem_iff_getElem.1 hx
        have h := hs.out j (by rw [HN.out]; exact hj)
        rwa [List.getD_eq_getElem?_getD, List.getElem?_eq_getElem hj, Option.getD_some, e] at h)
      have HK := Lib.hid (kterms_any false m l ao cap (by rw [← HN.out]; exact hl) HSZ.out p w1 hS T1.out R1.out)
      have HR := Lib.hid (fun V h => rterms9_by (keyP cryP false (bl m)) 2 m l ao cap (by rw [← HN.out]; omega) (fun x hx V => by have H := rkey8_any 2 m x hm (by have := HSZ.out x hx; omega) V; rw [show ((2 : Nat) == 1) = false from rfl] at H; exact H) V h)
      rw [← HN.out] at HK HR
      clear b1 hS
      go_wp2_with fail
      refine HK.out.mono ?_; rintro e w2 ⟨⟨v1, rfl, y1, n1⟩, b2⟩
      have B2 := Lib.hid (step9 B1.out b2)
      have T2 := Lib.hid (T1.out.below b2)
      have R2 := Lib.hid (R1.out.below b2)
      have Y1 := Lib.hid y1
      have N1 := Lib.hid n1
      clear b2 y1 n1
      go_wp2_with fail
      refine (HR.out _ R2.out).mono ?_; rintro e w3 ⟨⟨v2, rfl, y2, n2⟩, b3⟩
      have B3 := Lib.hid (step9 B2.out b3)
      have T3 := Lib.hid (T2.out.below b3)
      have B23 := Lib.hid b3
      have Y2 := Lib.hid y2
      have N2 := Lib.hid n2
      clear b3 y2 n2
      have HPL : Hid ((termsK (keyP cryP false (bl m)) (l.map bl)).1.length ≤ 80) := Lib.hid (by have h := termsK_len (keyP cryP false (bl m)) (l.map bl); rw [List.length_map, ← HN.out] at h; omega)
      generalize termsK (keyP cryP false (bl m)) (l.map bl) = P at *
      obtain ⟨P1, P2⟩ := P
      dsimp only at Y1 Y2 N1 N2 HPL
      by_cases hP : P2 = 0
      · obtain ⟨L1, own1, e1⟩ := Y1.out hP
        obtain ⟨L2, own2, e2⟩ := Y2.out hP
        obtain ⟨ao1, cap1, rfl, row1⟩ := ownT_row own1
        obtain ⟨ao2, cap2, rfl, row2⟩ := ownT_row own2
        obtain rfl : L2 = L1 := bl_inj9 (by rw [e1, e2])
        have W1 := Lib.hid (row1.below B23.out)
        have W2 := Lib.hid row2
        have HLN : Hid (L2.length ≤ 281474976710656) := Lib.hid (by have h := HPL.out; rw [← e2, List.length_map] at h; omega)
        clear own1 own2 e1 e2 row1 row2 N1 N2 Y1 Y2 hP
        go_wp2_with fail
        refine (rsame_any L2 L2 ao1 ao2 cap1 cap2 HLN.out HLN.out _ W1.out W2.out true (by simp)).mono ?_; rintro e w4 ⟨rfl, b4⟩
        have B4 := Lib.hid (step9 B3.out b4)
        have T4 := Lib.hid (T3.out.below b4)
        clear b4
        go_wp2_with fail
        refine (HA.out _ T4.out).mono ?_; rintro e w5 ⟨rfl, b5⟩
        have B5 := Lib.hid (step9 B4.out b5)
        clear b5
        go_wp2_with fail
        go_ret
        exact ⟨rfl, B5.out⟩
      · have e1 := N1.out hP
        have e2 := N2.out hP
        subst e1
        subst e2
        clear N1 N2 Y1 Y2
        go_wp2_with fail
        refine (rsame_any [] [] none none 0 0 (by decide) (by decide) _ (.inl rfl) (.inl rfl) true (by simp)).mono ?_; rintro e w4 ⟨rfl, b4⟩
        have B4 := Lib.hid (step9 B3.out b4)
        have T4 := Lib.hid (T3.out.below b4)
        clear b4
        go_wp2_with fail
        refine (HA.out _ T4.out).mono ?_; rintro e w5 ⟨rfl, b5⟩
        have B5 := Lib.hid (step9 B4.out b5)
        clear b5
        go_wp2_with fail
        go_ret
        exact ⟨rfl, B5.out⟩
theorem keysterms_any (c : Nat) (m : ByteArray) (l : List ByteArray) (ao : Option Addr) (cap : Nat) (w : World) (hT : KeyTab w) (hT2 : Tab w) (hrow : TxtRow w ao l) :
    Calls Tryd.prog 5 #[.int .u8 (c : Int), .string m, .slice ao l.length cap] w fun e w' => e = .returned (.bool true) ∧ Below w.heap.size w w' := by
  by_cases h80 : 80 < l.length
  · exact terms_long c m l.length ao cap (.inl h80) w hT
  · by_cases hm : 1000 < m.size
    · exact terms_long c m l.length ao cap (.inr ⟨h80, hm⟩) w hT
    · by_cases h1 : c = 1
      · subst h1
        exact terms_true m l ao cap (by omega) (by omega) w hT hT2 hrow
      · by_cases h2 : c = 2 ∧ 1 ≤ m.size ∧ m.size ≤ 64
        · obtain ⟨rfl, h3, h4⟩ := h2
          exact terms_false m l ao cap h3 h4 (by omega) (by omega) w hT hT2 hrow
        · exact terms_none m l ao cap h1 h2 (by omega) (by omega) w hT hT2 hrow
end Go.Proofs.YtbhcjdpachboaaaDoor.Pl
