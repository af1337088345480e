/- What the reader's bytes reads. -/
import Derived.Test.YtiehhlolhhjgpaaGreatDoorShowPlainM
import Derived.Test.YtiehhlolhhjgpaaGreatDoorShowZ4
namespace Go.Proofs.YtiehhlolhhjgpaaGreatDoor.Pl
open Go.RowKit

set_option maxHeartbeats 1000000 in
set_option maxRecDepth 100000 in
theorem bytesm_any (B : Nat) (s : List UInt8) (hs : s.length ≤ 1000000000) (w : World) (h : At7 B s w) :
    Calls Tryz.prog 66 #[rdV B] w (RdPost B w (nBytes s)) := by
  obtain ⟨hk, h0, hk0, m0⟩ := boxed7 B s w h
  have UP := up_of B s [44, 93, 41] goB goB_ends (by decide) (by omega)
  obtain ⟨z, hz⟩ : ∃ z, z = nBytes s := ⟨_, rfl⟩
  rw [← hz]
  unfold nBytes at hz
  have hlen : (s.take (runL goB s)).length ≤ 1000000000 := by rw [List.length_take]; omega
  generalize s.drop (runL goB s) = r1 at *
  generalize s.take (runL goB s) = y at *
  have HX : Hid (∀ V, Calls Tryz.prog 93 #[.string ⟨y.toArray⟩] V (fun e w' => (if y.length % 2 = 0 ∧ y.all hexB = true then e = .returned (.string ⟨(unhex y).toArray⟩) else e = boom7) ∧ Below V.heap.size V w')) := Lib.hid (fun V => bytesof7_any y hlen V)
  have H0 := Lib.hid h0
  have HK0 := Lib.hid hk0
  have M0 := Lib.hid m0
  have HKB := Lib.hid hk
  by_cases hc : y.length % 2 = 0 ∧ y.all hexB = true
  · have HC := Lib.hid hc
    have hux := unhex_len y hc.1
    have hul : (unhex y).length ≤ 1000000000 := by omega
    have HXL := Lib.hid hul
    generalize unhex y = x at *
    have PL := Lib.hid (fun V => plain7_any ⟨x.toArray⟩ V)
    have DA := Lib.hid (fun V => data6_any ⟨x.toArray⟩ (by rw [size_lit]; have := HXL.out; omega) V)
    rw [bl_mk] at PL DA
    rw [st2_eq] at DA
    by_cases hp : plainB x = false
    · rw [hp] at PL
      generalize dataP x = dx at *
      obtain ⟨t, e⟩ := dx
      simp only at hz DA
      by_cases he : e = 0
      · subst he
        have HZ : Hid (z = some (t, r1)) := Lib.hid (hz.trans (if_pos ⟨hc.1, hc.2, hp, rfl⟩))
        clear hz hlen hc hp h0 hk0 m0 h hs hk hux hul
        go_enter Tryz.func66, Tryz.ntmps66
        go_wp2_with (first
          | (go_at_call 63; refine (UP.out _ H0.out).mono ?_; rintro e w1 ⟨rfl, a1, m1⟩; have A1 := Lib.hid a1; have M1 := Lib.hid (M0.out.trans m1); clear a1 m1)
          | (go_at_call 93; refine (HX.out _).mono ?_; rintro e w2 ⟨h2, b2⟩; rw [if_pos HC.out] at h2; subst h2; have A2 := Lib.hid (A1.out.below b2); have M2 := Lib.hid (M1.out.trans (Moved.of_below b2)); clear b2)
          | (go_at_call 14; refine (PL.out _).mono ?_; rintro e w3 ⟨rfl, b3⟩; have A3 := Lib.hid (A2.out.below b3); have M3 := Lib.hid (M2.out.trans (Moved.of_below b3)); clear b3)
          | (go_at_call 39; refine (need7_ok _).mono ?_; rintro e w4 ⟨rfl, rfl⟩)
          | (go_at_call 21; refine (DA.out _).mono ?_; rintro e w5 ⟨rfl, b5⟩; have A5 := Lib.hid (A3.out.below b5); have M5 := Lib.hid (M3.out.trans (Moved.of_below b5)); clear b5)
          | (go_at_call 67; refine (made7_ok _ _).mono ?_; rintro e w6 ⟨rfl, rfl⟩))
        go_ret
        rw [HZ.out]
        exact RdPost.yes M5.out A5.out
      · have HZ : Hid (z = none) := Lib.hid (hz.trans (if_neg (fun h => he h.2.2.2)))
        have HE := Lib.hid he
        clear hz hlen hc hp h0 hk0 m0 h hs hk he hux hul
        go_enter Tryz.func66, Tryz.ntmps66
        go_wp2_with (first
          | (go_at_call 63; refine (UP.out _ H0.out).mono ?_; rintro e w1 ⟨rfl, a1, m1⟩; have A1 := Lib.hid a1; have M1 := Lib.hid (M0.out.trans m1); clear a1 m1)
          | (go_at_call 93; refine (HX.out _).mono ?_; rintro e w2 ⟨h2, b2⟩; rw [if_pos HC.out] at h2; subst h2; have A2 := Lib.hid (A1.out.below b2); have M2 := Lib.hid (M1.out.trans (Moved.of_below b2)); clear b2)
          | (go_at_call 14; refine (PL.out _).mono ?_; rintro e w3 ⟨rfl, b3⟩; have A3 := Lib.hid (A2.out.below b3); have M3 := Lib.hid (M2.out.trans (Moved.of_below b3)); clear b3)
          | (go_at_call 39; refine (need7_ok _).mono ?_; rintro e w4 ⟨rfl, rfl⟩)
          | (go_at_call 21; refine (DA.out _).mono ?_; rintro e w5 ⟨rfl, b5⟩; have A5 := Lib.hid (A3.out.below b5); have M5 := Lib.hid (M3.out.trans (Moved.of_below b5)); clear b5)
          | (go_at_call 67; refine (made7_bad _ _ HE.out _).mono ?_; rintro e w6 ⟨rfl, rfl⟩))
        exact ⟨rfl, by rw [HZ.out]; exact RdPost.no M5.out⟩
    · have hpt : plainB x = true := by cases hq : plainB x with | true => rfl | false => exact absurd hq hp
      rw [hpt] at PL
      have HZ : Hid (z = none) := Lib.hid (hz.trans (if_neg (fun h => hp h.2.2.1)))
      clear hz hlen hc hp h0 hk0 m0 h hs hk hpt hux hul DA
      go_enter Tryz.func66, Tryz.ntmps66
      go_wp2_with (first
          | (go_at_call 63; refine (UP.out _ H0.out).mono ?_; rintro e w1 ⟨rfl, a1, m1⟩; have A1 := Lib.hid a1; have M1 := Lib.hid (M0.out.trans m1); clear a1 m1)
          | (go_at_call 93; refine (HX.out _).mono ?_; rintro e w2 ⟨h2, b2⟩; rw [if_pos HC.out] at h2; subst h2; have A2 := Lib.hid (A1.out.below b2); have M2 := Lib.hid (M1.out.trans (Moved.of_below b2)); clear b2)
          | (go_at_call 14; refine (PL.out _).mono ?_; rintro e w3 ⟨rfl, b3⟩; have A3 := Lib.hid (A2.out.below b3); have M3 := Lib.hid (M2.out.trans (Moved.of_below b3)); clear b3)
          | (go_at_call 39; refine (need7_bad _).mono ?_; rintro e w4 ⟨rfl, rfl⟩))
      exact ⟨rfl, by rw [HZ.out]; exact RdPost.no M3.out⟩
  · have HZ : Hid (z = none) := Lib.hid (hz.trans (if_neg (fun h => hc ⟨h.1, h.2.1⟩)))
    have HC := Lib.hid hc
    clear hz hlen hc h0 hk0 m0 h hs hk
    go_enter Tryz.func66, Tryz.ntmps66
    go_wp2_with (first
          | (go_at_call 63; refine (UP.out _ H0.out).mono ?_; rintro e w1 ⟨rfl, a1, m1⟩; have A1 := Lib.hid a1; have M1 := Lib.hid (M0.out.trans m1); clear a1 m1)
          | (go_at_call 93; refine (HX.out _).mono ?_; rintro e w2 ⟨h2, b2⟩; rw [if_neg HC.out] at h2; subst h2; have M2 := Lib.hid (M1.out.trans (Moved.of_below b2)); clear b2))
    exact ⟨rfl, by rw [HZ.out]; exact RdPost.no M2.out⟩
end Go.Proofs.YtiehhlolhhjgpaaGreatDoor.Pl
