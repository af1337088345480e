/- KeysApart answers true, whatever it is given. Leans on the program's own contracts: ktag_any, kseal_any, kread_any, kknown_any, kof_any. -/
import Derived.Test.YtbhcjdpachboaaaDoorKeysApart1
import Derived.Test.YtbhcjdpachboaaaDoorKeysApart2
import Derived.Test.YtbhcjdpachboaaaDoorKeysApart3
import Derived.Test.YtbhcjdpachboaaaDoorKeysApart4
import Derived.Test.YtbhcjdpachboaaaDoorKeysApart5
import Derived.Test.YtbhcjdpachboaaaDoorKeysApart6
namespace Go.Proofs.YtbhcjdpachboaaaDoor.Pl
open Go.RowKit

set_option maxHeartbeats 2000000 in
set_option maxRecDepth 100000 in
theorem keysapart_err (a b c d : Int) (s : Nat) (n : Int) (h : (nameK 107 a b).2 ≠ 0 ∨ (nameK 107 c d).2 ≠ 0) (w : World) (hT : KeyTab w) :
    Calls Tryd.prog 6 #[.int .i64 a, .int .i64 b, .int .i64 c, .int .i64 d, .int .u8 (s : Int), .int .i64 n] w fun e w' => e = .returned (.bool true) ∧ Below w.heap.size w w' := by
  have T0 := Lib.hid hT
  have HA := Lib.hid (fun V h => alive9_any V h)
  have H1 := Lib.hid (fun V h => ktag_any a b V h)
  have H2 := Lib.hid (fun V h => ktag_any b a V h)
  have H3 := Lib.hid (fun V h => ktag_any c d V h)
  have H4 := Lib.hid (fun V h => kseal_any a b V h)
  have H5 := Lib.hid (fun V h => kseal_any c d V h)
  rw [nameK_comm 107 b a] at H2
  have e1 := nameK_err 115 107 a b
  have e2 := nameK_err 115 107 c d
  generalize nameK 107 a b = A at *
  generalize nameK 107 c d = C at *
  generalize nameK 115 a b = D at *
  generalize nameK 115 c d = E at *
  obtain ⟨x, i⟩ := A
  obtain ⟨z, j⟩ := C
  obtain ⟨u, k⟩ := D
  obtain ⟨v, l⟩ := E
  dsimp only at e1 e2 h
  subst e1
  subst e2
  unfold st2 at H1 H2 H3 H4 H5
  dsimp only at H1 H2 H3 H4 H5
  generalize (⟨x.toArray⟩ : ByteArray) = X at *
  generalize (⟨u.toArray⟩ : ByteArray) = U at *
  generalize (⟨z.toArray⟩ : ByteArray) = Z at *
  generalize (⟨v.toArray⟩ : ByteArray) = Y at *
  clear hT
  by_cases hk : k = 0
  · have hl : l ≠ 0 := h.resolve_left (fun e => e hk)
    subst hk
    have q : ((l : Int) != 0) = true := by rw [bne_iff_ne]; omega
    clear h hl
    go_enter Tryd.func6, Tryd.ntmps6
    go_wp2_with fail
    refine (H1.out _ T0.out).mono ?_; rintro e w1 ⟨rfl, b1⟩
    have B1 := Lib.hid b1
    have T1 := Lib.hid (T0.out.below b1)
    clear b1
    go_wp2_with fail
    refine (H2.out _ T1.out).mono ?_; rintro e w2 ⟨rfl, b2⟩
    have B2 := Lib.hid (step9 B1.out b2)
    have T2 := Lib.hid (T1.out.below b2)
    clear b2
    go_wp2_with fail
    refine (H3.out _ T2.out).mono ?_; rintro e w3 ⟨rfl, b3⟩
    have B3 := Lib.hid (step9 B2.out b3)
    have T3 := Lib.hid (T2.out.below b3)
    clear b3
    go_wp2_with fail
    refine (H4.out _ T3.out).mono ?_; rintro e w4 ⟨rfl, b4⟩
    have B4 := Lib.hid (step9 B3.out b4)
    have T4 := Lib.hid (T3.out.below b4)
    clear b4
    go_wp2_with fail
    refine (H5.out _ T4.out).mono ?_; rintro e w5 ⟨rfl, b5⟩
    have B5 := Lib.hid (step9 B4.out b5)
    have T5 := Lib.hid (T4.out.below b5)
    clear b5
    go_wp2_with fail
    refine (HA.out _ T5.out).mono ?_; rintro e w6 ⟨rfl, b6⟩
    have B6 := Lib.hid (step9 B5.out b6)
    clear b6
    go_wp2_with fail
    go_ret
    exact ⟨rfl, B6.out⟩
  · have q : ((k : Int) != 0) = true := by rw [bne_iff_ne]; omega
    clear h hk
    go_enter Tryd.func6, Tryd.ntmps6
    go_wp2_with fail
    refine (H1.out _ T0.out).mono ?_; rintro e w1 ⟨rfl, b1⟩
    have B1 := Lib.hid b1
    have T1 := Lib.hid (T0.out.below b1)
    clear b1
    go_wp2_with fail
    refine (H2.out _ T1.out).mono ?_; rintro e w2 ⟨rfl, b2⟩
    have B2 := Lib.hid (step9 B1.out b2)
    have T2 := Lib.hid (T1.out.below b2)
    clear b2
    go_wp2_with fail
    refine (H3.out _ T2.out).mono ?_; rintro e w3 ⟨rfl, b3⟩
    have B3 := Lib.hid (step9 B2.out b3)
    have T3 := Lib.hid (T2.out.below b3)
    clear b3
    go_wp2_with fail
    refine (H4.out _ T3.out).mono ?_; rintro e w4 ⟨rfl, b4⟩
    have B4 := Lib.hid (step9 B3.out b4)
    have T4 := Lib.hid (T3.out.below b4)
    clear b4
    go_wp2_with fail
    refine (H5.out _ T4.out).mono ?_; rintro e w5 ⟨rfl, b5⟩
    have B5 := Lib.hid (step9 B4.out b5)
    have T5 := Lib.hid (T4.out.below b5)
    clear b5
    go_wp2_with fail
    refine (HA.out _ T5.out).mono ?_; rintro e w6 ⟨rfl, b6⟩
    have B6 := Lib.hid (step9 B5.out b6)
    clear b6
    go_wp2_with fail
    go_ret
    exact ⟨rfl, B6.out⟩
theorem keysapart_any (a b c d : Int) (s : Nat) (hs : s < 256) (n : Int) (w : World) (hT : KeyTab w) :
    Calls Tryd.prog 6 #[.int .i64 a, .int .i64 b, .int .i64 c, .int .i64 d, .int .u8 (s : Int), .int .i64 n] w fun e w' => e = .returned (.bool true) ∧ Below w.heap.size w w' := by
  by_cases h1 : (nameK 107 a b).2 = 0
  · by_cases h2 : (nameK 107 c d).2 = 0
    · have hx : nameK 107 a b = ((nameK 107 a b).1, 0) := Prod.ext rfl h1
      have hz : nameK 107 c d = ((nameK 107 c d).1, 0) := Prod.ext rfl h2
      have hu : nameK 115 a b = ((nameK 115 a b).1, 0) := Prod.ext rfl ((nameK_err 115 107 a b).trans h1)
      have hv : nameK 115 c d = ((nameK 115 c d).1, 0) := Prod.ext rfl ((nameK_err 115 107 c d).trans h2)
      generalize (nameK 107 a b).1 = x at hx
      generalize (nameK 107 c d).1 = z at hz
      generalize (nameK 115 a b).1 = u at hu
      generalize (nameK 115 c d).1 = v at hv
      clear h1 h2
      by_cases h1 : a = c
      · subst h1
        by_cases h2 : b = d
        · subst h2
          exact apart9_1 a b s hs n x u z v hx hu hz hv w hT
        · by_cases h3 : a = d
          · subst h3
            exact apart9_2 a b s hs n h2 x u z v hx hu hz hv w hT
          · exact apart9_3 a b d s hs n h2 h3 x u z v hx hu hz hv w hT
      · by_cases h3 : a = d
        · subst h3
          by_cases h2 : b = c
          · subst h2
            exact apart9_4 a b s hs n h1 x u z v hx hu hz hv w hT
          · exact apart9_5 a b c s hs n h1 h2 x u z v hx hu hz hv w hT
        · exact apart9_6 a b c d s hs n h1 h3 x u z v hx hu hz hv w hT
    · exact keysapart_err a b c d s n (.inr h2) w hT
  · exact keysapart_err a b c d s n (.inl h1) w hT
end Go.Proofs.YtbhcjdpachboaaaDoor.Pl
