/- CipherSeals answers true, whatever it is given. -/
import Derived.Test.YtogadffbnoinmaaDoorCipherRef
import Derived.Test.YtogadffbnoinmaaDoorCipherAlive
namespace Go.Proofs.YtogadffbnoinmaaDoor.Pl
open Go.RowKit

set_option maxHeartbeats 1000000 in
set_option maxRecDepth 100000 in
theorem seals_all (key nonce s : ByteArray) (w : World) (hT : Tab w) :
    Calls Tryd.prog 3 #[.string key, .string nonce, .string s] w fun e w' => e = .returned (.bool true) ∧ Below w.heap.size w w' := by
  have HT := Lib.hid hT
  by_cases hg : Large key nonce s
  · have HG := Lib.hid hg
    clear hT hg
    go_enter Tryd.func3, Tryd.ntmps3
    go_wp2_with fail
    refine (long_yes key nonce s HG.out w).mono ?_; rintro e w1 ⟨rfl, rfl⟩
    go_wp2_with fail
    refine (alive_any4 w HT.out).mono ?_; rintro e w1 ⟨rfl, b1⟩
    have B1 := Lib.hid b1
    clear b1
    go_wp2_with fail
    go_ret
    exact ⟨rfl, B1.out⟩
  · have HG := Lib.hid (not_large hg)
    by_cases hn : nonce.size = 12
    · have S1 := Lib.hid (seal_any key nonce s (by have := HG.out; omega) hn (by have := HG.out; omega) w hT)
      have S2 := Lib.hid (fun V => rseal_any key nonce s (by have := HG.out; omega) hn (by have := HG.out; omega) V)
      generalize sealedL (nums key) (nums nonce) (nums s) = R at *
      generalize bytesOf R = A at *
      clear hT hg hn
      go_enter Tryd.func3, Tryd.ntmps3
      go_wp2_with fail
      refine (long_no key nonce s HG.out w).mono ?_; rintro e w1 ⟨rfl, rfl⟩
      go_wp2_with fail
      refine S1.out.mono ?_; rintro e w1 ⟨rfl, b1⟩
      have B1 := Lib.hid b1
      clear b1
      go_wp2_with fail
      refine (S2.out w1).mono ?_; rintro e w2 ⟨rfl, b2⟩
      have B2 := Lib.hid (below_step B1.out b2)
      clear b2
      go_wp2_with fail
      refine (alive_any4 w2 (HT.out.below B2.out)).mono ?_; rintro e w3 ⟨rfl, b3⟩
      have B3 := Lib.hid (below_step B2.out b3)
      clear b3
      go_wp2_with fail
      go_ret
      exact ⟨rfl, B3.out⟩
    · have S1 := Lib.hid (fun V => seal_arg key nonce s hn V)
      have S2 := Lib.hid (fun V => rseal_arg key nonce s hn V)
      clear hT hg hn
      go_enter Tryd.func3, Tryd.ntmps3
      go_wp2_with fail
      refine (long_no key nonce s HG.out w).mono ?_; rintro e w1 ⟨rfl, rfl⟩
      go_wp2_with fail
      refine (S1.out w).mono ?_; rintro e w1 ⟨rfl, rfl⟩
      go_wp2_with fail
      refine (S2.out w).mono ?_; rintro e w1 ⟨rfl, rfl⟩
      go_wp2_with fail
      refine (alive_any4 w HT.out).mono ?_; rintro e w3 ⟨rfl, b3⟩
      have B3 := Lib.hid b3
      clear b3
      go_wp2_with fail
      go_ret
      exact ⟨rfl, B3.out⟩
end Go.Proofs.YtogadffbnoinmaaDoor.Pl
