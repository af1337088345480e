/- ShaSums answers true, whatever it is given. -/
import Derived.Test.YtfkebiclpeebbaaDoorShaAlive
import Derived.Test.YtfkebiclpeebbaaDoorShaRefSum
namespace Go.Proofs.YtfkebiclpeebbaaDoor.Pl
open Go.RowKit

set_option maxRecDepth 100000 in
theorem sums_large (s : ByteArray) (w : World) (hT : Tab w) (h : 8192 < s.size) :
    Calls Tryd.prog 3 #[.string s] w fun e w' => e = .returned (.bool true) ∧ Below w.heap.size w w' := by
  have HT := Lib.hid hT
  clear hT
  go_enter Tryd.func3, Tryd.ntmps3
  go_wp2_with fail
  refine (alive_any _ HT.out).mono ?_; rintro e w' ⟨rfl, hb⟩
  go_wp2_with fail
  go_ret
  exact ⟨rfl, hb⟩

set_option maxHeartbeats 1000000 in
set_option maxRecDepth 100000 in
theorem sums_small (s : ByteArray) (w : World) (hT : Tab w) (h0 : ¬ 8192 < s.size) :
    Calls Tryd.prog 3 #[.string s] w fun e w' => e = .returned (.bool true) ∧ Below w.heap.size w w' := by
  have HT := Lib.hid hT
  clear hT
  go_enter Tryd.func3, Tryd.ntmps3
  go_wp2_with fail
  refine (sum_any s (by omega) w HT.out).mono ?_; rintro e w1 ⟨rfl, b1⟩
  have B1 := Lib.hid b1
  have T1 := Lib.hid (HT.out.below b1)
  clear b1
  go_wp2_with fail
  refine (refsum_any s (by omega) w1).mono ?_; rintro e w2 ⟨rfl, b2⟩
  have B2 := Lib.hid (B1.out.trans (b2.mono B1.out.size))
  have T2 := Lib.hid (T1.out.below b2)
  clear b2
  go_wp2_with fail
  refine (alive_any _ T2.out).mono ?_; rintro e w3 ⟨rfl, b3⟩
  have B3 := Lib.hid (B2.out.trans (b3.mono B2.out.size))
  clear b3
  go_wp2_with fail
  go_ret
  exact ⟨rfl, B3.out⟩
theorem sums_all (s : ByteArray) (w : World) (hT : Tab w) :
    Calls Tryd.prog 3 #[.string s] w fun e w' => e = .returned (.bool true) ∧ Below w.heap.size w w' := by
  by_cases h0 : 8192 < s.size
  · exact sums_large s w hT h0
  · exact sums_small s w hT h0
end Go.Proofs.YtfkebiclpeebbaaDoor.Pl
