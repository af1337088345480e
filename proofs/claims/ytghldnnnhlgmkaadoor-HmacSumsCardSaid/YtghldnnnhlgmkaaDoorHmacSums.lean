/- HmacSums answers true, whatever it is given. -/
import Derived.Test.YtghldnnnhlgmkaaDoorHmacRefTag
import Derived.Test.YtghldnnnhlgmkaaDoorHmacAlive
namespace Go.Proofs.YtghldnnnhlgmkaaDoor.Pl
open Go.RowKit

set_option maxRecDepth 100000 in
theorem hsums_large (k s : ByteArray) (w : World) (hT : Tab w) (h : 4096 < k.size ∨ (¬ 4096 < k.size ∧ 8192 < s.size)) :
    Calls Tryd.prog 3 #[.string k, .string s] w fun e w' => e = .returned (.bool true) ∧ Below w.heap.size w w' := by
  have HT := Lib.hid hT
  clear hT
  rcases h with h | ⟨h0, h⟩
  all_goals
    go_enter Tryd.func3, Tryd.ntmps3
    go_wp2_with fail
    refine (alive_any _ HT.out).mono ?_; rintro e w' ⟨rfl, hb⟩
    go_wp2_with fail
    go_ret
    exact ⟨rfl, hb⟩
set_option maxRecDepth 100000 in
theorem hsums_small (k s : ByteArray) (w : World) (hT : Tab w) (h0 : ¬ 4096 < k.size) (h1 : ¬ 8192 < s.size) :
    Calls Tryd.prog 3 #[.string k, .string s] w fun e w' => e = .returned (.bool true) ∧ Below w.heap.size w w' := by
  have HT := Lib.hid hT
  have P1 := Lib.hid (tag_any k s (by omega) (by omega) w hT)
  have P2 := Lib.hid (fun W => reftag_any k s (by omega) (by omega) W)
  clear hT
  generalize bytesOf (tagOf (nums k) (nums s)) = T at *
  go_enter Tryd.func3, Tryd.ntmps3
  go_wp2_with fail
  refine P1.out.mono ?_; rintro e w1 ⟨rfl, hb1⟩
  have B1 := Lib.hid hb1
  have T1 := Lib.hid (HT.out.below hb1)
  clear hb1
  go_wp2_with fail
  refine (P2.out w1).mono ?_; rintro e w2 ⟨rfl, hb2⟩
  have B2 := Lib.hid (below_step B1.out hb2)
  have T2 := Lib.hid (T1.out.below hb2)
  clear hb2
  go_wp2_with fail
  refine (alive_any _ T2.out).mono ?_; rintro e w3 ⟨rfl, hb3⟩
  have B3 := Lib.hid (below_step B2.out hb3)
  clear hb3
  go_wp2_with fail
  go_ret
  exact ⟨rfl, B3.out⟩
theorem hsums_all (k s : ByteArray) (w : World) (hT : Tab w) :
    Calls Tryd.prog 3 #[.string k, .string s] w fun e w' => e = .returned (.bool true) ∧ Below w.heap.size w w' := by
  by_cases h0 : 4096 < k.size
  · exact hsums_large k s w hT (.inl h0)
  · by_cases h1 : 8192 < s.size
    · exact hsums_large k s w hT (.inr ⟨h0, h1⟩)
    · exact hsums_small k s w hT h0 h1
end Go.Proofs.YtghldnnnhlgmkaaDoor.Pl
