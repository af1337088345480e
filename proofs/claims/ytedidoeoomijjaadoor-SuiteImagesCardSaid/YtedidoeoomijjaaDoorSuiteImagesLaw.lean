/- SuiteImages answers true, whatever it is given. -/
import Derived.Test.YtedidoeoomijjaaDoorSuiteImagesB
import Derived.Test.YtedidoeoomijjaaDoorSuiteImagesC
namespace Go.Proofs.YtedidoeoomijjaaDoor.Pl
open Go.RowKit

theorem suiteimages_any (m name k n t : ByteArray) (w : World) (hT : Tab w) :
    Calls Tryd.prog 6 #[.string m, .string name, .string k, .string n, .string t] w fun e w' => e = .returned (.bool true) ∧ Below w.heap.size w w' := by
  by_cases h : 1 ≤ m.size ∧ m.size ≤ 64
  · cases hl : longB k n t name with
    | true => exact images_long m name k n t h.1 h.2 hl w hT
    | false =>
      by_cases hg : (keyP cryP true [] (bl name)).2 = 0
      · exact images_key0 m name k n t h.1 h.2 hl hg w hT
      · exact images_key1 m name k n t h.1 h.2 hl hg w hT
  · exact images_none m name k n t h w hT
end Go.Proofs.YtedidoeoomijjaaDoor.Pl
