/- What the document's turn, words and consts answer. -/
import Derived.Test.YtedidoeoomijjaaDoorSuiteD2
import Derived.Test.YtedidoeoomijjaaDoorSuiteD4
import Derived.StillTailTactics
namespace Go.Proofs.YtedidoeoomijjaaDoor.Pl
open Go.RowKit

theorem char_at (s : ByteArray) (z : Int) (k c : Nat) (hz : z = (k : Int)) (hk : k < s.size) (hc : c = (nums s).getD k 0) (V : World) : (Instr.index 9 (.string s) (.int .i64 z)).run Tryd.prog V = .ok (.int .u8 (c : Int)) V := by
  rw [hz]; exact str_index s k c hk hc V

end Go.Proofs.YtedidoeoomijjaaDoor.Pl
