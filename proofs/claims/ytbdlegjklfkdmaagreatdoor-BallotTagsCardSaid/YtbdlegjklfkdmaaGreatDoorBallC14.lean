/- What cipher.Open answers: the text, or why there is none. -/
import Derived.Test.YtbdlegjklfkdmaaGreatDoorBallC11
import Derived.Test.YtbdlegjklfkdmaaGreatDoorBallC3
import Derived.Deep.QuietTactic
import Derived.BigQuiet
namespace Go.Proofs.YtbdlegjklfkdmaaGreatDoor.Pl
open Go.RowKit

/-- What is hidden in a sealed form, and its tag. -/
def hidOf (x : ByteArray) : ByteArray := x.extract 0 (x.size - 32)
def tagAt (x : ByteArray) : ByteArray := x.extract (x.size - 32) x.size
/-- The tag is right. -/
def Fits (key x : ByteArray) : Prop := tagAt x = bytesOf (tagOf (tkey (nums key)) (nums (hidOf x)))
/-- The text, whose nonce and whose hidden bytes stand in y. -/
noncomputable def shown (key y : ByteArray) : ByteArray := bytesOf (hide (skey (nums key)) (nums (y.extract 0 12)) (nums (y.extract 12 y.size)))

end Go.Proofs.YtbdlegjklfkdmaaGreatDoor.Pl
