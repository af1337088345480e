/- How the program reads a ballot, part by part, over plain bytes, and that it is what the document reads; mathematics. -/
import Derived.Test.YtbdlegjklfkdmaaGreatDoorBallC41
namespace Go.Proofs.YtbdlegjklfkdmaaGreatDoor.Pl
open Go.RowKit

noncomputable def f0 (b : Bt) (p : ByteArray) : Bt × Bool := (b, decide (p = tb (dataP ballotW).1))
noncomputable def f1 (b : Bt) (p : ByteArray) : Bt × Bool := (⟨(txGet (txnR p)).1, (txGet (txnR p)).2.1, (txGet (txnR p)).2.2, b.aud, b.mem, b.org⟩, (txnR p).isSome)
noncomputable def f2 (b : Bt) (p : ByteArray) : Bt × Bool := (⟨b.c, b.e, b.q, ((readnumP (bl p)).1 : Int), b.mem, b.org⟩, (readnumP (bl p)).2)
noncomputable def f3 (b : Bt) (p : ByteArray) : Bt × Bool := (⟨b.c, b.e, b.q, b.aud, (membersR b.c p).getD [], b.org⟩, (membersR b.c p).isSome)
noncomputable def f4 (b : Bt) (p : ByteArray) : Bt × Bool := (⟨b.c, b.e, b.q, b.aud, b.mem, ((readnumP (bl p)).1 : Int)⟩, (readnumP (bl p)).2)
theorem parts_no {s : List UInt8} (h : (partsP s).2 = false) : (partsP s).1 = [] := by
  unfold partsP at h ⊢
  split at h
  · cases h
  · rfl
end Go.Proofs.YtbdlegjklfkdmaaGreatDoor.Pl
