/- What the ways of KeysApart lean on. -/
import Derived.Test.YtbhcjdpachboaaaDoorKeysNamesLaw
import Derived.Test.YtbhcjdpachboaaaDoorKeysBase1
namespace Go.Proofs.YtbhcjdpachboaaaDoor.Pl
open Go.RowKit

theorem mem_bl9 {X : ByteArray} {x : List UInt8} {L : List ByteArray} (h : bl X = x) : X ∈ L ↔ x ∈ L.map bl := by
  subst h
  constructor
  · exact fun k => List.mem_map_of_mem k
  · intro k
    obtain ⟨Y, h1, h2⟩ := List.mem_map.1 k
    exact bl_inj h2 ▸ h1
theorem known_len {s : Nat} {n : Int} {L : List ByteArray} (h : L.map bl = knownK s n) : L.length ≤ 1000 := by
  have h2 := congrArg List.length h
  rw [List.length_map] at h2
  rw [h2]
  unfold knownK
  split
  · rename_i h
    have := flat_len (rowK s n.toNat) 16 (fun i => by have := flat_len (cellK s i) 2 (cell_len s i) n.toNat; unfold rowK; omega) n.toNat
    omega
  · exact Nat.zero_le _
theorem of_len {a n : Int} {L : List ByteArray} (h : L.map bl = ofK a n) : L.length ≤ 1000 := by
  have h2 := congrArg List.length h
  rw [List.length_map] at h2
  rw [h2]
  unfold ofK
  split
  · rename_i h
    have := flat_len (bothK a.toNat) 2 (fun i => Nat.le_refl _) n.toNat
    omega
  · exact Nat.zero_le _
theorem min_is {a b x : Int} (h : x = min a b) : (if b < a then b else a) = x := by subst h; split <;> omega
theorem max_is {a b x : Int} (h : x = max a b) : (if a < b then b else a) = x := by subst h; split <;> omega
end Go.Proofs.YtbhcjdpachboaaaDoor.Pl
