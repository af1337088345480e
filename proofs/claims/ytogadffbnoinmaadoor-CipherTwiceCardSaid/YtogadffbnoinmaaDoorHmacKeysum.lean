/- What Key.Sum answers: the tag. -/
import Derived.Test.YtogadffbnoinmaaDoorHmacNew
import Derived.Deep.RegionHeld3
namespace Go.Proofs.YtogadffbnoinmaaDoor.Pl
open Go.RowKit

theorem ks_keep {w W V : World} {p i o : Nat} {a b : List Nat}
    (h : W.cell? ⟨p, 0, none⟩ = some (.pointer (some ⟨i, 0, none⟩)) ∧ W.cell? ⟨p, 1, none⟩ = some (.pointer (some ⟨o, 0, none⟩)) ∧ Hid (Tab W) ∧ Hid (Holds W i a) ∧ Hid (Holds W o b) ∧ Hid (Below w.heap.size w W)) (hb : Below W.heap.size W V) :
    V.cell? ⟨p, 0, none⟩ = some (.pointer (some ⟨i, 0, none⟩)) ∧ V.cell? ⟨p, 1, none⟩ = some (.pointer (some ⟨o, 0, none⟩)) ∧ Hid (Tab V) ∧ Hid (Holds V i a) ∧ Hid (Holds V o b) ∧ Hid (Below w.heap.size w V) := by
  obtain ⟨h0, h1, h2, h3, h4, h5⟩ := h
  exact ⟨(hb.cell (p := ⟨p, 0, none⟩) (World.block_lt_of_cell? _ _ h0)).trans h0, (hb.cell (p := ⟨p, 1, none⟩) (World.block_lt_of_cell? _ _ h1)).trans h1, Lib.hid (h2.out.below hb), Lib.hid (h3.out.below hb), Lib.hid (h4.out.below hb), Lib.hid (h5.out.trans (hb.mono h5.out.size))⟩
theorem over_in {w W : World} {p i o : Nat} {a b : List Nat} (s : ByteArray) (ha : Hid (Bytes a)) (hl : Hid (a.length + s.size < 2305843009213693952))
    (h : W.cell? ⟨p, 0, none⟩ = some (.pointer (some ⟨i, 0, none⟩)) ∧ W.cell? ⟨p, 1, none⟩ = some (.pointer (some ⟨o, 0, none⟩)) ∧ Hid (Tab W) ∧ Hid (Holds W i a) ∧ Hid (Holds W o b) ∧ Hid (Below w.heap.size w W)) :
    Calls Tryd.prog 22 #[.agg #[.pointer (some ⟨i, 0, none⟩)], .string s] W fun e w' => e = .returned (.string (bytesOf (digest (a ++ nums s)))) ∧ Below W.heap.size W w' :=
  over_any i a ha.out s hl.out W h.2.2.1.out h.2.2.2.1.out
theorem over_out {w W : World} {p i o : Nat} {a b : List Nat} (m : List Nat) (hb : Hid (Bytes b)) (hl : Hid (b.length = 64))
    (h : W.cell? ⟨p, 0, none⟩ = some (.pointer (some ⟨i, 0, none⟩)) ∧ W.cell? ⟨p, 1, none⟩ = some (.pointer (some ⟨o, 0, none⟩)) ∧ Hid (Tab W) ∧ Hid (Holds W i a) ∧ Hid (Holds W o b) ∧ Hid (Below w.heap.size w W)) :
    Calls Tryd.prog 22 #[.agg #[.pointer (some ⟨o, 0, none⟩)], .string (bytesOf (digest m))] W fun e w' => e = .returned (.string (bytesOf (digest (b ++ digest m)))) ∧ Below W.heap.size W w' := by
  have := over_any o b hb.out (bytesOf (digest m)) (by rw [bytesOf_size, digest_length, hl.out]; decide) W h.2.2.1.out h.2.2.2.2.1.out
  rwa [nums_bytesOf (digest_bytes m)] at this

theorem drew_below (w : World) : Below w.heap.size w w.drew := (Below.refl _ _).drew
set_option maxHeartbeats 1000000 in
set_option maxRecDepth 100000 in
theorem keysum_any (p : Nat) (k : ByteArray) (s : ByteArray) (hl : s.size < 2000000000000000000) (w : World) (hT : Tab w) (hK : KeyAt w p (nums k)) :
    Calls Tryd.prog 16 #[.pointer (some ⟨p, 0, none⟩), .string s] w fun e w' => e = .returned (.string (bytesOf (tagOf (nums k) (nums s)))) ∧ Below w.heap.size w w' := by
  obtain ⟨i, o, hc, hi, ho⟩ := hK
  have c0 : w.cell? ⟨p, 0, none⟩ = some (.pointer (some ⟨i, 0, none⟩)) := cell_of_row _ _ _ _ _ _ hc
  have c1 : w.cell? ⟨p, 1, none⟩ = some (.pointer (some ⟨o, 0, none⟩)) := cell_of_row _ _ _ _ _ _ hc
  have KS := ks_keep (w := w) ⟨c0, c1, Lib.hid hT, Lib.hid hi, Lib.hid ho, Lib.hid (Below.refl _ _)⟩ (drew_below w)
  have HA := Lib.hid (pad_bytes 54 (by decide) k)
  have HB := Lib.hid (pad_bytes 92 (by decide) k)
  have LB : Hid ((xorb 92 (kblock (nums k))).length = 64) := Lib.hid (by rw [xorb_length, kblock_length])
  have LA : Hid ((xorb 54 (kblock (nums k))).length + s.size < 2305843009213693952) := Lib.hid (by rw [xorb_length, kblock_length]; omega)
  have ET : Hid (tagOf (nums k) (nums s) = digest (xorb 92 (kblock (nums k)) ++ digest (xorb 54 (kblock (nums k)) ++ nums s))) := Lib.hid (by rw [tagOf])
  generalize xorb 92 (kblock (nums k)) = b at *
  generalize xorb 54 (kblock (nums k)) = a at *
  clear c0 c1 hi ho hT hc hl

  go_enter Tryd.func16, Tryd.ntmps16
  go_wp2_with fail
  go_region_held3 (fun W => W.cell? ⟨p, 0, none⟩ = some (.pointer (some ⟨i, 0, none⟩)) ∧ W.cell? ⟨p, 1, none⟩ = some (.pointer (some ⟨o, 0, none⟩)) ∧ Hid (Tab W) ∧ Hid (Holds W i a) ∧ Hid (Holds W o b) ∧ Hid (Below w.heap.size w W)) (first | assumption | with_reducible exact ks_keep ‹_› ‹_›) (first
    | (go_at_call 22; with_reducible refine (over_in s HA LA ‹_›).mono ?_; rintro e w3 ⟨rfl, hb3⟩)
    | (go_at_call 22; with_reducible refine (over_out _ HB LB ‹_›).mono ?_; rintro e w4 ⟨rfl, hb4⟩))
  go_wp2_with fail
  go_ret
  have hB : _ ∧ _ ∧ _ ∧ _ ∧ _ ∧ Hid (Below w.heap.size w w4) := ‹_ ∧ _›
  exact ⟨by rw [ET.out]; rfl, hB.2.2.2.2.2.out⟩
theorem keysum_nil (s : ByteArray) (w : World) : Calls Tryd.prog 16 #[.pointer none, .string s] w fun e w' => e = .returned (.string ⟨#[]⟩) ∧ w = w' := by
  go_enter Tryd.func16, Tryd.ntmps16
  go_wp2_with fail
  go_ret
  exact ⟨rfl, rfl⟩
end Go.Proofs.YtogadffbnoinmaaDoor.Pl
