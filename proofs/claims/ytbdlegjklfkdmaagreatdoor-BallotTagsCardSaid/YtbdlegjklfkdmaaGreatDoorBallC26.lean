/- What the listed tables of numbers and of letters give the walks: their cells. -/
import Derived.Test.YtbdlegjklfkdmaaGreatDoorBallC23
import Derived.Test.YtbdlegjklfkdmaaGreatDoorBallC6
namespace Go.Proofs.YtbdlegjklfkdmaaGreatDoor.Pl
open Go.RowKit

/-- The two tables are laid. -/
def KeyTabs (w : World) : Prop := KeyTab w ∧ Tab w
theorem KeyTabs.below {w w' : World} (h : KeyTabs w) (hb : Below w.heap.size w w') : KeyTabs w' := ⟨h.1.below hb, h.2.below hb⟩
theorem laid_13 {W : World} (h : laidMetH Tryz.prog laidT13 W) : KeyTabs W := by
  refine ⟨laid_13k h, ?_⟩
  rw [MakeChecks.laidMetH_plain _ _ _ (by kernel_rfl)] at h
  have hd : (Rows.laid_chirograph_sha_tableK : DataW Unit) = Lib.tabData .u32 (KL.map fun (x : Nat) => (x : Int)) := by rfl
  rw [laidT13, hd] at h
  have ht := Lib.tabIs_of_head gTab tTab Tryz.underlying178 Tryz.underlying160 c34 c45 h
  have hc : ∀ j, j < 64 → W.cell? ⟨1, j, none⟩ = some (.int .u32 ((KL.getD j 0 : Nat) : Int)) := fun j hj => by
    have := ht.cell gTab j (by rw [List.length_map, KL_length]; exact hj)
    rw [this]
    have hj' : j < KL.length := by rw [KL_length]; exact hj
    simp [List.getD_eq_getElem?_getD, hj']
  have h0 := block_lt_of_cell (hc 0 (by decide))
  exact ⟨h0, hc⟩
end Go.Proofs.YtbdlegjklfkdmaaGreatDoor.Pl
