/- What the listed table of characters gives the walks: its cells. -/
import Derived.Test.YtkipnbhejokbeaaDoorRows
import Derived.Test.YtkipnbhejokbeaaDoorNameFound
import Derived.Lib.LaidTab
import Derived.Deep.Strs
import Derived.ProofKit
import Derived.LaidMore
import Derived.OpenShut
import Derived.Stop.Joined
namespace Go.Proofs.YtkipnbhejokbeaaDoor.Pl
open Go.RowKit

theorem gChars : Tryd.prog.globalNamed "chirograph/name.characters" = some 0 := by kernel_rfl
theorem tChars : (Tryd.prog.globals[0]?).map (·.type) = some 60 := by kernel_rfl
theorem cI32 : Tryd.prog.cellsOf 21 = 1 := by kernel_rfl
theorem cU8 : Tryd.prog.cellsOf 5 = 1 := by kernel_rfl
theorem cRow : Tryd.prog.cellsOf 59 = 3 := by kernel_rfl
theorem cTab : Tryd.prog.cellsOf 60 = 15 := by kernel_rfl
theorem row_cells {H : Type} {enc : TypeId × Value → H} {w : World} {base : Nat} {sp : Nat → Bool} {held : Bool} {fuel : Nat} {cs : List Value} {x : DataW H × List MemPlace} {a b c : Int}
    (h : DataW.trod enc Tryd.prog w base sp held fuel 59 cs = some x) (hx : x.1 = .agg [.lit (.int .i32 a), .lit (.int .i32 b), .lit (.int .u8 c)]) :
    cs = [.int .i32 a, .int .i32 b, .int .u8 c] := by
  obtain ⟨y0, y1, y2, n, rfl, hl, h0, h1, h2⟩ := Deep.trod_struct3 Tryd.underlying59 h
  rw [cRow] at hl
  obtain ⟨z0, e0, rfl, _⟩ := DataW.trod_int Tryd.underlying21 h0
  obtain ⟨z1, e1, rfl, _⟩ := DataW.trod_int Tryd.underlying21 h1
  obtain ⟨z2, e2, rfl, _⟩ := DataW.trod_int Tryd.underlying5 h2
  simp only [cI32, cU8] at e0 e1 e2
  injection hx with hx
  injection hx with x0 hx
  injection hx with x1 hx
  injection hx with x2 _
  injection x0 with x0
  injection x0 with _ x0
  injection x1 with x1
  injection x1 with _ x1
  injection x2 with x2
  injection x2 with _ x2
  subst x0 x1 x2
  match cs, hl with
  | [u, v, t], _ =>
    simp at e0 e1 e2
    rw [e0, e1, e2]

def charD : List (DataW Unit) := [.agg [.lit (.int .i32 97), .lit (.int .i32 122), .lit (.int .u8 1)], .agg [.lit (.int .i32 945), .lit (.int .i32 969), .lit (.int .u8 2)], .agg [.lit (.int .i32 1072), .lit (.int .i32 1103), .lit (.int .u8 3)], .agg [.lit (.int .i32 48), .lit (.int .i32 57), .lit (.int .u8 0)], .agg [.lit (.int .i32 45), .lit (.int .i32 45), .lit (.int .u8 0)]]
abbrev laidN : List (String × DataW Unit) := [("chirograph/name.characters", Rows.laid_chirograph_name_characters)]
theorem laid_chars {W : World} (h : laidMetH Tryd.prog laidN W) : Chars W := by
  rw [MakeChecks.laidMetH_plain _ _ _ (by kernel_rfl)] at h
  obtain ⟨ps, ⟨g', t', cs, fuel, p, q, hg', ht', hvar, hd, _, _⟩, _⟩ := h
  obtain rfl := Option.some.inj (gChars.symm.trans hg')
  obtain rfl := Option.some.inj (tChars.symm.trans ht')
  obtain ⟨xs, m, _, hx, hl, hn, hall⟩ := DataW.trod_array Tryd.underlying60 hd
  rw [cTab] at hl
  rw [cRow] at hall
  have hm : xs.map (·.1) = charD := by
    have h1 : DataW.agg charD = DataW.agg (xs.map (·.1)) := congrArg Prod.fst hx
    injection h1 with h1
    exact h1.symm
  have hrow : ∀ i, i < 5 → ∃ x, xs[i]? = some x ∧ DataW.trod (fun _ => ()) Tryd.prog W 0 (fun _ => true) false m 59 ((cs.toList.drop (i * 3)).take 3) = some x := by
    intro i hi
    have := hall i hi
    rw [List.getElem?_eq_getElem (by omega)] at this
    exact ⟨_, List.getElem?_eq_getElem (by omega), this⟩
  have hat : ∀ (i : Nat) (x : DataW Unit × List MemPlace), xs[i]? = some x → (xs.map (·.1))[i]? = some x.1 := fun i x e => by rw [List.getElem?_map, e]; rfl
  rw [hm] at hat
  have hc : ∀ j, j < 15 → W.cell? ⟨0, j, none⟩ = charC[j]? := by
    intro j hj
    have hv := World.var?_cell gChars hvar j
    rw [hv]
    have key : ∀ i, i < 5 → ∀ k, k < 3 → cs.toList[i * 3 + k]? = ((cs.toList.drop (i * 3)).take 3)[k]? := fun i hi k hk => by
      rw [List.getElem?_take_of_lt hk, List.getElem?_drop]
    obtain ⟨x0, a0, b0⟩ := hrow 0 (by decide)
    obtain ⟨x1, a1, b1⟩ := hrow 1 (by decide)
    obtain ⟨x2, a2, b2⟩ := hrow 2 (by decide)
    obtain ⟨x3, a3, b3⟩ := hrow 3 (by decide)
    obtain ⟨x4, a4, b4⟩ := hrow 4 (by decide)
    have c0 := row_cells (a := 97) (b := 122) (c := 1) b0 (Option.some.inj (hat 0 x0 a0)).symm
    have c1 := row_cells (a := 945) (b := 969) (c := 2) b1 (Option.some.inj (hat 1 x1 a1)).symm
    have c2 := row_cells (a := 1072) (b := 1103) (c := 3) b2 (Option.some.inj (hat 2 x2 a2)).symm
    have c3 := row_cells (a := 48) (b := 57) (c := 0) b3 (Option.some.inj (hat 3 x3 a3)).symm
    have c4 := row_cells (a := 45) (b := 45) (c := 0) b4 (Option.some.inj (hat 4 x4 a4)).symm
    have hj' : j = j / 3 * 3 + j % 3 := by omega
    rw [← Array.getElem?_toList, hj', key (j / 3) (by omega) (j % 3) (by omega)]
    have hi : j / 3 < 5 := by omega
    have hk : j % 3 < 3 := by omega
    generalize j / 3 = i at *
    generalize j % 3 = k at *
    match i, hi, k, hk with
    | 0, _, k, hk => rw [c0]; match k, hk with | 0, _ => rfl | 1, _ => rfl | 2, _ => rfl
    | 1, _, k, hk => rw [c1]; match k, hk with | 0, _ => rfl | 1, _ => rfl | 2, _ => rfl
    | 2, _, k, hk => rw [c2]; match k, hk with | 0, _ => rfl | 1, _ => rfl | 2, _ => rfl
    | 3, _, k, hk => rw [c3]; match k, hk with | 0, _ => rfl | 1, _ => rfl | 2, _ => rfl
    | 4, _, k, hk => rw [c4]; match k, hk with | 0, _ => rfl | 1, _ => rfl | 2, _ => rfl
  exact ⟨World.block_lt_of_cell? _ _ (hc 0 (by decide)), hc⟩
theorem door_metN (os : Os) (args : Array Value) : laidMetH Tryd.prog laidN ((World.doorLaid Tryd.prog 400 os).forCall (fun _ _ => 0) ⟨#[], args, []⟩).memory :=
  laidMetH_of_parts3 (fuel := 8) (laidMet_of_run' 8 (by kernel_rfl) (by kernel_rfl)) (by kernel_rfl) (by kernel_rfl)
end Go.Proofs.YtkipnbhejokbeaaDoor.Pl
