/- What the listed table of frames gives the walks: its cells. -/
import Derived.Test.YtiehhlolhhjgpaaGreatDoorRows
import Derived.Test.YtiehhlolhhjgpaaGreatDoorShowZ4
import Derived.Lib.LaidTab
import Derived.Deep.Strs
import Derived.ProofKit
import Derived.LaidMore
import Derived.OpenShut
import Derived.Stop.Joined
import Derived.ChangeArms
namespace Go.Proofs.YtiehhlolhhjgpaaGreatDoor.Pl
open Go.RowKit

theorem gFrames : Tryz.prog.globalNamed "chirograph/show.frames" = some 0 := by kernel_rfl
theorem tFrames : (Tryz.prog.globals[0]?).map (·.type) = some 78 := by kernel_rfl
theorem cU8f : Tryz.prog.cellsOf 5 = 1 := by kernel_rfl
theorem cStrf : Tryz.prog.cellsOf 9 = 1 := by kernel_rfl
theorem cRowf : Tryz.prog.cellsOf 77 = 3 := by kernel_rfl
theorem cTabf : Tryz.prog.cellsOf 78 = 12 := by kernel_rfl
theorem three_of {α : Type} {l : List α} (h : l.length = 3) : ∃ a b c, l = [a, b, c] := by
  match l, h with
  | [a, b, c], _ => exact ⟨a, b, c, rfl⟩
theorem row_cellsf {H : Type} {enc : TypeId × Value → H} {w : World} {base : Nat} {sp : Nat → Bool} {held : Bool} {fuel : Nat} {cs : List Value} {x : DataW H × List MemPlace} {a : Int} {b c : List UInt8}
    (h : DataW.trod enc Tryz.prog w base sp held fuel 77 cs = some x) (hx : x.1 = .agg [.lit (.int .u8 a), .lit (.string b), .lit (.string c)]) :
    cs = [.int .u8 a, .string ⟨b.toArray⟩, .string ⟨c.toArray⟩] := by
  obtain ⟨y0, y1, y2, n, rfl, hl, h0, h1, h2⟩ := Deep.trod_struct3 Tryz.underlying77 h
  rw [cRowf] at hl
  obtain ⟨z0, e0, rfl, _⟩ := DataW.trod_int Tryz.underlying5 h0
  obtain ⟨z1, e1, rfl, _⟩ := DataW.trod_string Tryz.underlying9 h1
  obtain ⟨z2, e2, rfl, _⟩ := DataW.trod_string Tryz.underlying9 h2
  simp only [cU8f, cStrf] at e0 e1 e2
  obtain ⟨u, v, t, rfl⟩ := three_of hl
  simp only [List.take_succ_cons, List.take_zero, List.drop_succ_cons, List.drop_zero, List.cons.injEq, and_true] at e0 e1 e2
  injection hx with hx
  injection hx with x0 hx
  injection hx with x1 hx
  injection hx with x2 _
  injection x0 with x0
  injection x0 with _ x0
  injection x1 with x1
  injection x1 with x1
  injection x2 with x2
  injection x2 with x2
  rw [e0, e1, e2, ← x0, ← x1, ← x2]

def frameD : List (DataW Unit) := [.agg [.lit (.int .u8 3), .lit (.string [91]), .lit (.string [93])], .agg [.lit (.int .u8 4), .lit (.string [104, 40]), .lit (.string [41])], .agg [.lit (.int .u8 5), .lit (.string [109, 40]), .lit (.string [41])], .agg [.lit (.int .u8 6), .lit (.string [115, 40]), .lit (.string [41])]]
abbrev laidF : List (String × DataW Unit) := [("chirograph/show.frames", Rows.laid_chirograph_show_frames)]
set_option maxRecDepth 100000 in
theorem laid_frames {W : World} (h : laidMetH Tryz.prog laidF W) : Frames W := by
  rw [MakeChecks.laidMetH_plain _ _ _ (by kernel_rfl)] at h
  obtain ⟨ps, ⟨g', t', cs, fuel, p, q, hg', ht', hvar, hd, _, _⟩, _⟩ := h
  obtain rfl := Option.some.inj (gFrames.symm.trans hg')
  obtain rfl := Option.some.inj (tFrames.symm.trans ht')
  obtain ⟨xs, m, _, hx, hl, hn, hall⟩ := DataW.trod_array Tryz.underlying78 hd
  rw [cTabf] at hl
  rw [cRowf] at hall
  have hm : xs.map (·.1) = frameD := by
    have h1 : DataW.agg frameD = DataW.agg (xs.map (·.1)) := congrArg Prod.fst hx
    injection h1 with h1
    exact h1.symm
  have hrow : ∀ i, i < 4 → ∃ x, xs[i]? = some x ∧ DataW.trod (fun _ => ()) Tryz.prog W 0 (fun _ => true) false m 77 ((cs.toList.drop (i * 3)).take 3) = some x := by
    intro i hi
    have := hall i hi
    rw [List.getElem?_eq_getElem (by omega)] at this
    exact ⟨_, List.getElem?_eq_getElem (by omega), this⟩
  have hat : ∀ (i : Nat) (x : DataW Unit × List MemPlace), xs[i]? = some x → (xs.map (·.1))[i]? = some x.1 := fun i x e => by rw [List.getElem?_map, e]; rfl
  rw [hm] at hat
  have hc : ∀ j, j < 12 → W.cell? ⟨0, j, none⟩ = frameC[j]? := by
    intro j hj
    have hv := World.var?_cell gFrames hvar j
    rw [hv]
    have key : ∀ i, i < 4 → ∀ k, k < 3 → cs.toList[i * 3 + k]? = ((cs.toList.drop (i * 3)).take 3)[k]? := fun i hi k hk => by
      rw [List.getElem?_take_of_lt hk, List.getElem?_drop]
    obtain ⟨x0, a0, b0⟩ := hrow 0 (by decide)
    obtain ⟨x1, a1, b1⟩ := hrow 1 (by decide)
    obtain ⟨x2, a2, b2⟩ := hrow 2 (by decide)
    obtain ⟨x3, a3, b3⟩ := hrow 3 (by decide)
    have c0 := row_cellsf (a := 3) (b := [91]) (c := [93]) b0 (Option.some.inj (hat 0 x0 a0)).symm
    have c1 := row_cellsf (a := 4) (b := [104, 40]) (c := [41]) b1 (Option.some.inj (hat 1 x1 a1)).symm
    have c2 := row_cellsf (a := 5) (b := [109, 40]) (c := [41]) b2 (Option.some.inj (hat 2 x2 a2)).symm
    have c3 := row_cellsf (a := 6) (b := [115, 40]) (c := [41]) b3 (Option.some.inj (hat 3 x3 a3)).symm
    have hj' : j = j / 3 * 3 + j % 3 := by omega
    rw [← Array.getElem?_toList, hj', key (j / 3) (by omega) (j % 3) (by omega)]
    have hi : j / 3 < 4 := by omega
    have hk : j % 3 < 3 := by omega
    generalize j / 3 = i at *
    generalize j % 3 = k at *
    match i, hi, k, hk with
    | 0, _, k, hk => rw [c0]; match k, hk with | 0, _ => rfl | 1, _ => rfl | 2, _ => rfl
    | 1, _, k, hk => rw [c1]; match k, hk with | 0, _ => rfl | 1, _ => rfl | 2, _ => rfl
    | 2, _, k, hk => rw [c2]; match k, hk with | 0, _ => rfl | 1, _ => rfl | 2, _ => rfl
    | 3, _, k, hk => rw [c3]; match k, hk with | 0, _ => rfl | 1, _ => rfl | 2, _ => rfl
  exact ⟨World.block_lt_of_cell? _ _ (hc 0 (by decide)), hc⟩
theorem door_metF (os : Os) (args : Array Value) : laidMetH Tryz.prog laidF ((World.doorLaid Tryz.prog 400 os).forCall (fun _ _ => 0) ⟨#[], args, []⟩).memory :=
  laidMetH_of_parts3 (fuel := 8) (laidMet_of_run' 8 (by kernel_rfl) (by kernel_rfl)) (by kernel_rfl) (by kernel_rfl)
end Go.Proofs.YtiehhlolhhjgpaaGreatDoor.Pl
