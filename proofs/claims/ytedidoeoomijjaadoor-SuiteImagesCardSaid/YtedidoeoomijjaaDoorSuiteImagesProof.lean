/- SuiteImages: for any master, any name and any three texts the law answers true, and its arguments read afterwards as before, where the table of 64 numbers is laid as the program lays it. No further conditions. -/
import Derived.Test.YtedidoeoomijjaaDoorRows
import Derived.Test.YtedidoeoomijjaaDoorCards
import Derived.Test.YtedidoeoomijjaaDoorTie
import Derived.Test.YtedidoeoomijjaaDoorSuiteImagesLaw
import Derived.Test.YtedidoeoomijjaaDoorSuiteD3
import Derived.Test.YtedidoeoomijjaaDoorSuiteD1
import Derived.SevenTiedAt
namespace Go.Proofs.YtedidoeoomijjaaDoor.suiteImages
open Go.ChangeShapes Go.WideShapes Go.ChangeAt Go.RowKit
open Go.ChangeMaps (open_string)

theorem own : ownKnob Tryd.prog.godebug = none := by kernel_rfl
theorem laidOut : laidOutB Tryd.prog = true := by kernel_rfl

set_option maxRecDepth 100000 in
theorem contract (H : Type) (enc : TypeId × Value → H) (W : World) (base : Nat) (args : Array Value) (ds gs : List (DataW H)) (before : List MemPlace)
    (hval : ∀ (j : Nat) t v, Tryd.f6.params[j]? = some t → args[j]? = some v → Value.okWide Tryd.prog W .any base t v)
    (hW : DataW.Whole enc Tryd.prog Tryd.f6.params.toList Rows.suiteImagesSpec.vars false W args.toList ds gs before) (hL : Pl.Tab W) :
    Calls Tryd.prog 6 args W fun e W' => ∃ v, e = .returned v ∧ Rows.suiteImagesSpec.post enc Tryd.prog Tryd.f6 false true false false W args v W' := by
  have hW' := hW
  obtain ⟨p, q, hA0, hV, rfl, _, _⟩ := hW'
  have hA : DataW.TrodAll enc Tryd.prog W 0 (fun _ => true) true Tryd.f6.params.toList args.toList ds p := hA0
  rw [Tryd.params6] at hA hval
  obtain ⟨v0, vs0, d0, ds0, p0, q0, hargs, rfl, rfl, h0, g0⟩ := trodAll_cons hA
  obtain ⟨v1, vs1, d1, ds1, p1, q1, rfl, rfl, rfl, h1, g1⟩ := trodAll_cons g0
  obtain ⟨v2, vs2, d2, ds2, p2, q2, rfl, rfl, rfl, h2, g2⟩ := trodAll_cons g1
  obtain ⟨v3, vs3, d3, ds3, p3, q3, rfl, rfl, rfl, h3, g3⟩ := trodAll_cons g2
  obtain ⟨v4, vs4, d4, ds4, p4, q4, rfl, rfl, rfl, h4, g4⟩ := trodAll_cons g3
  obtain ⟨rfl, rfl, rfl⟩ := trodAll_nil g4
  obtain rfl : args = #[v0, v1, v2, v3, v4] := by cases args; simp_all
  obtain ⟨rfl, rfl⟩ := trodVars_none hV
  obtain ⟨a0, rfl, rfl, rfl, r0⟩ := open_string Tryd.underlying9 (hval 0 _ v0 rfl rfl) h0
  unfold maxLen at r0
  obtain ⟨a1, rfl, rfl, rfl, r1⟩ := open_string Tryd.underlying9 (hval 1 _ v1 rfl rfl) h1
  unfold maxLen at r1
  obtain ⟨a2, rfl, rfl, rfl, r2⟩ := open_string Tryd.underlying9 (hval 2 _ v2 rfl rfl) h2
  unfold maxLen at r2
  obtain ⟨a3, rfl, rfl, rfl, r3⟩ := open_string Tryd.underlying9 (hval 3 _ v3 rfl rfl) h3
  unfold maxLen at r3
  obtain ⟨a4, rfl, rfl, rfl, r4⟩ := open_string Tryd.underlying9 (hval 4 _ v4 rfl rfl) h4
  unfold maxLen at r4
  refine (Pl.suiteimages_any a0 a1 a2 a3 a4 W hL).mono fun e W' ⟨he, hg⟩ => ?_
  exact ⟨_, he, Pl.law_post laidOut (by kernel_rfl) Tryd.underlying4 (by kernel_rfl) rfl hW hg rfl rfl rfl⟩

set_option maxRecDepth 100000 in
theorem lifted (os : Os) (started : os.Started) (H : Type) (enc : TypeId × Value → H) :
    ReturnsInHanded {} Tryd.checked os 6 .any (fun w args => (Rows.suiteImagesSpec.pre enc Tryd.prog Tryd.f6 [] false w args ∧ laidMetH Tryd.prog Pl.laidK w) ∧ sizedMet enc Tryd.prog Tryd.f6 (OpenSpec.ofChange Rows.suiteImagesSpec) false w args)
      (Rows.suiteImagesSpec.post enc Tryd.prog Tryd.f6 false true false false) := by
  refine returnsInHanded_of_change_and (C := Tryd.checked) (X := fun w _ => laidMetH Tryd.prog Pl.laidK w) (fun _ _ _ hh h => h.of_heap hh) own started (by kernel_rfl) Tryd.func6
    (ChangeSpec.witness_shaped (enc := enc) (C := Tryd.checked) (os := os) (X := fun w _ => laidMetH Tryd.prog Pl.laidK w) false (World.doorLaid Tryd.prog 400 os) #[.string ⟨#[]⟩, .string ⟨#[]⟩, .string ⟨#[]⟩, .string ⟨#[]⟩, .string ⟨#[]⟩] 8 rfl (World.shaped_of_RefB (by kernel_rfl) (by kernel_rfl)) (by kernel_rfl) (by kernel_rfl) (by kernel_rfl) (Pl.door_met os _)) ?_
  intro W base args ds gs before hval hW _ _ hL _
  exact contract H enc W base args ds gs before hval hW (Pl.laid_tab hL)

theorem proved : Rows.SuiteImagesSaid :=
  OpenClaim.holds_of_wide 6 Tryd.f6 rfl rfl rfl rfl rfl rfl rfl ⟨rfl, rfl, rfl, rfl, rfl⟩ rfl rfl rfl rfl rfl (by kernel_rfl) Tryd.func6 (by kernel_rfl)
    (of_decide_eq_true (by kernel_rfl)) (by unfold Func.isWrapper; first | (rw [if_pos (by decide +kernel)]; kernel_rfl) | (rw [if_neg (by decide +kernel)]; exact ⟨rfl, rfl⟩))
    (fun os started H enc _ => lifted os started H enc)

theorem card : Rows.SuiteImagesCardSaid :=
  Claim7.holds_tied_plain_at .later [] [.data] true _ true
    proved (fun _ h => by cases h) (by kernel_rfl) (fun _ h => by cases h) suiteImages_row_tie rfl ⟨rfl, rfl⟩ (by kernel_rfl) rfl
    (fun f fn hf hfn => by
      obtain rfl : f = 6 := Option.some.inj ((show Tryd.prog.funcNamed "chirograph/chirographlaw08.SuiteImages" = some 6 by kernel_rfl).symm.trans hf) |>.symm
      obtain rfl : fn = Tryd.f6 := (Option.some.inj (Tryd.func6.symm.trans hfn)).symm
      exact ⟨by kernel_rfl, fun j t ht => by
        rw [Tryd.params6] at ht
        have hm : t ∈ [9, 9, 9, 9, 9] := by simpa using Array.mem_of_getElem? ht
        have hall : ([9, 9, 9, 9, 9].all fun u => !Tryd.prog.wantsStandIn u) = true := by kernel_rfl
        exact (show Tryd.prog.wantsStandIn t = false by simpa using List.all_eq_true.1 hall t hm)⟩)
    (by kernel_rfl)
end Go.Proofs.YtedidoeoomijjaaDoor.suiteImages
