/- BallotTags: for any kind, any master, any ballot and any text the law answers true, and its arguments read afterwards as before, where the tables of numbers and of letters are laid as the program lays them. No further conditions. -/
import Derived.Test.YtbdlegjklfkdmaaGreatDoorRows
import Derived.Test.YtbdlegjklfkdmaaGreatDoorCards
import Derived.Test.YtbdlegjklfkdmaaGreatDoorTie
import Derived.Test.YtbdlegjklfkdmaaGreatDoorBallC46
import Derived.Test.YtbdlegjklfkdmaaGreatDoorBallC40
import Derived.Test.YtbdlegjklfkdmaaGreatDoorBallC26
import Derived.Test.YtbdlegjklfkdmaaGreatDoorBallC2
import Derived.SevenTiedAt
namespace Go.Proofs.YtbdlegjklfkdmaaGreatDoor.ballotTags
open Go.ChangeShapes Go.WideShapes Go.ChangeAt Go.RowKit
open Go.ChangeMaps (open_string)

theorem own : ownKnob Tryz.prog.godebug = none := by kernel_rfl
theorem laidOut : laidOutB Tryz.prog = true := by kernel_rfl

set_option maxRecDepth 100000 in
theorem contract (H : Type) (enc : TypeId × Value → H) (W : World) (base : Nat) (args : Array Value) (ds gs : List (DataW H)) (before : List MemPlace)
    (hval : ∀ (j : Nat) t v, Tryz.f4.params[j]? = some t → args[j]? = some v → Value.okWide Tryz.prog W .any base t v)
    (hW : DataW.Whole enc Tryz.prog Tryz.f4.params.toList Rows.ballotTagsSpec.vars false W args.toList ds gs before) (hL : Pl.KeyTabs W) :
    Calls Tryz.prog 4 args W fun e W' => ∃ v, e = .returned v ∧ Rows.ballotTagsSpec.post enc Tryz.prog Tryz.f4 false true false false W args v W' := by
  have hW' := hW
  obtain ⟨p, q, hA0, hV, rfl, _, _⟩ := hW'
  have hA : DataW.TrodAll enc Tryz.prog W 0 (fun _ => true) true Tryz.f4.params.toList args.toList ds p := hA0
  rw [Tryz.params4] at hA hval
  obtain ⟨v0, vs0, d0, ds0, p0, q0, hargs, rfl, rfl, h0, g0⟩ := trodAll_cons hA
  obtain ⟨v1, vs1, d1, ds1, p1, q1, rfl, rfl, rfl, h1, g1⟩ := trodAll_cons g0
  obtain ⟨v2, vs2, d2, ds2, p2, q2, rfl, rfl, rfl, h2, g2⟩ := trodAll_cons g1
  obtain ⟨v3, vs3, d3, ds3, p3, q3, rfl, rfl, rfl, h3, g3⟩ := trodAll_cons g2
  obtain ⟨rfl, rfl, rfl⟩ := trodAll_nil g3
  obtain rfl : args = #[v0, v1, v2, v3] := by cases args; simp_all
  obtain ⟨rfl, rfl⟩ := trodVars_none hV
  obtain ⟨a0, rfl, rfl, rfl, w0⟩ := open_int Tryz.underlying5 (hval 0 _ v0 rfl rfl) h0
  have r0 : 0 ≤ a0 ∧ a0 ≤ 255 := by simpa [Lit.wf, IntKind.min, IntKind.max, IntKind.signed, IntKind.bits] using w0
  obtain ⟨x0, rfl⟩ := Int.eq_ofNat_of_zero_le r0.1
  obtain ⟨a1, rfl, rfl, rfl, r1⟩ := open_string Tryz.underlying9 (hval 1 _ v1 rfl rfl) h1
  unfold maxLen at r1
  obtain ⟨a2, o2, c2, rfl, s2, z2, l2⟩ := Pl.open_ballot (hval 2 _ v2 rfl rfl) h2
  obtain ⟨a3, rfl, rfl, rfl, r3⟩ := open_string Tryz.underlying9 (hval 3 _ v3 rfl rfl) h3
  unfold maxLen at r3
  refine (Pl.ballottags_any x0 a1 a2 a3 o2 c2 W hL s2 l2).mono fun e W' ⟨he, hg⟩ => ?_
  exact ⟨_, he, Pl.law_post laidOut (by kernel_rfl) Tryz.underlying4 (by kernel_rfl) rfl hW hg rfl rfl rfl⟩

set_option maxRecDepth 100000 in
theorem lifted (os : Os) (started : os.Started) (H : Type) (enc : TypeId × Value → H) :
    ReturnsInHanded {} Tryz.checked os 4 .any (fun w args => (Rows.ballotTagsSpec.pre enc Tryz.prog Tryz.f4 [] false w args ∧ laidMetH Tryz.prog Pl.laidT13 w) ∧ sizedMet enc Tryz.prog Tryz.f4 (OpenSpec.ofChange Rows.ballotTagsSpec) false w args)
      (Rows.ballotTagsSpec.post enc Tryz.prog Tryz.f4 false true false false) := by
  refine returnsInHanded_of_change_and (C := Tryz.checked) (X := fun w _ => laidMetH Tryz.prog Pl.laidT13 w) (fun _ _ _ hh h => h.of_heap hh) own started (by kernel_rfl) Tryz.func4
    (ChangeSpec.witness_shaped (enc := enc) (C := Tryz.checked) (os := os) (X := fun w _ => laidMetH Tryz.prog Pl.laidT13 w) false (World.doorLaid Tryz.prog 400 os) #[.int .u8 0, .string ⟨#[]⟩, .agg #[.int .i64 0, .int .i64 0, .int .i64 0, .int .i64 0, .slice none 0 0, .int .i64 0], .string ⟨#[]⟩] 8 rfl (World.shaped_of_RefB (by kernel_rfl) (by kernel_rfl)) (by kernel_rfl) (by kernel_rfl) (by kernel_rfl) (Pl.door_met13 os _)) ?_
  intro W base args ds gs before hval hW _ _ hL _
  exact contract H enc W base args ds gs before hval hW (Pl.laid_13 hL)

theorem proved : Rows.BallotTagsSaid :=
  OpenClaim.holds_of_wide 4 Tryz.f4 rfl rfl rfl rfl rfl rfl rfl ⟨rfl, rfl, rfl, rfl, rfl⟩ rfl rfl rfl rfl rfl (by kernel_rfl) Tryz.func4 (by kernel_rfl)
    (of_decide_eq_true (by kernel_rfl)) (by unfold Func.isWrapper; first | (rw [if_pos (by decide +kernel)]; kernel_rfl) | (rw [if_neg (by decide +kernel)]; exact ⟨rfl, rfl⟩))
    (fun os started H enc _ => lifted os started H enc)

theorem card : Rows.BallotTagsCardSaid :=
  Claim7.holds_tied_plain_at .later [] [.data, .data] true _ true
    proved (fun _ h => by cases h) (by kernel_rfl) (fun _ h => by cases h) ballotTags_row_tie rfl ⟨rfl, rfl⟩ (by kernel_rfl) rfl
    (fun f fn hf hfn => by
      obtain rfl : f = 4 := Option.some.inj ((show Tryz.prog.funcNamed "chirograph/chirographlaw13.BallotTags" = some 4 by kernel_rfl).symm.trans hf) |>.symm
      obtain rfl : fn = Tryz.f4 := (Option.some.inj (Tryz.func4.symm.trans hfn)).symm
      exact ⟨by kernel_rfl, fun j t ht => by
        rw [Tryz.params4] at ht
        have hm : t ∈ [5, 9, 26, 9] := by simpa using Array.mem_of_getElem? ht
        have hall : ([5, 9, 26, 9].all fun u => !Tryz.prog.wantsStandIn u) = true := by kernel_rfl
        exact (show Tryz.prog.wantsStandIn t = false by simpa using List.all_eq_true.1 hall t hm)⟩)
    (by kernel_rfl)
end Go.Proofs.YtbdlegjklfkdmaaGreatDoor.ballotTags
