/- What the document's Can of layer 10 answers of who has seen some texts. -/
import Derived.Test.YtkebfabmcajbmaaGreatKnowRefE
namespace Go.Proofs.YtkebfabmcajbmaaGreat.Pl
open Go.RowKit

open Classical in
noncomputable def canPB (H : List (List UInt8)) (s : List UInt8) : Bool := decide (canP H s)
open Classical in
theorem canPB_iff {H : List (List UInt8)} {s : List UInt8} : canPB H s = true ↔ canP H s := by unfold canPB; exact decide_eq_true_iff
theorem canPB_no {H : List (List UInt8)} {s : List UInt8} (h : ¬ canP H s) : canPB H s = false := by
  rw [← Bool.not_eq_true, canPB_iff]
  exact h
theorem canPB_same {H K : List (List UInt8)} (h : ∀ s, checkP s = 0 → (s ∈ H ↔ s ∈ K)) (s : List UInt8) : canPB H s = canPB K s := by
  rw [Bool.eq_iff_iff, canPB_iff, canPB_iff]
  exact canP_same h s
set_option maxHeartbeats 1000000 in
set_option maxRecDepth 100000 in
theorem rcan10_any (G : Nat → Prop) (r : Nat) (H : List (List UInt8)) (t : ByteArray) (ht : t.size ≤ 281474976710656) (w : World) (hr : RefAt w G r H) :
    Calls Tryz.prog 15 #[.pointer (some ⟨r, 0, none⟩), .string t] w fun e w' => e = .returned (.bool (canPB H (bl t))) ∧ Below w.heap.size w w' := by
  have HM := Lib.hid (rmay_any t ht w)
  by_cases hc : checkP (bl t) = 0
  · rw [may_yes hc] at HM
    obtain ⟨T, hT, hTe⟩ := check_iff.1 hc
    obtain ⟨L, ao, cap, hh, hrow, hp, hl, hk, _, _⟩ := hr
    have HC := Lib.hid (fun (V : World) hV => rcan10_at 16 T hT hT.2.1 t hTe.symm r L V hV)
    have hrk : RK w r L := ⟨ao, cap, hh, hrow, by omega⟩
    have HR := Lib.hid hrk
    have he : canB L T = canPB H (bl t) := by
      rw [Bool.eq_iff_iff, canB_iff, canPB_iff, ← hTe, can_cl hT]
      exact isK_can hk T
    rw [he] at HC
    generalize canPB H (bl t) = z at *
    clear hc hT hTe hh hrow hp hl hk hrk he ht
    cases z
    all_goals
      go_enter Tryz.func15, Tryz.ntmps15
      go_wp2_with fail
      refine HM.out.mono ?_; rintro e w1 ⟨rfl, b1⟩
      have B1 := Lib.hid b1
      clear b1
      go_wp2_with fail
      refine (HC.out _ (HR.out.below B1.out)).mono ?_; rintro e w2 ⟨rfl, b2⟩
      have B2 := Lib.hid (below_step B1.out b2)
      clear b2
      go_wp2_with fail
      go_ret
      exact ⟨rfl, B2.out⟩
  · rw [may_no hc] at HM
    rw [canPB_no (fun e => hc (can_check e))]
    clear hc hr ht
    go_enter Tryz.func15, Tryz.ntmps15
    go_wp2_with fail
    refine HM.out.mono ?_; rintro e w1 ⟨rfl, b1⟩
    have B1 := Lib.hid b1
    clear b1
    go_wp2_with fail
    go_ret
    exact ⟨rfl, B1.out⟩
end Go.Proofs.YtkebfabmcajbmaaGreat.Pl
