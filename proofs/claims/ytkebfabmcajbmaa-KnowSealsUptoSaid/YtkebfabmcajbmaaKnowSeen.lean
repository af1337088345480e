/- Who has seen some texts: what a statement of layer 10 begins with. -/
import Derived.Test.YtkebfabmcajbmaaKnowOwn10
import Derived.Test.YtkebfabmcajbmaaKnowLong
import Derived.Test.YtkebfabmcajbmaaKnowSeenP
namespace Go.Proofs.Ytkebfabmcajbmaa.Pl
open Go.RowKit

set_option maxHeartbeats 2000000 in
set_option maxRecDepth 100000 in
theorem seen10_any (l : List ByteArray) (ao : Option Addr) (cap : Nat) (hlen : l.length ≤ 1000000) (hl : ((l.map bl).map List.length).sum ≤ 6000) (w : World) (hrow : TxtRow w ao l) (hM : MX w) :
    Calls Try.prog 7 #[.slice ao l.length cap] w fun e w' => (∃ p F, e = .returned (.pointer (some ⟨p, 0, none⟩)) ∧ KnowAt w' F p (learns [] (l.map bl)) ∧ ∀ b, F b → w.heap.size ≤ b) ∧ Below w.heap.size w w' := by
  have HR := Lib.hid hrow
  have HMX := Lib.hid hM
  have HST : Hid (∀ k, (hk : k < l.length) → (learnE (learns [] ((l.map bl).take k)) (bl l[k]) = 0 ↔ checkP (bl l[k]) = 0) ∧ learnH (learns [] ((l.map bl).take k)) (bl l[k]) = learns [] ((l.map bl).take (k + 1)) ∧ l[k].size ≤ 6000) := Lib.hid (fun k hk => by
    have hk' : k < (l.map bl).length := by rw [List.length_map]; exact hk
    have e : (l.map bl)[k] = bl l[k] := by simp
    refine ⟨by rw [← e]; exact learn_step hl hk', by rw [List.take_succ_eq_append_getElem hk', learns_snoc, e], ?_⟩
    rw [← bl_length, ← e]
    have h2 := sum_front (l.map bl) (k + 1)
    rw [List.take_succ_eq_append_getElem hk', List.map_append, List.sum_append] at h2
    simp only [List.map_cons, List.map_nil, List.sum_cons, List.sum_nil] at h2
    omega)
  obtain ⟨n, hn⟩ : ∃ n, n = l.length := ⟨_, rfl⟩
  have HN := Lib.hid hn
  rw [← hn] at hlen ⊢
  clear hrow hn hl hM
  go_enter Try.func7, Try.ntmps7
  go_wp2_with fail
  refine (know_new _).mono ?_; rintro e w1 ⟨⟨p, F, rfl, hk0, hF⟩, b1⟩
  have K1 := Lib.hid hk0
  have F1 := Lib.hid hF
  have B1 := Lib.hid b1
  clear hk0 hF b1
  go_wp2_with fail
  go_loopw [4] (fun iv wr => ∃ (k : Nat) (F : Nat → Prop), iv = .int .i64 k ∧ k ≤ n ∧ Hid (KnowAt wr F p (learns [] ((l.map bl).take k))) ∧ Hid (∀ b, F b → w.heap.size ≤ b) ∧ Hid (Below w.heap.size w wr)) (fun iv _ => n - (intOf iv).toNat)
  case atStart => exact ⟨0, F, rfl, Nat.zero_le _, K1, F1, B1⟩
  case round =>
    clear K1 F1 B1
    obtain ⟨k, F, rfl, hkn, hkk, hF, hb⟩ := hrel
    by_cases hk : k < n
    · have hk' : (k : Int) < (n : Int) := by omega
      have hkl : k < l.length := by rw [← HN.out]; exact hk
      rcases HR.out.below hb.out with e | ⟨g, off, rfl, hlt, hc⟩
      · exfalso
        rw [e] at hkl
        exact absurd hkl (Nat.not_lt_zero _)
      have ck := hc k hkl
      have eg : l.getD k ByteArray.empty = l[k] := by simp [List.getD_eq_getElem?_getD, hkl]
      rw [eg] at ck
      obtain ⟨s1, s2, s3⟩ := HST.out k hkl
      have HS1 := Lib.hid s1
      have HL := Lib.hid (know_learn F p _ l[k] (by omega) wr hkk.out (HMX.out.step hb.out))
      rw [s2] at HL
      have HC := Lib.hid (fun V => check_any10 l[k] (by omega) V)
      have HCK : Hid (∀ V, Below w.heap.size w V → V.cell? ⟨g, off + k, none⟩ = some (.string l[k])) := Lib.hid (fun V hV => by
        rcases HR.out.below hV with e | ⟨g', off', e, _, hc'⟩
        · exfalso
          rw [e] at hkl
          exact absurd hkl (Nat.not_lt_zero _)
        · cases e
          rw [← eg]
          exact hc' k hkl)
      generalize l[k] = x at *
      generalize learnE (learns [] ((l.map bl).take k)) (bl x) = E at *
      generalize checkP (bl x) = C at *
      clear hc hlt eg s1 s2 s3
      by_cases hC : C = 0
      · subst hC
        obtain rfl : E = 0 := HS1.out.2 rfl
        go_wp2_with fail
        refine HL.out.mono ?_; rintro e w2 ⟨rfl, ⟨F2, hk2, hF2⟩, ht⟩
        have K2 := Lib.hid hk2
        have B2 := Lib.hid (hb.out.trans (turn_to ht hF.out hb.out.size))
        have FF2 : Hid (∀ b, F2 b → w.heap.size ≤ b) := Lib.hid (fun b hb2 => (hF2 b hb2).elim (hF.out b) (fun h => Nat.le_trans hb.out.size h))
        have ck2 := HCK.out w2 B2.out
        clear hk2 hF2 ht ck
        go_wp2_with fail
        refine (HC.out _).mono ?_; rintro e w3 ⟨rfl, b3⟩
        have K3 := Lib.hid (K2.out.kept b3.size (fun b hlt _ => b3.block b hlt))
        have B3 := Lib.hid (below_step B2.out b3)
        clear b3 ck2
        go_wp2_with fail
        go_roundw
        case rel => exact ⟨k + 1, F2, by go_num, by omega, K3, FF2, B3⟩
        case measure => simp [intOf]; omega
      · have hE : E ≠ 0 := fun e => hC (HS1.out.1 e)
        have q1 : ((C : Int) == 0) = false := by rw [beq_eq_false_iff_ne]; omega
        have q2 : ((E : Int) == 0) = false := by rw [beq_eq_false_iff_ne]; omega
        go_wp2_with fail
        refine HL.out.mono ?_; rintro e w2 ⟨rfl, ⟨F2, hk2, hF2⟩, ht⟩
        have K2 := Lib.hid hk2
        have B2 := Lib.hid (hb.out.trans (turn_to ht hF.out hb.out.size))
        have FF2 : Hid (∀ b, F2 b → w.heap.size ≤ b) := Lib.hid (fun b hb2 => (hF2 b hb2).elim (hF.out b) (fun h => Nat.le_trans hb.out.size h))
        have ck2 := HCK.out w2 B2.out
        clear hk2 hF2 ht ck
        go_wp2_with fail
        refine (HC.out _).mono ?_; rintro e w3 ⟨rfl, b3⟩
        have K3 := Lib.hid (K2.out.kept b3.size (fun b hlt _ => b3.block b hlt))
        have B3 := Lib.hid (below_step B2.out b3)
        clear b3 ck2
        go_wp2_with fail
        go_roundw
        case rel => exact ⟨k + 1, F2, by go_num, by omega, K3, FF2, B3⟩
        case measure => simp [intOf]; omega
    · obtain rfl : k = n := by omega
      have HK : Hid (KnowAt wr F p (learns [] (l.map bl))) := Lib.hid (by
        have := hkk.out
        rwa [List.take_of_length_le (by rw [List.length_map, HN.out]; exact Nat.le_refl _)] at this)
      clear hk hkn
      go_wp2_with fail
      go_ret
      exact ⟨⟨p, F, rfl, HK.out, hF.out⟩, hb.out⟩
end Go.Proofs.Ytkebfabmcajbmaa.Pl
