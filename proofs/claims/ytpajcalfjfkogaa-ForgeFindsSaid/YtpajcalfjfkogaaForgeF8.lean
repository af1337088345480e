/- What the document's row of layer 11 answers: the row of steps' terms. What the document's step of layer 11 answers, where the fields may be: what was seen, data, rows, hashes. -/
import Derived.Test.YtpajcalfjfkogaaForgeF7
namespace Go.Proofs.Ytpajcalfjfkogaa.Pl
open Go.RowKit

theorem below_push11 {W1 w' : World} {B : Nat} {v : Value} {l : List ByteArray} {y : ByteArray} (hown : OwnT W1 B v l) (hB : B ≤ W1.heap.size) (hg : (W1.alloc (.cells #[.string y] 9)).grownBy w' v.ownBlock) : Below B W1 w' :=
  ((Below.refl _ _).alloc hB _).grown hg (by simp; omega) (fun j hj => (hown.lt _ hj).1)
set_option maxHeartbeats 4000000 in
set_option maxRecDepth 100000 in
theorem rrow11_any (l : List ByteArray) (ao : Option Addr) (cap : Nat) (li : List Int) (lo : Option Addr) (lc : Nat) (hx : ∀ x ∈ l, x.size ≤ 16384) (hli : ∀ v ∈ li, 0 ≤ v ∧ v < l.length) (hll : li.length ≤ 9223372036854775807) (w : World) (hrow : TxtRow w ao l) (hrow2 : IntRow w lo li) :
    Calls Try.prog 46 #[.slice ao l.length cap, .slice lo li.length lc] w fun e w' => e = .returned (st2 (rowP ((li.take 33).map (termAt (l.map bl))))) ∧ Below w.heap.size w w' := by
  have HROW := Lib.hid (fun V (hV : Below w.heap.size w V) => hrow.below hV)
  have HROW2 := Lib.hid (fun V (hV : Below w.heap.size w V) => hrow2.below hV)
  obtain ⟨n, hn⟩ : ∃ n, n = l.length := ⟨_, rfl⟩
  obtain ⟨m, hm⟩ : ∃ m, m = li.length := ⟨_, rfl⟩
  have HN := Lib.hid hn
  have HM := Lib.hid hm
  have HLI : Hid (∀ j, (hj : j < li.length) → 0 ≤ li[j] ∧ li[j] < (n : Int)) := Lib.hid (fun j hj => by rw [hn]; exact hli _ (List.getElem_mem hj))
  have HTM : Hid (∀ k, ((li.take k).map fun v => l.getD v.toNat ByteArray.empty).map bl = (li.take k).map (termAt (l.map bl))) := Lib.hid (fun k => by
    rw [List.map_map]
    apply List.map_congr_left
    intro v _
    exact (termAt_map l v).symm)
  have HXX : Hid (∀ k, ∀ x ∈ ((li.take k).map fun v => l.getD v.toNat ByteArray.empty), x.size ≤ 100000) := Lib.hid (fun k x hx2 => by
    obtain ⟨v, hv, rfl⟩ := List.mem_map.1 hx2
    have h1 := hli v (List.mem_of_mem_take hv)
    have := hx _ (getD_mem6 l v.toNat (by omega))
    omega)
  obtain ⟨P, hP⟩ : ∃ P, P = rowP ((li.take 33).map (termAt (l.map bl))) := ⟨_, rfl⟩
  have HP := Lib.hid hP
  rw [← hn, ← hm, ← hP]
  rw [← hm] at hll
  clear hx hli hrow hrow2 hn hm hP
  go_enter Try.func46, Try.ntmps46
  go_wp2_with fail
  go_loopw [6, 7] (fun pv iv wr => ∃ j : Nat, iv = .int .i64 j ∧ j ≤ m ∧ j ≤ 33 ∧ Hid (OwnT wr w.heap.size pv ((li.take j).map fun v => l.getD v.toNat ByteArray.empty)) ∧ Hid (Below w.heap.size w wr)) (fun _ iv _ => m - (intOf iv).toNat)
  case atStart => exact ⟨0, rfl, Nat.zero_le _, Nat.zero_le _, Lib.hid (ownT_nil _ _), Lib.hid (Below.refl _ _)⟩
  case round =>
    obtain ⟨j, rfl, hjm, hj33, hown, hb⟩ := hrel
    by_cases hgo : j < m ∧ j ≤ 32
    · obtain ⟨hj, h32⟩ := hgo
      have hj' : (j : Int) < (m : Int) := by omega
      have h32' : (j : Int) ≤ 32 := by omega
      have hjl : j < li.length := by rw [← HM.out]; exact hj
      rcases HROW2.out _ hb.out with e | ⟨g, off, rfl, hlt, hc⟩
      · exfalso
        rw [e] at hjl
        exact absurd hjl (Nat.not_lt_zero _)
      have cj := hc j hjl
      obtain ⟨hx0, hx1⟩ := HLI.out j hjl
      have HNX : Hid ((li.take (j + 1)).map (fun v => l.getD v.toNat ByteArray.empty) = (li.take j).map (fun v => l.getD v.toNat ByteArray.empty) ++ [l.getD li[j].toNat ByteArray.empty]) := Lib.hid (by
        rw [List.take_succ_eq_append_getElem hjl, List.map_append]
        rfl)
      generalize li[j] = x at *
      obtain ⟨k, rfl⟩ := Int.eq_ofNat_of_zero_le hx0
      rw [Int.toNat_natCast] at HNX
      have hkn : k < n := by omega
      have hkl : k < l.length := by rw [← HN.out]; exact hkn
      rcases HROW.out _ hb.out with e | ⟨g2, off2, rfl, hlt2, hc2⟩
      · exfalso
        rw [e] at hkl
        exact absurd hkl (Nat.not_lt_zero _)
      have ck := hc2 k hkl
      generalize l.getD k ByteArray.empty = t at *
      have HS := Lib.hid hb.out.size
      have HLN : Hid (((li.take j).map (fun v => l.getD v.toNat ByteArray.empty)).length ≤ 1000000000) := Lib.hid (by rw [List.length_map, List.length_take]; omega)
      have HJ : Hid (j + 1 ≤ m ∧ j + 1 ≤ 33) := Lib.hid ⟨hj, by omega⟩
      generalize (li.take j).map (fun v => l.getD v.toNat ByteArray.empty) = D at *
      clear hc hc2 hlt hlt2 hjl hkl
      go_wp2_with (at_builtin; refine wpList_app10 rfl _ _ rfl rfl t rfl rfl hown.out HS.out HLN.out ?_; intro v' w4 ho4 hg4 _; have O4 := Lib.hid ho4; have B4 := Lib.hid (hb.out.trans (below_push11 hown.out HS.out hg4)); clear ho4 hg4)
      go_roundw
      case rel => exact ⟨j + 1, by go_num, HJ.out.1, HJ.out.2, Lib.hid (by rw [HNX.out]; exact O4.out), B4⟩
      case measure => simp [intOf]; omega
    · have htk : (li.take j).map (fun v => l.getD v.toNat ByteArray.empty) = (li.take 33).map (fun v => l.getD v.toNat ByteArray.empty) := by
        have := HM.out
        congr 1
        by_cases e : j = 33
        · rw [e]
        · rw [List.take_of_length_le (by omega), List.take_of_length_le (by omega)]
      have hl33 : ((li.take j).map (fun v => l.getD v.toNat ByteArray.empty)).length ≤ 1000 := by rw [List.length_map, List.length_take]; omega
      have hxx := HXX.out j
      obtain ⟨a6, c6, rfl, hr6⟩ := ownT_row hown.out
      have HR := Lib.hid (rrow6_any _ a6 c6 hl33 hxx wr hr6)
      have HTM2 := Lib.hid (HTM.out 33)
      rw [htk] at HR hown
      rw [HTM2.out, ← HP.out] at HR
      rw [htk]
      generalize ((li.take 33).map (fun v => l.getD v.toNat ByteArray.empty)).length = q at *
      clear htk hl33 hxx hr6
      by_cases hj : j < m
      · have hj' : (j : Int) < (m : Int) := by omega
        have h32 : ¬ (j : Int) ≤ 32 := by omega
        clear hgo
        go_wp2_with fail
        refine HR.out.mono ?_; rintro e w5 ⟨rfl, b5⟩
        have B5 := Lib.hid (below_step hb.out b5)
        unfold st2
        clear b5 HR
        go_wp2_with fail
        go_ret2
        exact ⟨rfl, B5.out⟩
      · have hj' : ¬ (j : Int) < (m : Int) := by omega
        clear hgo
        go_wp2_with fail
        refine HR.out.mono ?_; rintro e w5 ⟨rfl, b5⟩
        have B5 := Lib.hid (below_step hb.out b5)
        unfold st2
        clear b5 HR
        go_wp2_with fail
        go_ret2
        exact ⟨rfl, B5.out⟩
end Go.Proofs.Ytpajcalfjfkogaa.Pl

namespace Go.Proofs.Ytpajcalfjfkogaa.Pl
open Go.RowKit

theorem seenP_step (was l : List (List UInt8)) {s : Stp} (e : s.fn = 1) : stepP was l s = seenP was s.n := step1 was l e
/-- The contract, at a step. -/
def StepC (s : Stp) (lo : Option Addr) (lc : Nat) (was : List ByteArray) (wo : Option Addr) (wc : Nat) (l : List ByteArray) (ao : Option Addr) (cap : Nat) (w : World) : Prop :=
  Calls Try.prog 24 #[.slice wo was.length wc, .slice ao l.length cap, stpV s lo lc] w fun e w' => e = .returned (st2 (stepP (was.map bl) (l.map bl) s)) ∧ Below w.heap.size w w'
set_option maxHeartbeats 4000000 in
set_option maxRecDepth 100000 in
theorem rstep11_seen (s : Stp) (lo : Option Addr) (lc : Nat) (was : List ByteArray) (wo : Option Addr) (wc : Nat) (l : List ByteArray) (ao : Option Addr) (cap : Nat) (hs : ∀ x ∈ was, x.size ≤ 281474976710656) (e : s.fn = 1) (w : World) (hrow : TxtRow w wo was) : StepC s lo lc was wo wc l ao cap w := by
  unfold StepC
  rw [seenP_step _ _ e]
  have HS := Lib.hid (fun V (hV : Below w.heap.size w V) => rseen11_any was wo wc s.n hs V (hrow.below hV))
  obtain ⟨P, hP⟩ : ∃ P, P = seenP (was.map bl) s.n := ⟨_, rfl⟩
  rw [← hP] at HS ⊢
  unfold stpV
  obtain ⟨f, a, b, c, n, tx, li⟩ := s
  simp only at e HS ⊢
  subst e
  have BW : Hid (∀ v, Below w.heap.size w (w.alloc (.cells v 46))) := Lib.hid (fun v => (Below.refl _ _).alloc (Nat.le_refl _) _)
  unfold st2 at HS ⊢
  generalize was.length = m at *
  generalize l.length = q at *
  generalize li.length = r at *
  clear hs hrow hP
  go_enter Try.func24, Try.ntmps24
  go_wp2_with fail
  refine (HS.out _ (BW.out _)).mono ?_; rintro e w1 ⟨rfl, b1⟩
  have B1 := Lib.hid (below_step (BW.out _) b1)
  clear b1 HS
  go_wp2_with fail
  go_ret2
  exact ⟨rfl, B1.out⟩
set_option maxHeartbeats 4000000 in
set_option maxRecDepth 100000 in
theorem rstep11_data (s : Stp) (lo : Option Addr) (lc : Nat) (was : List ByteArray) (wo : Option Addr) (wc : Nat) (l : List ByteArray) (ao : Option Addr) (cap : Nat) (ht : s.text.size ≤ 281474976710656) (e : s.fn = 2) (w : World) : StepC s lo lc was wo wc l ao cap w := by
  unfold StepC
  rw [step2 _ _ e]
  have HS := Lib.hid (fun V => rdata_any s.text ht V)
  obtain ⟨P, hP⟩ : ∃ P, P = dataP (bl s.text) := ⟨_, rfl⟩
  rw [← hP] at HS ⊢
  unfold stpV
  obtain ⟨f, a, b, c, n, tx, li⟩ := s
  simp only at e HS ⊢
  subst e
  have BW : Hid (∀ v, Below w.heap.size w (w.alloc (.cells v 46))) := Lib.hid (fun v => (Below.refl _ _).alloc (Nat.le_refl _) _)
  unfold st2 at HS ⊢
  generalize was.length = m at *
  generalize l.length = q at *
  generalize li.length = r at *
  clear hP ht
  go_enter Try.func24, Try.ntmps24
  go_wp2_with fail
  refine (HS.out _).mono ?_; rintro e w1 ⟨rfl, b1⟩
  have B1 := Lib.hid (below_step (BW.out _) b1)
  clear b1 HS
  go_wp2_with fail
  go_ret2
  exact ⟨rfl, B1.out⟩
set_option maxHeartbeats 4000000 in
set_option maxRecDepth 100000 in
theorem rstep11_row (s : Stp) (lo : Option Addr) (lc : Nat) (was : List ByteArray) (wo : Option Addr) (wc : Nat) (l : List ByteArray) (ao : Option Addr) (cap : Nat) (hx : ∀ x ∈ l, x.size ≤ 16384) (hli : ∀ v ∈ s.list, 0 ≤ v ∧ v < l.length) (hll : s.list.length ≤ 9223372036854775807) (e : s.fn = 6) (w : World) (hrow : TxtRow w ao l) (hrow2 : IntRow w lo s.list) : StepC s lo lc was wo wc l ao cap w := by
  unfold StepC
  rw [step6 _ _ e]
  have HS := Lib.hid (fun V (hV : Below w.heap.size w V) => rrow11_any l ao cap s.list lo lc hx hli hll V (hrow.below hV) (hrow2.below hV))
  obtain ⟨P, hP⟩ : ∃ P, P = rowP ((s.list.take 33).map (termAt (l.map bl))) := ⟨_, rfl⟩
  rw [← hP] at HS ⊢
  unfold stpV
  obtain ⟨f, a, b, c, n, tx, li⟩ := s
  simp only at e HS ⊢
  subst e
  have BW : Hid (∀ v, Below w.heap.size w (w.alloc (.cells v 46))) := Lib.hid (fun v => (Below.refl _ _).alloc (Nat.le_refl _) _)
  unfold st2 at HS ⊢
  clear hx hli hll hrow hrow2 hP
  generalize was.length = m at *
  generalize l.length = q at *
  generalize li.length = r at *
  go_enter Try.func24, Try.ntmps24
  go_wp2_with fail
  refine (HS.out _ (BW.out _)).mono ?_; rintro e w1 ⟨rfl, b1⟩
  have B1 := Lib.hid (below_step (BW.out _) b1)
  clear b1 HS
  go_wp2_with fail
  go_ret2
  exact ⟨rfl, B1.out⟩
theorem term_in {l : List ByteArray} {v : Int} (h : 0 ≤ v ∧ v < l.length) : l.getD v.toNat ByteArray.empty ∈ l := getD_mem6 l _ (by omega)
set_option maxHeartbeats 4000000 in
set_option maxRecDepth 100000 in
theorem rstep11_hash (s : Stp) (lo : Option Addr) (lc : Nat) (was : List ByteArray) (wo : Option Addr) (wc : Nat) (l : List ByteArray) (ao : Option Addr) (cap : Nat) (hx : ∀ x ∈ l, x.size ≤ 16384) (ha : 0 ≤ s.a ∧ s.a < l.length) (e : s.fn = 7) (w : World) (hrow : TxtRow w ao l) : StepC s lo lc was wo wc l ao cap w := by
  unfold StepC
  rw [step7 _ _ e, termAt_map]
  have hsz := hx _ (term_in ha)
  have HS := Lib.hid (fun V => rhash_any (l.getD s.a.toNat ByteArray.empty) (by omega) V)
  obtain ⟨P, hP⟩ : ∃ P, P = madeP [104] [bl (l.getD s.a.toNat ByteArray.empty)] := ⟨_, rfl⟩
  rw [← hP] at HS ⊢
  unfold stpV
  obtain ⟨f, a, b, c, n, tx, li⟩ := s
  simp only at e HS ha ⊢
  subst e
  have BW : Hid (∀ v, Below w.heap.size w (w.alloc (.cells v 46))) := Lib.hid (fun v => (Below.refl _ _).alloc (Nat.le_refl _) _)
  unfold st2 at HS ⊢
  obtain ⟨q, hq⟩ : ∃ q, q = l.length := ⟨_, rfl⟩
  obtain ⟨k, rfl⟩ := Int.eq_ofNat_of_zero_le ha.1
  have hk : k < l.length := by omega
  have hk2 : (k : Int) < (q : Int) := by omega
  have hk3 : k < q := by omega
  rw [← hq]
  rw [Int.toNat_natCast] at HS
  rcases hrow with e | ⟨g, off, rfl, hlt, hc⟩
  · exfalso
    rw [e] at hk
    exact absurd hk (Nat.not_lt_zero _)
  have ck := hc k hk
  simp only [Int.toNat_natCast] at hsz hP
  generalize l.getD k ByteArray.empty = t at *
  clear hx ha hP hsz hc hk hq
  generalize was.length = m at *
  generalize li.length = r at *
  go_enter Try.func24, Try.ntmps24
  go_wp2_with fail
  refine (HS.out _).mono ?_; rintro e w1 ⟨rfl, b1⟩
  have B1 := Lib.hid (below_step (BW.out _) b1)
  clear b1 HS
  go_wp2_with fail
  go_ret2
  exact ⟨rfl, B1.out⟩
end Go.Proofs.Ytpajcalfjfkogaa.Pl
