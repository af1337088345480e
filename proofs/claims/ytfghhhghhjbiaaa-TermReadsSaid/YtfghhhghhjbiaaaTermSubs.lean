/- What the document's Subs of layer 6 answers: what stands at the places, each once, in order. -/
import Derived.Test.YtfghhhghhjbiaaaTermAsks
namespace Go.Proofs.Ytfghhhghhjbiaaa.Pl
open Go.RowKit

open Classical in
noncomputable def onceF (out : List ByteArray) (x : ByteArray) : List ByteArray := if x ∈ out then out else out ++ [x]
noncomputable def onceT (l : List ByteArray) : List ByteArray := l.foldl onceF []
theorem mem_bl {x : ByteArray} {l : List ByteArray} : bl x ∈ l.map bl ↔ x ∈ l := by
  rw [List.mem_map]
  constructor
  · rintro ⟨y, hy, e⟩
    rw [← bl_inj e]; exact hy
  · intro h
    exact ⟨x, h, rfl⟩
theorem once_map_from (l acc : List ByteArray) : (l.foldl onceF acc).map bl = (l.map bl).foldl (fun out x => if x ∈ out then out else out ++ [x]) (acc.map bl) := by
  induction l generalizing acc with
  | nil => rfl
  | cons x l ih =>
    rw [List.map_cons, List.foldl_cons, List.foldl_cons, ih]
    congr 1
    unfold onceF
    by_cases h : x ∈ acc
    · rw [if_pos h, if_pos (mem_bl.2 h)]
    · rw [if_neg h, if_neg (fun k => h (mem_bl.1 k)), List.map_append]; rfl
theorem once_map (l : List ByteArray) : (onceT l).map bl = onceL (l.map bl) := once_map_from l []
theorem once_len_from (l acc : List ByteArray) : (l.foldl onceF acc).length ≤ acc.length + l.length := by
  induction l generalizing acc with
  | nil => simp
  | cons x l ih =>
    rw [List.foldl_cons]
    have h := ih (onceF acc x)
    have h2 : (onceF acc x).length ≤ acc.length + 1 := by
      unfold onceF
      by_cases h : x ∈ acc
      · rw [if_pos h]; omega
      · rw [if_neg h, List.length_append, List.length_singleton]; omega
    rw [List.length_cons]
    omega
theorem once_len (l : List ByteArray) : (onceT l).length ≤ l.length := by have := once_len_from l []; simp at this; exact this
theorem once_take (l : List ByteArray) (k : Nat) (h : k < l.length) : onceT (l.take (k + 1)) = onceF (onceT (l.take k)) (l.getD k ByteArray.empty) := by
  unfold onceT
  rw [List.take_succ_eq_append_getElem h, List.foldl_append, List.foldl_cons, List.foldl_nil]
  simp [List.getD_eq_getElem?_getD, h]
theorem onceF_yes {o : List ByteArray} {x : ByteArray} (h : x ∈ o) : onceF o x = o := if_pos h
theorem onceF_no {o : List ByteArray} {x : ByteArray} (h : ¬ x ∈ o) : onceF o x = o ++ [x] := if_neg h

set_option maxHeartbeats 4000000 in
set_option maxRecDepth 100000 in
theorem rsubs_any (s : ByteArray) (hs : s.size ≤ 281474976710656) (w : World) :
    Calls Try.prog 47 #[.string s] w fun e w' => ∃ (v : Value) (L : List ByteArray), e = .returned v ∧ OwnT w' w.heap.size v L ∧ L.map bl = onceL (placesP (bl s)) ∧ Below w.heap.size w w' := by
  have HM := Lib.hid (rmay_any s hs w)
  by_cases hc : checkP (bl s) = 0
  · rw [may_yes hc] at HM
    obtain ⟨i0, hi, hz0, hz1, hz2⟩ := info_parts infoStr
    have HI := Lib.hid hi
    obtain ⟨t, tv, te, tr⟩ := tree_of hc
    have HP := Lib.hid (fun V => rplaces_any t tv s te V)
    have hpl : placesP (bl s) = (t.places.map tx).map bl := by unfold placesP; rw [tr, map_bl_tx]
    have hlen : (t.places.map tx).length ≤ 16384 := by
      rw [List.length_map]
      have h1 := places_count t tv.1
      have h2 := tv.2.2
      omega
    obtain ⟨P, hP⟩ : ∃ P, P = t.places.map tx := ⟨_, rfl⟩
    rw [← hP] at HP hpl hlen
    have HE : Hid ((onceT P).map bl = onceL (placesP (bl s))) := Lib.hid (by rw [hpl, once_map])
    generalize onceL (placesP (bl s)) = Z at *
    obtain ⟨n, hn⟩ : ∃ n, n = P.length := ⟨_, rfl⟩
    have HN := Lib.hid hn
    have hPl : P.length = n := hn.symm
    rw [← hn] at hlen
    have HOL : Hid (∀ k, (onceT (P.take k)).length ≤ n) := Lib.hid (fun k => Nat.le_trans (once_len _) (by rw [List.length_take]; omega))
    have HTK : Hid (∀ k, k < n → onceT (P.take (k + 1)) = onceF (onceT (P.take k)) (P.getD k ByteArray.empty)) := Lib.hid (fun k hk => once_take P k (by omega))
    clear hc tv te tr hs hpl hP hn hi
    go_enter Try.func47, Try.ntmps47
    go_wp2_with fail
    refine HM.out.mono ?_; rintro e w1 ⟨rfl, b1⟩
    have B1 := Lib.hid b1
    clear b1
    go_wp2_with fail
    refine (HP.out w1).mono ?_; rintro e w2 ⟨v, rfl, ho, b2⟩
    have B2 := Lib.hid (below_step B1.out b2)
    obtain ⟨ao, cap, rfl, hrow⟩ := ownT_row ho
    have R2 := Lib.hid hrow
    rw [hPl]
    clear b2 ho hrow
    go_wp2_with fail
    go_loopw [3, 5] (fun v iv wr => ∃ k : Nat, iv = .int .i64 k ∧ k ≤ n ∧ Hid (OwnT wr w.heap.size v (onceT (P.take k))) ∧ Hid (ApartV v ao) ∧ Hid (TxtRow wr ao P) ∧ Hid (Below w.heap.size w wr)) (fun _ iv _ => n - (intOf iv).toNat)
    case atStart => exact ⟨0, rfl, Nat.zero_le _, Lib.hid (by simp only [List.take_zero]; exact ownT_nil _ _), Lib.hid (fun b off e h3 => by cases h3), R2, B2⟩
    case round =>
      obtain ⟨k, rfl, hkn, hown, hap, hrow, hb⟩ := hrel
      by_cases hk : k < n
      · have hk' : (k : Int) < (n : Int) := by omega
        rcases hrow.out with e | ⟨b, off, rfl, hlt, hc⟩
        · exfalso; rw [e] at hPl; simp at hPl; omega
        have ck := hc k (by omega)
        have HT := Lib.hid (HTK.out k hk)
        have hol := HOL.out k
        obtain ⟨O, hO⟩ : ∃ O, O = onceT (P.take k) := ⟨_, rfl⟩
        obtain ⟨O', hO'⟩ : ∃ O', O' = onceT (P.take (k + 1)) := ⟨_, rfl⟩
        rw [← hO] at hown HT hol
        rw [← hO'] at HT
        have HO' := Lib.hid hO'
        obtain ⟨ao2, cap2, rfl, hr2⟩ := ownT_row hown.out
        obtain ⟨y, hy⟩ : ∃ y, y = P.getD k ByteArray.empty := ⟨_, rfl⟩
        rw [← hy] at ck HT
        have HCK : Hid (∀ V, TxtRow V (some ⟨b, off, none⟩) P → V.cell? ⟨b, off + k, none⟩ = some (.string y)) := Lib.hid (fun V h => by
          rcases h with e | ⟨b', off', e, _, h2⟩
          · exfalso; rw [e] at hPl; simp at hPl; omega
          · cases e
            rw [hy]; exact h2 k (by omega))
        by_cases hm : y ∈ O
        · have HC := Lib.hid (rin_any O ao2 cap2 (by omega) y wr hr2 true (by simp [hm]))
          have HT2 : Hid (O' = O) := Lib.hid (by rw [HT.out, onceF_yes hm])
          clear hc hm hO hO' hy hr2
          go_wp2_with fail
          refine HC.out.mono ?_; rintro e w3 ⟨rfl, b3⟩
          have B3 := Lib.hid (below_step hb.out b3)
          have O3 := Lib.hid (ownT_below hown.out b3)
          have R3 := Lib.hid (hrow.out.below b3)
          clear b3
          go_wp2_with fail
          go_roundw
          case rel => exact ⟨k + 1, by go_num, by omega, Lib.hid (by rw [← HO'.out, HT2.out]; exact O3.out), hap, R3, B3⟩
          case measure => simp [intOf]; omega
        · have HC := Lib.hid (rin_any O ao2 cap2 (by omega) y wr hr2 false (by simp [hm]))
          have HT2 : Hid (O' = O ++ [y]) := Lib.hid (by rw [HT.out, onceF_no hm])
          clear hc hm hO hO' hy hr2
          go_wp2_with fail
          refine HC.out.mono ?_; rintro e w3 ⟨rfl, b3⟩
          have B3 := Lib.hid (below_step hb.out b3)
          have O3 := Lib.hid (ownT_below hown.out b3)
          have R3 := Lib.hid (hrow.out.below b3)
          have HSZ := Lib.hid (Nat.le_trans hb.out.size b3.size)
          have HWR := Lib.hid b3.size
          have ck3 := HCK.out w3 R3.out
          clear b3
          go_wp2_with (at_builtin; refine wpList_append_own_at _ rfl _ _ 27 rfl w.heap.size 9 i0 (.string ⟨#[]⟩) 1 16 Try.underlying27 HI.out hz0 hz1 hz2 rfl (by decide) _ _ _ rfl (World.ownsRow.alloc O3.out _) ⟨w3.heap.size, 0, none⟩ 1 1 [.string y] rfl rfl ?c1 ?c2 ?c3 ?c4 ?c5 ?_)
          case c1 =>
            intro j u hj
            match j, hj with
            | 0, hj => simp at hj; subst hj; simp [Addr.add]
            | (j + 1), hj => simp at hj
          case c2 => intro u hu; simp at hu; subst hu; rfl
          case c3 => unfold maxLen; omega
          case c4 => omega
          case c5 => have := HSZ.out; simp; omega
          intro v' w4 hown' hgrow _ hloc
          have HO : Hid (OwnT w4 w.heap.size v' O') := Lib.hid (by
            rw [HT2.out]
            have h := hown'
            unfold OwnT
            rw [show txts (O ++ [y]) = txts O ++ [.string y] by simp [txts], List.length_append, List.length_singleton]
            exact h)
          have B4 : Hid (Below w.heap.size w w4) := Lib.hid ((B3.out.alloc (by have := HSZ.out; omega) _).grown hgrow (by have := HSZ.out; simp; omega) (fun j hj => (O3.out.lt _ hj).1))
          have R4 := Lib.hid ((R3.out.below ((Below.refl w3.heap.size w3).alloc (Nat.le_refl _) _)).grown hgrow hap.out)
          have hbw : b < w3.heap.size := by have := HWR.out; omega
          have A4 : Hid (ApartV v' (some ⟨b, off, none⟩)) := Lib.hid (fun b' off' e h3 => by
            cases e
            rcases hloc with h4 | h4
            · exact hap.out b off rfl (by rw [← h4]; exact h3)
            · rw [h4] at h3
              have := Option.some.inj h3
              omega)
          clear hown' hgrow hloc hbw
          go_wp2_with fail
          go_roundw
          case rel => exact ⟨k + 1, by go_num, by omega, Lib.hid (by rw [← HO'.out]; exact HO.out), A4, R4, B4⟩
          case measure => simp [intOf]; omega
      · obtain rfl : k = n := by omega
        have HQ : Hid (onceT (P.take k) = onceT P) := Lib.hid (by rw [List.take_of_length_le (by have := HN.out; omega)])
        obtain ⟨ao2, cap2, rfl, _⟩ := ownT_row hown.out
        clear hk hkn
        go_wp2_with fail
        go_ret
        exact ⟨_, onceT P, rfl, by rw [← HQ.out]; exact hown.out, HE.out, hb.out⟩
  · rw [may_no hc] at HM
    have H1 : Hid (placesP (bl s) = []) := Lib.hid (by unfold placesP; rw [treeOf_none hc])
    clear hc hs
    go_enter Try.func47, Try.ntmps47
    go_wp2_with fail
    refine HM.out.mono ?_; rintro e w1 ⟨rfl, b1⟩
    have B1 := Lib.hid b1
    clear b1
    go_wp2_with fail
    go_ret
    exact ⟨_, [], rfl, ownT_nil _ _, by rw [H1.out]; rfl, B1.out⟩
end Go.Proofs.Ytfghhhghhjbiaaa.Pl
