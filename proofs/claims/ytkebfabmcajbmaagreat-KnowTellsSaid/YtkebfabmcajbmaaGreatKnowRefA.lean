/- What the document's Can of layer 10 answers, over a list of what is known. -/
import Derived.Test.YtkebfabmcajbmaaGreatKnowZ1
import Derived.Test.YtkebfabmcajbmaaGreatKnowZ5
import Derived.Test.YtkebfabmcajbmaaGreatKnowZ6
import Derived.Test.YtkebfabmcajbmaaGreatKnowZ4
namespace Go.Proofs.YtkebfabmcajbmaaGreat.Pl
open Go.RowKit

theorem kd_node {h : List UInt8} {l : List Tm} (hv : (Tm.node h l).valid) : ∃ c, Kd h l.length c ∧ kindP (Tm.node h l).enc = c := by
  have hg := hv.1
  simp only [Tm.good] at hg
  obtain ⟨c, hk⟩ := head_kind hg.1
  refine ⟨c, hk, ?_⟩
  unfold kindP
  rw [if_pos (check_enc hv), Tm.enc_node]
  rcases hk with ⟨t, rfl, _, _⟩ | ⟨t, rfl, _, _, _⟩ | ⟨v, rfl, _, _⟩ | ⟨rfl, _⟩ | ⟨rfl, _⟩ | ⟨rfl, _⟩ <;> rfl
/-- The first byte of a head, by its kind. -/
theorem kd_first {h : List UInt8} {p c : Nat} (hk : Kd h p c) : (c = 1 ↔ h.head? = some 100) ∧ (c = 2 ↔ h.head? = some 97) ∧ (c = 3 ↔ h.head? = some 114) ∧ (c = 6 ↔ h = [115]) := by
  rcases hk with ⟨t, rfl, _, _⟩ | ⟨t, rfl, _, _, _⟩ | ⟨v, rfl, _, _⟩ | ⟨rfl, _⟩ | ⟨rfl, _⟩ | ⟨rfl, _⟩ <;> simp
theorem parts_node {h : List UInt8} {l : List Tm} (hv : (Tm.node h l).valid) : partsP (Tm.node h l).enc = (l.map Tm.enc, true) := by
  unfold partsP
  rw [treeOf_enc hv]
/-- Block q is somebody who knows these. -/
def RK (w : World) (q : Nat) (L : List ByteArray) : Prop := ∃ ao cap, w.heap[q]? = some (.cells #[.slice ao L.length cap] 34 (0, 0)) ∧ TxtRow w ao L ∧ L.length ≤ 1000000000
theorem RK.below {w w' : World} {q : Nat} {L : List ByteArray} (h : RK w q L) (hb : Below w.heap.size w w') : RK w' q L := by
  obtain ⟨ao, cap, h1, h2, h3⟩ := h
  exact ⟨ao, cap, (hb.block q (Array.getElem?_eq_some_iff.1 h1).1).trans h1, h2.below hb, h3⟩
open Classical in
/-- Whether a tree can be made of them. -/
noncomputable def canB (L : List ByteArray) (T : Tm) : Bool := decide (can (LB (L.map bl)) T)
open Classical in
theorem canB_iff {L : List ByteArray} {T : Tm} : canB L T = true ↔ can (LB (L.map bl)) T := by unfold canB; exact decide_eq_true_iff
theorem lb_in {L : List ByteArray} {T : Tm} {s : ByteArray} (hv : T.valid) (hs : bl s = T.enc) : LB (L.map bl) T ↔ s ∈ L := by
  unfold LB
  rw [← hs]
  constructor
  · rintro ⟨_, h⟩
    obtain ⟨y, hy, e⟩ := List.mem_map.1 h
    rw [← bl_inj e]
    exact hy
  · exact fun h => ⟨hv, List.mem_map_of_mem h⟩
theorem canB_data {L : List ByteArray} {h : List UInt8} {l : List Tm} (k : h.head? = some 100) : canB L (.node h l) = true := canB_iff.2 (by rw [can]; exact .inl k)
theorem canB_in {L : List ByteArray} {h : List UInt8} {l : List Tm} {s : ByteArray} (hv : (Tm.node h l).valid) (hs : bl s = (Tm.node h l).enc) (k : s ∈ L) : canB L (.node h l) = true := canB_iff.2 (by rw [can]; exact .inr (.inl ((lb_in hv hs).2 k)))
theorem canB_atom {L : List ByteArray} {h : List UInt8} {l : List Tm} {s : ByteArray} (hv : (Tm.node h l).valid) (hs : bl s = (Tm.node h l).enc) (k : s ∉ L) (h2 : h.head? = some 97) : canB L (.node h l) = false := by
  rw [← Bool.not_eq_true, canB_iff, can]
  rintro (e | e | ⟨e, _⟩)
  · rw [h2] at e; cases e
  · exact k ((lb_in hv hs).1 e)
  · exact e h2
theorem canB_else {L : List ByteArray} {h : List UInt8} {l : List Tm} {s : ByteArray} (hv : (Tm.node h l).valid) (hs : bl s = (Tm.node h l).enc) (k : s ∉ L) (h1 : h.head? ≠ some 100) (h2 : h.head? ≠ some 97) : (canB L (.node h l) = true ↔ ∀ t ∈ l, canB L t = true) := by
  rw [canB_iff, can]
  constructor
  · rintro (e | e | ⟨_, e⟩)
    · exact absurd e h1
    · exact absurd ((lb_in hv hs).1 e) k
    · exact fun t ht => canB_iff.2 (cans_all.1 e t ht)
  · exact fun e => .inr (.inr ⟨h2, cans_all.2 fun t ht => canB_iff.1 (e t ht)⟩)

set_option maxHeartbeats 4000000 in
set_option maxRecDepth 100000 in
theorem rcan10_at : ∀ (d : Nat) (T : Tm), T.valid → T.deep ≤ d → ∀ (s : ByteArray), bl s = T.enc → ∀ (q : Nat) (L : List ByteArray) (w : World), RK w q L →
    Calls Tryz.prog 29 #[.pointer (some ⟨q, 0, none⟩), .string s] w fun e w' => e = .returned (.bool (canB L T)) ∧ Below w.heap.size w w' := by
  intro d
  induction d with
  | zero =>
    rintro ⟨h, l⟩ _ hd
    simp [Tm.deep] at hd
  | succ d ih =>
    rintro ⟨h, l⟩ hv hd s hs q L w hq
    have hdp : ∀ t ∈ l, t.deep ≤ d := fun t ht => by
      have := deeps_mem ht
      simp only [Tm.deep] at hd
      omega
    obtain ⟨c, hk, hkd⟩ := kd_node hv
    obtain ⟨f1, f2, f3, f4⟩ := kd_first hk
    have hsz := valid_size hv hs
    have HK := Lib.hid (fun V => rkind_any s (by omega) V)
    rw [hs, hkd] at HK
    by_cases c1 : c = 1
    · subst c1
      rw [canB_data (f1.1 rfl)]
      clear ih hv hd hs hq hdp hk hkd f1 f2 f3 f4 hsz
      go_enter Tryz.func29, Tryz.ntmps29
      go_wp2_with fail
      refine (HK.out _).mono ?_; rintro e w1 ⟨rfl, b1⟩
      have B1 := Lib.hid b1
      clear b1
      go_wp2_with fail
      go_ret
      exact ⟨rfl, B1.out⟩
    · have q1 : ((c : Int) == 1) = false := by rw [beq_eq_false_iff_ne]; omega
      have HQ := Lib.hid hq
      by_cases hin : s ∈ L
      · rw [canB_in hv hs hin]
        have HI : Hid (∀ (V : World) ao cap, TxtRow V ao L → Calls Tryz.prog 47 #[.slice ao L.length cap, .string s] V fun e w' => e = .returned (.bool true) ∧ Below V.heap.size V w') := Lib.hid (fun V ao cap hr => rin_any L ao cap (by obtain ⟨_, _, _, _, h3⟩ := HQ.out; omega) s V hr true (by simp [hin]))
        clear ih hv hd hs hq hdp hk hkd f1 f2 f3 f4 hsz c1 hin
        go_enter Tryz.func29, Tryz.ntmps29
        go_wp2_with fail
        refine (HK.out _).mono ?_; rintro e w1 ⟨rfl, b1⟩
        have B1 := Lib.hid b1
        obtain ⟨ao, cap, hh, hr, _⟩ := HQ.out.below b1
        have cq : w1.cell? ⟨q, 0, none⟩ = some (.slice ao L.length cap) := cell_of_row _ _ _ _ _ _ hh
        have R1 := Lib.hid hr
        clear b1 hh hr
        go_wp2_with fail
        refine (HI.out _ _ _ R1.out).mono ?_; rintro e w2 ⟨rfl, b2⟩
        have B2 := Lib.hid (below_step B1.out b2)
        clear b2 cq
        go_wp2_with fail
        go_ret
        exact ⟨rfl, B2.out⟩
      · have HI : Hid (∀ (V : World) ao cap, TxtRow V ao L → Calls Tryz.prog 47 #[.slice ao L.length cap, .string s] V fun e w' => e = .returned (.bool false) ∧ Below V.heap.size V w') := Lib.hid (fun V ao cap hr => rin_any L ao cap (by obtain ⟨_, _, _, _, h3⟩ := HQ.out; omega) s V hr false (by simp [hin]))
        by_cases c2 : c = 2
        · subst c2
          rw [canB_atom hv hs hin (f2.1 rfl)]
          clear ih hv hd hs hq hdp hk hkd f1 f2 f3 f4 hsz c1 hin
          go_enter Tryz.func29, Tryz.ntmps29
          go_wp2_with fail
          refine (HK.out _).mono ?_; rintro e w1 ⟨rfl, b1⟩
          have B1 := Lib.hid b1
          obtain ⟨ao, cap, hh, hr, _⟩ := HQ.out.below b1
          have cq : w1.cell? ⟨q, 0, none⟩ = some (.slice ao L.length cap) := cell_of_row _ _ _ _ _ _ hh
          have R1 := Lib.hid hr
          clear b1 hh hr
          go_wp2_with fail
          refine (HI.out _ _ _ R1.out).mono ?_; rintro e w2 ⟨rfl, b2⟩
          have B2 := Lib.hid (below_step B1.out b2)
          clear b2 cq
          go_wp2_with fail
          go_ret
          exact ⟨rfl, B2.out⟩
        · have q2 : ((c : Int) == 2) = false := by rw [beq_eq_false_iff_ne]; omega
          have HE := Lib.hid (canB_else hv hs hin (fun e => c1 (f1.2 e)) (fun e => c2 (f2.2 e)))
          have HP := Lib.hid (fun V => rparts6_any s (by omega) V)
          rw [hs, parts_node hv] at HP
          have HC : Hid (∀ k, (hk : k < l.length) → ∀ V : World, RK V q L → Calls Tryz.prog 29 #[.pointer (some ⟨q, 0, none⟩), .string (tx l[k])] V fun e w' => e = .returned (.bool (canB L l[k])) ∧ Below V.heap.size V w') :=
            Lib.hid (fun k hk V hV => ih l[k] (node_valid_parts hv _ (List.getElem_mem hk)) (hdp _ (List.getElem_mem hk)) (tx l[k]) rfl q L V hV)
          obtain ⟨n, hn⟩ : ∃ n, n = l.length := ⟨_, rfl⟩
          have HN := Lib.hid hn
          have HNS : Hid (n ≤ 100) := Lib.hid (by
            rw [hn]
            rcases hk with ⟨_, _, _, h⟩ | ⟨_, _, _, _, h⟩ | ⟨v, _, hv, h⟩ | ⟨_, h⟩ | ⟨_, h⟩ | ⟨_, h⟩ <;> omega)
          generalize hZ : canB L (.node h l) = Z at *
          clear ih hv hd hs hq hdp hk hkd f1 f2 f3 f4 hsz c1 c2 hin hn hZ
          go_enter Tryz.func29, Tryz.ntmps29
          go_wp2_with fail
          refine (HK.out _).mono ?_; rintro e w1 ⟨rfl, b1⟩
          have B1 := Lib.hid b1
          obtain ⟨ao, cap, hh, hr, _⟩ := HQ.out.below b1
          have cq : w1.cell? ⟨q, 0, none⟩ = some (.slice ao L.length cap) := cell_of_row _ _ _ _ _ _ hh
          have R1 := Lib.hid hr
          clear b1 hh hr
          go_wp2_with fail
          refine (HI.out _ _ _ R1.out).mono ?_; rintro e w2 ⟨rfl, b2⟩
          have B2 := Lib.hid (below_step B1.out b2)
          clear b2 cq R1
          go_wp2_with fail
          refine (HP.out _).mono ?_; rintro e w3 ⟨v, P, rfl, ho, hP, b3⟩
          have B3 := Lib.hid (below_step B2.out b3)
          obtain ⟨po, pcap, rfl, hrow⟩ := ownT_row ho
          have R3 := Lib.hid hrow
          obtain rfl : P = l.map tx := (List.map_inj_right (fun _ _ e => bl_inj e)).1 (by rw [hP, map_bl_tx])
          have hPl : (l.map tx).length = n := by rw [List.length_map]; exact HN.out.symm
          rw [hPl]
          clear b3 ho hP hrow
          go_wp2_with fail
          go_loopw [8] (fun iv wr => ∃ k : Nat, iv = .int .i64 k ∧ k ≤ n ∧ Hid (∀ j, (hj : j < l.length) → j < k → canB L l[j] = true) ∧ Hid (Below w3.heap.size w3 wr)) (fun iv _ => n - (intOf iv).toNat)
          case atStart => exact ⟨0, rfl, Nat.zero_le _, Lib.hid (fun j _ hj => absurd hj (Nat.not_lt_zero j)), Lib.hid (Below.refl _ _)⟩
          case round =>
            obtain ⟨k, rfl, hkn, hall, hb⟩ := hrel
            have BW := Lib.hid (below_step B3.out hb.out)
            have hn100 := HNS.out
            by_cases hk : k < n
            · have hk' : (k : Int) < (n : Int) := by omega
              have hkl : k < l.length := by rw [← HN.out]; exact hk
              have HCK := Lib.hid (HC.out k hkl wr (HQ.out.below BW.out))
              rcases R3.out.below hb.out with e | ⟨g, off, rfl, hlt, hc⟩
              · exfalso
                rw [e] at hPl
                simp at hPl
                omega
              have ck := hc k (by rw [hPl]; exact hk)
              have eg : (l.map tx).getD k ByteArray.empty = tx l[k] := by simp [List.getD_eq_getElem?_getD, hkl]
              rw [eg] at ck
              have HNO : Hid (canB L l[k] = false → Z = false) := Lib.hid (fun e => by
                rw [← Bool.not_eq_true]
                intro hz
                rw [HE.out.1 hz _ (List.getElem_mem hkl)] at e
                cases e)
              have HGO : Hid (canB L l[k] = true → ∀ j, (hj : j < l.length) → j < k + 1 → canB L l[j] = true) := Lib.hid (fun e j hj hjk => by
                by_cases h : j < k
                · exact hall.out j hj h
                · obtain rfl : j = k := by omega
                  exact e)
              generalize canB L l[k] = y at *
              generalize tx l[k] = t at *
              clear hc hlt eg
              cases y with
              | true =>
                have HG := Lib.hid (HGO.out rfl)
                go_wp2_with fail
                refine HCK.out.mono ?_; rintro e w4 ⟨rfl, b4⟩
                have B4 := Lib.hid (below_step hb.out b4)
                clear b4
                go_wp2_with fail
                go_roundw
                case rel => exact ⟨k + 1, by go_num, by omega, HG, B4⟩
                case measure => simp [intOf]; omega
              | false =>
                obtain rfl := HNO.out rfl
                go_wp2_with fail
                refine HCK.out.mono ?_; rintro e w4 ⟨rfl, b4⟩
                have B4 := Lib.hid (below_step BW.out b4)
                clear b4
                go_wp2_with fail
                go_ret
                exact ⟨rfl, B4.out⟩
            · obtain rfl : k = n := by omega
              obtain rfl : Z = true := HE.out.2 (fun t ht => by
                obtain ⟨j, hj, rfl⟩ := List.getElem_of_mem ht
                exact hall.out j hj (by rw [HN.out]; exact hj))
              clear hk hkn
              go_wp2_with fail
              go_ret
              exact ⟨rfl, BW.out⟩
end Go.Proofs.YtkebfabmcajbmaaGreat.Pl
