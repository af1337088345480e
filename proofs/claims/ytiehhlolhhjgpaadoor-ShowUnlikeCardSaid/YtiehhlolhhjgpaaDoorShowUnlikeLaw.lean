/- ShowUnlike answers true, whatever it is given. -/
import Derived.Test.YtiehhlolhhjgpaaDoorShowAlive
import Derived.Test.YtiehhlolhhjgpaaDoorShowD5
import Derived.Test.YtiehhlolhhjgpaaDoorShowD3
namespace Go.Proofs.YtiehhlolhhjgpaaDoor.Pl
open Go.RowKit

theorem atoms_len7 (s : List UInt8) : (atomsP s).length ≤ 16384 := Nat.le_trans (atomsL_len _) (subs_small s).1
theorem has_check {s f : List UInt8} (h : hasP s f = true) : checkP f = 0 := Classical.byContradiction fun k => by
  unfold hasP at h
  rw [treeOf_none k] at h
  cases treeOf s <;> simp at h
theorem row_atoms {L : List ByteArray} {s : List UInt8} (hL : L.map bl = atomsP s) (k : Nat) (hk : k < L.length) :
    ∃ y : List UInt8, atomP (bl (L.getD k ByteArray.empty)) = (y, 0) ∧ hasP s y = true ∧ y.length ≤ 16384 ∧ (L.getD k ByteArray.empty).size ≤ 32 := by
  have hm : bl (L.getD k ByteArray.empty) ∈ atomsP s := by
    rw [← hL, List.getD_eq_getElem?_getD, List.getElem?_eq_getElem hk]
    exact List.mem_map_of_mem (List.getElem_mem hk)
  obtain ⟨h1, h2⟩ := atoms_parts hm
  refine ⟨_, Prod.ext rfl h1, h2, check_len (has_check h2), ?_⟩
  rw [size_bl]
  exact (atomP_some ((atomP_iff _).1 h1)).1
theorem text_in {L : List ByteArray} {s b : List UInt8} (hL : L.map bl = atomsP s) (hk : kindP b = 2) (h : hasP s b = true) : (⟨(textP b).1.toArray⟩ : ByteArray) ∈ L := by
  have hm := parts_atoms hk h
  rw [← hL] at hm
  obtain ⟨z, hz, e⟩ := List.mem_map.1 hm
  rw [← e, ← bl_eq z]
  exact hz
set_option maxHeartbeats 16000000 in
set_option maxRecDepth 100000 in
theorem showunlike_any (a b : ByteArray) (w : World) (hF : Frames w) :
    Calls Tryd.prog 4 #[.string a, .string b] w fun e w' => e = .returned (.bool true) ∧ Below w.heap.size w w' := by
  have HLA := Lib.hid (fun V => long7_any a V)
  have HLB := Lib.hid (fun V => long7_any b V)
  have HA := Lib.hid (fun V hV => alive7_any V hV)
  have HFR := Lib.hid hF
  clear hF
  by_cases hla : 40000 < a.size
  · rw [decide_eq_true hla] at HLA
    clear hla
    go_enter Tryd.func4, Tryd.ntmps4
    go_wp2_with fail
    refine (HLA.out w).mono ?_; rintro e v0 ⟨rfl, rfl⟩
    go_wp2_with fail
    refine (HA.out _ HFR.out).mono ?_; rintro e w1 ⟨rfl, b1⟩
    have B1 := Lib.hid b1; clear b1
    go_wp2_with fail
    go_ret
    exact ⟨rfl, B1.out⟩
  rw [decide_eq_false hla] at HLA
  by_cases hlb : 40000 < b.size
  · rw [decide_eq_true hlb] at HLB
    clear hla hlb
    go_enter Tryd.func4, Tryd.ntmps4
    go_wp2_with fail
    refine (HLA.out w).mono ?_; rintro e v0 ⟨rfl, rfl⟩
    go_wp2_with fail
    refine (HLB.out _).mono ?_; rintro e v0 ⟨rfl, rfl⟩
    go_wp2_with fail
    refine (HA.out _ HFR.out).mono ?_; rintro e w1 ⟨rfl, b1⟩
    have B1 := Lib.hid b1; clear b1
    go_wp2_with fail
    go_ret
    exact ⟨rfl, B1.out⟩
  rw [decide_eq_false hlb] at HLB
  have H1 := fun V hV => line7_any a (by omega) V hV
  have H2 := fun V hV => line7_any b (by omega) V hV
  have HAT := Lib.hid (fun V => atoms7_any a (by omega) V)
  have HKD := Lib.hid (fun V => tkind_any b (by omega) V)
  have HHB := Lib.hid (fun V => has6_any a b (by omega) (by omega) V)
  have HTB := Lib.hid (fun V => text6_any b (by omega) V)
  by_cases ha : checkP (bl a) = 0
  · have ea := (brief_ok 16 (bl a)).2 ha
    by_cases hb : checkP (bl b) = 0
    · have eb := (brief_ok 16 (bl b)).2 hb
      have hun := lines_unlike ha hb
      obtain ⟨z1, hz1⟩ : ∃ z1, z1 = briefP 16 (bl a) := ⟨_, rfl⟩
      obtain ⟨z2, hz2⟩ : ∃ z2, z2 = briefP 16 (bl b) := ⟨_, rfl⟩
      rw [← hz1] at ea hun H1
      rw [← hz2] at eb hun H2
      obtain ⟨x, e⟩ := z1
      obtain ⟨y, f⟩ := z2
      simp only at ea eb hun
      subst ea eb
      unfold st2 at H1 H2
      have H1 := Lib.hid H1
      have H2 := Lib.hid H2
      by_cases hab : a = b
      · have hxy := hun.2 (by rw [hab])
        subst hxy
        have qab : (a.toList == b.toList) = true := by rw [hab]; exact BEq.rfl
        generalize (⟨x.toArray⟩ : ByteArray) = xb at *
        clear hz1 hz2 hun ha hb hab
        go_enter Tryd.func4, Tryd.ntmps4
        go_wp2_with fail
        refine (HLA.out w).mono ?_; rintro e v0 ⟨rfl, rfl⟩
        go_wp2_with fail
        refine (HLB.out _).mono ?_; rintro e v0 ⟨rfl, rfl⟩
        go_wp2_with fail
        refine (H1.out _ HFR.out).mono ?_; rintro e w1 ⟨rfl, b1⟩
        have B1 := Lib.hid b1; clear b1
        go_wp2_with fail
        refine (H2.out _ (HFR.out.kept HFR.out.1 B1.out)).mono ?_; rintro e w2 ⟨rfl, b2⟩
        have B2 := Lib.hid (below_step B1.out b2); clear b2 B1
        go_wp2_with fail
        refine (HAT.out _).mono ?_; rintro e w3 ⟨v, L, rfl, ho, hL, b3⟩
        have B3 := Lib.hid (below_step B2.out b3); clear b3 B2
        have HLE := Lib.hid hL
        obtain ⟨ao, cap, rfl, hrow⟩ := ownT_row ho
        have R3 := Lib.hid hrow
        obtain ⟨n, hn⟩ : ∃ n, n = L.length := ⟨_, rfl⟩
        have HN := Lib.hid hn
        have hn6 : n ≤ 16384 := by have h1 := congrArg List.length hL; rw [List.length_map] at h1; have := atoms_len7 (bl a); omega
        have HIN : Hid (∀ k, k < n → ∃ y : List UInt8, atomP (bl (L.getD k ByteArray.empty)) = (y, 0) ∧ hasP (bl a) y = true ∧ y.length ≤ 16384 ∧ (L.getD k ByteArray.empty).size ≤ 32) := Lib.hid (fun k hk => row_atoms hL k (by rw [← hn]; exact hk))
        have HTX : Hid (kindP (bl b) = 2 → hasP (bl a) (bl b) = true → (⟨(textP (bl b)).1.toArray⟩ : ByteArray) ∈ L) := Lib.hid (fun h1 h2 => text_in hL h1 h2)
        rw [← hn]
        clear ho hL hrow hn
        go_wp2_with fail
        go_loopw [10] (fun iv wr => ∃ k : Nat, iv = .int .i64 k ∧ k ≤ n ∧ Hid (Below w3.heap.size w3 wr)) (fun iv _ => n - (intOf iv).toNat)
        case atStart => exact ⟨0, rfl, Nat.zero_le _, Lib.hid (Below.refl _ _)⟩
        case round =>
          obtain ⟨k, rfl, hkn, hb⟩ := hrel
          by_cases hk : k < n
          · have hk' : (k : Int) < (n : Int) := by omega
            have hk0 : (0 : Int) ≤ (k : Int) := by omega
            rcases R3.out.below hb.out with e | ⟨q, off, rfl, hlt, hc⟩
            · exfalso; rw [e] at HN; have := HN.out; simp at this; omega
            have ck := hc k (by rw [← HN.out]; exact hk)
            obtain ⟨y, hy1, hy2, hy3, hy4⟩ := HIN.out k hk
            generalize L.getD k ByteArray.empty = x at *
            have HX := fun V => atom6_any x (by omega) V
            rw [hy1] at HX
            unfold st2 at HX
            have HX := Lib.hid HX
            have HH := fun V => has6_any a ⟨y.toArray⟩ (by omega) (by rw [size_lit]; omega) V
            rw [bl_mk y, hy2] at HH
            have HH := Lib.hid HH
            clear hy1 hy2 hy3 hy4 hc
            go_wp2_with fail
            refine (HX.out _).mono ?_; rintro e w4 ⟨rfl, b4⟩
            have B4 := Lib.hid (below_step hb.out b4); clear b4
            go_wp2_with fail
            refine (HH.out _).mono ?_; rintro e w5 ⟨rfl, b5⟩
            have B5 := Lib.hid (below_step B4.out b5); clear b5
            go_wp2_with fail
            go_roundw
            case rel => exact ⟨k + 1, by go_num, by omega, B5⟩
            case measure => simp [intOf]; omega
          · obtain rfl : k = n := by omega
            have B4 := Lib.hid (below_step B3.out hb.out)
            have R4 := Lib.hid (R3.out.below hb.out)
            clear hk hkn
            by_cases hk2 : kindP (bl b) = 2
            · rw [hk2] at HKD
              cases hhs : hasP (bl a) (bl b) with
              | true =>
                rw [hhs] at HHB
                have HMEM := Lib.hid (HTX.out hk2 hhs)
                have HIX := Lib.hid (fun V hV => rin_any L ao cap (by rw [← HN.out]; omega) ⟨(textP (bl b)).1.toArray⟩ V hV true ⟨fun _ => HMEM.out, fun _ => rfl⟩)
                rw [← HN.out] at HIX
                unfold tb2 at HTB
                generalize textP (bl b) = tx at *
                obtain ⟨t1, t2⟩ := tx
                simp only at HTB HIX
                generalize (⟨t1.toArray⟩ : ByteArray) = tb at *
                clear hk2 hhs
                go_wp2_with fail
                refine (HKD.out _).mono ?_; rintro e w5 ⟨rfl, b5⟩
                have B5 := Lib.hid (below_step B4.out b5); have R5 := Lib.hid (R4.out.below b5); clear b5
                go_wp2_with fail
                refine (HHB.out _).mono ?_; rintro e w6 ⟨rfl, b6⟩
                have B6 := Lib.hid (below_step B5.out b6); have R6 := Lib.hid (R5.out.below b6); clear b6
                go_wp2_with fail
                refine (HTB.out _).mono ?_; rintro e w7 ⟨rfl, b7⟩
                have B7 := Lib.hid (below_step B6.out b7); have R7 := Lib.hid (R6.out.below b7); clear b7
                go_wp2_with fail
                refine (HIX.out _ R7.out).mono ?_; rintro e w8 ⟨rfl, b8⟩
                have B8 := Lib.hid (below_step B7.out b8); clear b8
                go_wp2_with fail
                refine (HA.out _ (HFR.out.kept HFR.out.1 B8.out)).mono ?_; rintro e w9 ⟨rfl, b9⟩
                have B9 := Lib.hid (below_step B8.out b9); clear b9
                go_wp2_with fail
                go_ret
                exact ⟨rfl, B9.out⟩
              | false =>
                rw [hhs] at HHB
                clear hk2 hhs
                go_wp2_with fail
                refine (HKD.out _).mono ?_; rintro e w5 ⟨rfl, b5⟩
                have B5 := Lib.hid (below_step B4.out b5); clear b5
                go_wp2_with fail
                refine (HHB.out _).mono ?_; rintro e w6 ⟨rfl, b6⟩
                have B6 := Lib.hid (below_step B5.out b6); clear b6
                go_wp2_with fail
                refine (HA.out _ (HFR.out.kept HFR.out.1 B6.out)).mono ?_; rintro e w9 ⟨rfl, b9⟩
                have B9 := Lib.hid (below_step B6.out b9); clear b9
                go_wp2_with fail
                go_ret
                exact ⟨rfl, B9.out⟩
            · have qk : ((kindP (bl b) : Int) == 2) = false := by rw [beq_eq_false_iff_ne]; omega
              generalize kindP (bl b) = kb at *
              clear hk2
              go_wp2_with fail
              refine (HKD.out _).mono ?_; rintro e w5 ⟨rfl, b5⟩
              have B5 := Lib.hid (below_step B4.out b5); clear b5
              go_wp2_with fail
              refine (HA.out _ (HFR.out.kept HFR.out.1 B5.out)).mono ?_; rintro e w9 ⟨rfl, b9⟩
              have B9 := Lib.hid (below_step B5.out b9); clear b9
              go_wp2_with fail
              go_ret
              exact ⟨rfl, B9.out⟩
      · have hxy : x ≠ y := fun e => hab (bl_inj (hun.1 e))
        have qab : (a.toList == b.toList) = false := by rw [str_eq]; exact decide_eq_false (fun e => hab (bl_inj e))
        have qxy : ((⟨x.toArray⟩ : ByteArray).toList == (⟨y.toArray⟩ : ByteArray).toList) = false := by rw [str_eq, bl_mk x, bl_mk y]; exact decide_eq_false hxy
        generalize (⟨x.toArray⟩ : ByteArray) = xb at *
        generalize (⟨y.toArray⟩ : ByteArray) = yb at *
        clear hz1 hz2 hun ha hb hab hxy
        go_enter Tryd.func4, Tryd.ntmps4
        go_wp2_with fail
        refine (HLA.out w).mono ?_; rintro e v0 ⟨rfl, rfl⟩
        go_wp2_with fail
        refine (HLB.out _).mono ?_; rintro e v0 ⟨rfl, rfl⟩
        go_wp2_with fail
        refine (H1.out _ HFR.out).mono ?_; rintro e w1 ⟨rfl, b1⟩
        have B1 := Lib.hid b1; clear b1
        go_wp2_with fail
        refine (H2.out _ (HFR.out.kept HFR.out.1 B1.out)).mono ?_; rintro e w2 ⟨rfl, b2⟩
        have B2 := Lib.hid (below_step B1.out b2); clear b2 B1
        go_wp2_with fail
        refine (HAT.out _).mono ?_; rintro e w3 ⟨v, L, rfl, ho, hL, b3⟩
        have B3 := Lib.hid (below_step B2.out b3); clear b3 B2
        have HLE := Lib.hid hL
        obtain ⟨ao, cap, rfl, hrow⟩ := ownT_row ho
        have R3 := Lib.hid hrow
        obtain ⟨n, hn⟩ : ∃ n, n = L.length := ⟨_, rfl⟩
        have HN := Lib.hid hn
        have hn6 : n ≤ 16384 := by have h1 := congrArg List.length hL; rw [List.length_map] at h1; have := atoms_len7 (bl a); omega
        have HIN : Hid (∀ k, k < n → ∃ y : List UInt8, atomP (bl (L.getD k ByteArray.empty)) = (y, 0) ∧ hasP (bl a) y = true ∧ y.length ≤ 16384 ∧ (L.getD k ByteArray.empty).size ≤ 32) := Lib.hid (fun k hk => row_atoms hL k (by rw [← hn]; exact hk))
        have HTX : Hid (kindP (bl b) = 2 → hasP (bl a) (bl b) = true → (⟨(textP (bl b)).1.toArray⟩ : ByteArray) ∈ L) := Lib.hid (fun h1 h2 => text_in hL h1 h2)
        rw [← hn]
        clear ho hL hrow hn
        go_wp2_with fail
        go_loopw [10] (fun iv wr => ∃ k : Nat, iv = .int .i64 k ∧ k ≤ n ∧ Hid (Below w3.heap.size w3 wr)) (fun iv _ => n - (intOf iv).toNat)
        case atStart => exact ⟨0, rfl, Nat.zero_le _, Lib.hid (Below.refl _ _)⟩
        case round =>
          obtain ⟨k, rfl, hkn, hb⟩ := hrel
          by_cases hk : k < n
          · have hk' : (k : Int) < (n : Int) := by omega
            have hk0 : (0 : Int) ≤ (k : Int) := by omega
            rcases R3.out.below hb.out with e | ⟨q, off, rfl, hlt, hc⟩
            · exfalso; rw [e] at HN; have := HN.out; simp at this; omega
            have ck := hc k (by rw [← HN.out]; exact hk)
            obtain ⟨y, hy1, hy2, hy3, hy4⟩ := HIN.out k hk
            generalize L.getD k ByteArray.empty = x at *
            have HX := fun V => atom6_any x (by omega) V
            rw [hy1] at HX
            unfold st2 at HX
            have HX := Lib.hid HX
            have HH := fun V => has6_any a ⟨y.toArray⟩ (by omega) (by rw [size_lit]; omega) V
            rw [bl_mk y, hy2] at HH
            have HH := Lib.hid HH
            clear hy1 hy2 hy3 hy4 hc
            go_wp2_with fail
            refine (HX.out _).mono ?_; rintro e w4 ⟨rfl, b4⟩
            have B4 := Lib.hid (below_step hb.out b4); clear b4
            go_wp2_with fail
            refine (HH.out _).mono ?_; rintro e w5 ⟨rfl, b5⟩
            have B5 := Lib.hid (below_step B4.out b5); clear b5
            go_wp2_with fail
            go_roundw
            case rel => exact ⟨k + 1, by go_num, by omega, B5⟩
            case measure => simp [intOf]; omega
          · obtain rfl : k = n := by omega
            have B4 := Lib.hid (below_step B3.out hb.out)
            have R4 := Lib.hid (R3.out.below hb.out)
            clear hk hkn
            by_cases hk2 : kindP (bl b) = 2
            · rw [hk2] at HKD
              cases hhs : hasP (bl a) (bl b) with
              | true =>
                rw [hhs] at HHB
                have HMEM := Lib.hid (HTX.out hk2 hhs)
                have HIX := Lib.hid (fun V hV => rin_any L ao cap (by rw [← HN.out]; omega) ⟨(textP (bl b)).1.toArray⟩ V hV true ⟨fun _ => HMEM.out, fun _ => rfl⟩)
                rw [← HN.out] at HIX
                unfold tb2 at HTB
                generalize textP (bl b) = tx at *
                obtain ⟨t1, t2⟩ := tx
                simp only at HTB HIX
                generalize (⟨t1.toArray⟩ : ByteArray) = tb at *
                clear hk2 hhs
                go_wp2_with fail
                refine (HKD.out _).mono ?_; rintro e w5 ⟨rfl, b5⟩
                have B5 := Lib.hid (below_step B4.out b5); have R5 := Lib.hid (R4.out.below b5); clear b5
                go_wp2_with fail
                refine (HHB.out _).mono ?_; rintro e w6 ⟨rfl, b6⟩
                have B6 := Lib.hid (below_step B5.out b6); have R6 := Lib.hid (R5.out.below b6); clear b6
                go_wp2_with fail
                refine (HTB.out _).mono ?_; rintro e w7 ⟨rfl, b7⟩
                have B7 := Lib.hid (below_step B6.out b7); have R7 := Lib.hid (R6.out.below b7); clear b7
                go_wp2_with fail
                refine (HIX.out _ R7.out).mono ?_; rintro e w8 ⟨rfl, b8⟩
                have B8 := Lib.hid (below_step B7.out b8); clear b8
                go_wp2_with fail
                refine (HA.out _ (HFR.out.kept HFR.out.1 B8.out)).mono ?_; rintro e w9 ⟨rfl, b9⟩
                have B9 := Lib.hid (below_step B8.out b9); clear b9
                go_wp2_with fail
                go_ret
                exact ⟨rfl, B9.out⟩
              | false =>
                rw [hhs] at HHB
                clear hk2 hhs
                go_wp2_with fail
                refine (HKD.out _).mono ?_; rintro e w5 ⟨rfl, b5⟩
                have B5 := Lib.hid (below_step B4.out b5); clear b5
                go_wp2_with fail
                refine (HHB.out _).mono ?_; rintro e w6 ⟨rfl, b6⟩
                have B6 := Lib.hid (below_step B5.out b6); clear b6
                go_wp2_with fail
                refine (HA.out _ (HFR.out.kept HFR.out.1 B6.out)).mono ?_; rintro e w9 ⟨rfl, b9⟩
                have B9 := Lib.hid (below_step B6.out b9); clear b9
                go_wp2_with fail
                go_ret
                exact ⟨rfl, B9.out⟩
            · have qk : ((kindP (bl b) : Int) == 2) = false := by rw [beq_eq_false_iff_ne]; omega
              generalize kindP (bl b) = kb at *
              clear hk2
              go_wp2_with fail
              refine (HKD.out _).mono ?_; rintro e w5 ⟨rfl, b5⟩
              have B5 := Lib.hid (below_step B4.out b5); clear b5
              go_wp2_with fail
              refine (HA.out _ (HFR.out.kept HFR.out.1 B5.out)).mono ?_; rintro e w9 ⟨rfl, b9⟩
              have B9 := Lib.hid (below_step B5.out b9); clear b9
              go_wp2_with fail
              go_ret
              exact ⟨rfl, B9.out⟩
    · rw [brief_two 16 (bl b) hb] at H2
      obtain ⟨z1, hz1⟩ : ∃ z1, z1 = briefP 16 (bl a) := ⟨_, rfl⟩
      rw [← hz1] at ea H1
      obtain ⟨x, e⟩ := z1
      simp only at ea
      subst ea
      unfold st2 at H1 H2
      have H1 := Lib.hid H1
      have H2 := Lib.hid H2
      generalize (⟨x.toArray⟩ : ByteArray) = xb at *
      clear hz1 ha hb
      go_enter Tryd.func4, Tryd.ntmps4
      go_wp2_with fail
      refine (HLA.out w).mono ?_; rintro e v0 ⟨rfl, rfl⟩
      go_wp2_with fail
      refine (HLB.out _).mono ?_; rintro e v0 ⟨rfl, rfl⟩
      go_wp2_with fail
      refine (H1.out _ HFR.out).mono ?_; rintro e w1 ⟨rfl, b1⟩
      have B1 := Lib.hid b1; clear b1
      go_wp2_with fail
      refine (H2.out _ (HFR.out.kept HFR.out.1 B1.out)).mono ?_; rintro e w2 ⟨rfl, b2⟩
      have B2 := Lib.hid (below_step B1.out b2); clear b2 B1
      go_wp2_with fail
      refine (HAT.out _).mono ?_; rintro e w3 ⟨v, L, rfl, ho, hL, b3⟩
      have B3 := Lib.hid (below_step B2.out b3); clear b3 B2
      have HLE := Lib.hid hL
      obtain ⟨ao, cap, rfl, hrow⟩ := ownT_row ho
      have R3 := Lib.hid hrow
      obtain ⟨n, hn⟩ : ∃ n, n = L.length := ⟨_, rfl⟩
      have HN := Lib.hid hn
      have hn6 : n ≤ 16384 := by have h1 := congrArg List.length hL; rw [List.length_map] at h1; have := atoms_len7 (bl a); omega
      have HIN : Hid (∀ k, k < n → ∃ y : List UInt8, atomP (bl (L.getD k ByteArray.empty)) = (y, 0) ∧ hasP (bl a) y = true ∧ y.length ≤ 16384 ∧ (L.getD k ByteArray.empty).size ≤ 32) := Lib.hid (fun k hk => row_atoms hL k (by rw [← hn]; exact hk))
      have HTX : Hid (kindP (bl b) = 2 → hasP (bl a) (bl b) = true → (⟨(textP (bl b)).1.toArray⟩ : ByteArray) ∈ L) := Lib.hid (fun h1 h2 => text_in hL h1 h2)
      rw [← hn]
      clear ho hL hrow hn
      go_wp2_with fail
      go_loopw [10] (fun iv wr => ∃ k : Nat, iv = .int .i64 k ∧ k ≤ n ∧ Hid (Below w3.heap.size w3 wr)) (fun iv _ => n - (intOf iv).toNat)
      case atStart => exact ⟨0, rfl, Nat.zero_le _, Lib.hid (Below.refl _ _)⟩
      case round =>
        obtain ⟨k, rfl, hkn, hb⟩ := hrel
        by_cases hk : k < n
        · have hk' : (k : Int) < (n : Int) := by omega
          have hk0 : (0 : Int) ≤ (k : Int) := by omega
          rcases R3.out.below hb.out with e | ⟨q, off, rfl, hlt, hc⟩
          · exfalso; rw [e] at HN; have := HN.out; simp at this; omega
          have ck := hc k (by rw [← HN.out]; exact hk)
          obtain ⟨y, hy1, hy2, hy3, hy4⟩ := HIN.out k hk
          generalize L.getD k ByteArray.empty = x at *
          have HX := fun V => atom6_any x (by omega) V
          rw [hy1] at HX
          unfold st2 at HX
          have HX := Lib.hid HX
          have HH := fun V => has6_any a ⟨y.toArray⟩ (by omega) (by rw [size_lit]; omega) V
          rw [bl_mk y, hy2] at HH
          have HH := Lib.hid HH
          clear hy1 hy2 hy3 hy4 hc
          go_wp2_with fail
          refine (HX.out _).mono ?_; rintro e w4 ⟨rfl, b4⟩
          have B4 := Lib.hid (below_step hb.out b4); clear b4
          go_wp2_with fail
          refine (HH.out _).mono ?_; rintro e w5 ⟨rfl, b5⟩
          have B5 := Lib.hid (below_step B4.out b5); clear b5
          go_wp2_with fail
          go_roundw
          case rel => exact ⟨k + 1, by go_num, by omega, B5⟩
          case measure => simp [intOf]; omega
        · obtain rfl : k = n := by omega
          have B4 := Lib.hid (below_step B3.out hb.out)
          have R4 := Lib.hid (R3.out.below hb.out)
          clear hk hkn
          by_cases hk2 : kindP (bl b) = 2
          · rw [hk2] at HKD
            cases hhs : hasP (bl a) (bl b) with
            | true =>
              rw [hhs] at HHB
              have HMEM := Lib.hid (HTX.out hk2 hhs)
              have HIX := Lib.hid (fun V hV => rin_any L ao cap (by rw [← HN.out]; omega) ⟨(textP (bl b)).1.toArray⟩ V hV true ⟨fun _ => HMEM.out, fun _ => rfl⟩)
              rw [← HN.out] at HIX
              unfold tb2 at HTB
              generalize textP (bl b) = tx at *
              obtain ⟨t1, t2⟩ := tx
              simp only at HTB HIX
              generalize (⟨t1.toArray⟩ : ByteArray) = tb at *
              clear hk2 hhs
              go_wp2_with fail
              refine (HKD.out _).mono ?_; rintro e w5 ⟨rfl, b5⟩
              have B5 := Lib.hid (below_step B4.out b5); have R5 := Lib.hid (R4.out.below b5); clear b5
              go_wp2_with fail
              refine (HHB.out _).mono ?_; rintro e w6 ⟨rfl, b6⟩
              have B6 := Lib.hid (below_step B5.out b6); have R6 := Lib.hid (R5.out.below b6); clear b6
              go_wp2_with fail
              refine (HTB.out _).mono ?_; rintro e w7 ⟨rfl, b7⟩
              have B7 := Lib.hid (below_step B6.out b7); have R7 := Lib.hid (R6.out.below b7); clear b7
              go_wp2_with fail
              refine (HIX.out _ R7.out).mono ?_; rintro e w8 ⟨rfl, b8⟩
              have B8 := Lib.hid (below_step B7.out b8); clear b8
              go_wp2_with fail
              refine (HA.out _ (HFR.out.kept HFR.out.1 B8.out)).mono ?_; rintro e w9 ⟨rfl, b9⟩
              have B9 := Lib.hid (below_step B8.out b9); clear b9
              go_wp2_with fail
              go_ret
              exact ⟨rfl, B9.out⟩
            | false =>
              rw [hhs] at HHB
              clear hk2 hhs
              go_wp2_with fail
              refine (HKD.out _).mono ?_; rintro e w5 ⟨rfl, b5⟩
              have B5 := Lib.hid (below_step B4.out b5); clear b5
              go_wp2_with fail
              refine (HHB.out _).mono ?_; rintro e w6 ⟨rfl, b6⟩
              have B6 := Lib.hid (below_step B5.out b6); clear b6
              go_wp2_with fail
              refine (HA.out _ (HFR.out.kept HFR.out.1 B6.out)).mono ?_; rintro e w9 ⟨rfl, b9⟩
              have B9 := Lib.hid (below_step B6.out b9); clear b9
              go_wp2_with fail
              go_ret
              exact ⟨rfl, B9.out⟩
          · have qk : ((kindP (bl b) : Int) == 2) = false := by rw [beq_eq_false_iff_ne]; omega
            generalize kindP (bl b) = kb at *
            clear hk2
            go_wp2_with fail
            refine (HKD.out _).mono ?_; rintro e w5 ⟨rfl, b5⟩
            have B5 := Lib.hid (below_step B4.out b5); clear b5
            go_wp2_with fail
            refine (HA.out _ (HFR.out.kept HFR.out.1 B5.out)).mono ?_; rintro e w9 ⟨rfl, b9⟩
            have B9 := Lib.hid (below_step B5.out b9); clear b9
            go_wp2_with fail
            go_ret
            exact ⟨rfl, B9.out⟩
  · rw [brief_two 16 (bl a) ha] at H1
    obtain ⟨z2, hz2⟩ : ∃ z2, z2 = briefP 16 (bl b) := ⟨_, rfl⟩
    rw [← hz2] at H2
    obtain ⟨y, f⟩ := z2
    unfold st2 at H1 H2
    have H1 := Lib.hid H1
    have H2 := Lib.hid H2
    generalize (⟨y.toArray⟩ : ByteArray) = yb at *
    clear hz2 ha
    go_enter Tryd.func4, Tryd.ntmps4
    go_wp2_with fail
    refine (HLA.out w).mono ?_; rintro e v0 ⟨rfl, rfl⟩
    go_wp2_with fail
    refine (HLB.out _).mono ?_; rintro e v0 ⟨rfl, rfl⟩
    go_wp2_with fail
    refine (H1.out _ HFR.out).mono ?_; rintro e w1 ⟨rfl, b1⟩
    have B1 := Lib.hid b1; clear b1
    go_wp2_with fail
    refine (H2.out _ (HFR.out.kept HFR.out.1 B1.out)).mono ?_; rintro e w2 ⟨rfl, b2⟩
    have B2 := Lib.hid (below_step B1.out b2); clear b2 B1
    go_wp2_with fail
    refine (HAT.out _).mono ?_; rintro e w3 ⟨v, L, rfl, ho, hL, b3⟩
    have B3 := Lib.hid (below_step B2.out b3); clear b3 B2
    have HLE := Lib.hid hL
    obtain ⟨ao, cap, rfl, hrow⟩ := ownT_row ho
    have R3 := Lib.hid hrow
    obtain ⟨n, hn⟩ : ∃ n, n = L.length := ⟨_, rfl⟩
    have HN := Lib.hid hn
    have hn6 : n ≤ 16384 := by have h1 := congrArg List.length hL; rw [List.length_map] at h1; have := atoms_len7 (bl a); omega
    have HIN : Hid (∀ k, k < n → ∃ y : List UInt8, atomP (bl (L.getD k ByteArray.empty)) = (y, 0) ∧ hasP (bl a) y = true ∧ y.length ≤ 16384 ∧ (L.getD k ByteArray.empty).size ≤ 32) := Lib.hid (fun k hk => row_atoms hL k (by rw [← hn]; exact hk))
    have HTX : Hid (kindP (bl b) = 2 → hasP (bl a) (bl b) = true → (⟨(textP (bl b)).1.toArray⟩ : ByteArray) ∈ L) := Lib.hid (fun h1 h2 => text_in hL h1 h2)
    rw [← hn]
    clear ho hL hrow hn
    go_wp2_with fail
    go_loopw [10] (fun iv wr => ∃ k : Nat, iv = .int .i64 k ∧ k ≤ n ∧ Hid (Below w3.heap.size w3 wr)) (fun iv _ => n - (intOf iv).toNat)
    case atStart => exact ⟨0, rfl, Nat.zero_le _, Lib.hid (Below.refl _ _)⟩
    case round =>
      obtain ⟨k, rfl, hkn, hb⟩ := hrel
      by_cases hk : k < n
      · have hk' : (k : Int) < (n : Int) := by omega
        have hk0 : (0 : Int) ≤ (k : Int) := by omega
        rcases R3.out.below hb.out with e | ⟨q, off, rfl, hlt, hc⟩
        · exfalso; rw [e] at HN; have := HN.out; simp at this; omega
        have ck := hc k (by rw [← HN.out]; exact hk)
        obtain ⟨y, hy1, hy2, hy3, hy4⟩ := HIN.out k hk
        generalize L.getD k ByteArray.empty = x at *
        have HX := fun V => atom6_any x (by omega) V
        rw [hy1] at HX
        unfold st2 at HX
        have HX := Lib.hid HX
        have HH := fun V => has6_any a ⟨y.toArray⟩ (by omega) (by rw [size_lit]; omega) V
        rw [bl_mk y, hy2] at HH
        have HH := Lib.hid HH
        clear hy1 hy2 hy3 hy4 hc
        go_wp2_with fail
        refine (HX.out _).mono ?_; rintro e w4 ⟨rfl, b4⟩
        have B4 := Lib.hid (below_step hb.out b4); clear b4
        go_wp2_with fail
        refine (HH.out _).mono ?_; rintro e w5 ⟨rfl, b5⟩
        have B5 := Lib.hid (below_step B4.out b5); clear b5
        go_wp2_with fail
        go_roundw
        case rel => exact ⟨k + 1, by go_num, by omega, B5⟩
        case measure => simp [intOf]; omega
      · obtain rfl : k = n := by omega
        have B4 := Lib.hid (below_step B3.out hb.out)
        have R4 := Lib.hid (R3.out.below hb.out)
        clear hk hkn
        by_cases hk2 : kindP (bl b) = 2
        · rw [hk2] at HKD
          cases hhs : hasP (bl a) (bl b) with
          | true =>
            rw [hhs] at HHB
            have HMEM := Lib.hid (HTX.out hk2 hhs)
            have HIX := Lib.hid (fun V hV => rin_any L ao cap (by rw [← HN.out]; omega) ⟨(textP (bl b)).1.toArray⟩ V hV true ⟨fun _ => HMEM.out, fun _ => rfl⟩)
            rw [← HN.out] at HIX
            unfold tb2 at HTB
            generalize textP (bl b) = tx at *
            obtain ⟨t1, t2⟩ := tx
            simp only at HTB HIX
            generalize (⟨t1.toArray⟩ : ByteArray) = tb at *
            clear hk2 hhs
            go_wp2_with fail
            refine (HKD.out _).mono ?_; rintro e w5 ⟨rfl, b5⟩
            have B5 := Lib.hid (below_step B4.out b5); have R5 := Lib.hid (R4.out.below b5); clear b5
            go_wp2_with fail
            refine (HHB.out _).mono ?_; rintro e w6 ⟨rfl, b6⟩
            have B6 := Lib.hid (below_step B5.out b6); have R6 := Lib.hid (R5.out.below b6); clear b6
            go_wp2_with fail
            refine (HTB.out _).mono ?_; rintro e w7 ⟨rfl, b7⟩
            have B7 := Lib.hid (below_step B6.out b7); have R7 := Lib.hid (R6.out.below b7); clear b7
            go_wp2_with fail
            refine (HIX.out _ R7.out).mono ?_; rintro e w8 ⟨rfl, b8⟩
            have B8 := Lib.hid (below_step B7.out b8); clear b8
            go_wp2_with fail
            refine (HA.out _ (HFR.out.kept HFR.out.1 B8.out)).mono ?_; rintro e w9 ⟨rfl, b9⟩
            have B9 := Lib.hid (below_step B8.out b9); clear b9
            go_wp2_with fail
            go_ret
            exact ⟨rfl, B9.out⟩
          | false =>
            rw [hhs] at HHB
            clear hk2 hhs
            go_wp2_with fail
            refine (HKD.out _).mono ?_; rintro e w5 ⟨rfl, b5⟩
            have B5 := Lib.hid (below_step B4.out b5); clear b5
            go_wp2_with fail
            refine (HHB.out _).mono ?_; rintro e w6 ⟨rfl, b6⟩
            have B6 := Lib.hid (below_step B5.out b6); clear b6
            go_wp2_with fail
            refine (HA.out _ (HFR.out.kept HFR.out.1 B6.out)).mono ?_; rintro e w9 ⟨rfl, b9⟩
            have B9 := Lib.hid (below_step B6.out b9); clear b9
            go_wp2_with fail
            go_ret
            exact ⟨rfl, B9.out⟩
        · have qk : ((kindP (bl b) : Int) == 2) = false := by rw [beq_eq_false_iff_ne]; omega
          generalize kindP (bl b) = kb at *
          clear hk2
          go_wp2_with fail
          refine (HKD.out _).mono ?_; rintro e w5 ⟨rfl, b5⟩
          have B5 := Lib.hid (below_step B4.out b5); clear b5
          go_wp2_with fail
          refine (HA.out _ (HFR.out.kept HFR.out.1 B5.out)).mono ?_; rintro e w9 ⟨rfl, b9⟩
          have B9 := Lib.hid (below_step B5.out b9); clear b9
          go_wp2_with fail
          go_ret
          exact ⟨rfl, B9.out⟩
end Go.Proofs.YtiehhlolhhjgpaaDoor.Pl
