/- What show.lineOf, Brief and Line answer. -/
import Derived.Test.YtiehhlolhhjgpaaGreatDoorShowZ6
import Derived.Test.YtiehhlolhhjgpaaGreatDoorShowZ4
import Derived.Test.YtiehhlolhhjgpaaGreatDoorShowZ5
namespace Go.Proofs.YtiehhlolhhjgpaaGreatDoor.Pl
open Go.RowKit

def linesRow (ls : List (List UInt8)) (P : List ByteArray) (k : Nat) : List ByteArray := (ls.take k).map (fun l => (⟨l.toArray⟩ : ByteArray)) ++ P.drop k
theorem linesRow_len (ls : List (List UInt8)) (P : List ByteArray) (k : Nat) (h : ls.length = P.length) (hk : k ≤ P.length) : (linesRow ls P k).length = P.length := by
  unfold linesRow; rw [List.length_append, List.length_map, List.length_take, List.length_drop]; omega
theorem linesRow_at (ls : List (List UInt8)) (P : List ByteArray) (k : Nat) (h : ls.length = P.length) (hk : k < P.length) : (linesRow ls P k).getD k ByteArray.empty = P.getD k ByteArray.empty := by
  unfold linesRow
  have e : ((ls.take k).map (fun l => (⟨l.toArray⟩ : ByteArray))).length = k := by rw [List.length_map, List.length_take]; omega
  rw [List.getD_eq_getElem?_getD, List.getElem?_append_right (by omega), e, Nat.sub_self, List.getElem?_drop, Nat.add_zero, List.getD_eq_getElem?_getD]
theorem linesRow_set (ls : List (List UInt8)) (P : List ByteArray) (k : Nat) (h : ls.length = P.length) (hk : k < P.length) : (linesRow ls P k).set k ⟨(ls.getD k []).toArray⟩ = linesRow ls P (k + 1) := by
  unfold linesRow
  have e : ((ls.take k).map (fun l => (⟨l.toArray⟩ : ByteArray))).length = k := by rw [List.length_map, List.length_take]; omega
  rw [List.set_append_right _ _ (by omega), e, Nat.sub_self, List.drop_eq_getElem_cons hk, List.set_cons_zero, List.take_succ_eq_append_getElem (by omega : k < ls.length), List.map_append, List.append_assoc]
  rw [List.getD_eq_getElem?_getD, List.getElem?_eq_getElem (by omega : k < ls.length)]
  rfl
theorem linesRow_end (ls : List (List UInt8)) (P : List ByteArray) (h : ls.length = P.length) : linesRow ls P P.length = ls.map (fun l => (⟨l.toArray⟩ : ByteArray)) := by
  unfold linesRow; rw [List.drop_length, List.append_nil, ← h, List.take_length]
set_option maxHeartbeats 4000000 in
set_option maxRecDepth 100000 in
theorem lineof7_any : ∀ T : Tm, T.valid → ∀ (s : ByteArray), bl s = T.enc → ∀ (dep : Nat) (most deep : Int), deep = most - dep + 1 → deep ≤ 9223372036854775807 → ∀ w : World, Frames w →
    Calls Tryz.prog 25 #[.string s, .int .i64 deep] w fun e w' => e = .returned (.string ⟨(lineT most T dep).toArray⟩) ∧ Below w.heap.size w w' := by
  refine Tm.ind ?_
  intro h l ih hv s hs dep most deep hdp hdm w hF
  have hss : s.size ≤ 16384 := by rw [size_bl, hs]; exact hv.2.2
  obtain ⟨z, hz⟩ : ∃ z, z = lineT most (.node h l) dep := ⟨_, rfl⟩
  rw [← hz]
  rw [lineT_node] at hz
  by_cases hm : most < (dep : Int)
  · rw [if_pos hm] at hz
    have HZ := Lib.hid hz
    rw [HZ.out]
    have hd1 : deep < 1 := by omega
    clear hz ih hv hs hm hdp
    go_enter Tryz.func25, Tryz.ntmps25
    go_wp2_with fail
    go_ret
    exact ⟨rfl, Below.refl _ _⟩
  rw [if_neg hm] at hz
  have hd1 : 1 ≤ deep := by omega
  have HK := Lib.hid (fun V => tkind_any s (by omega) V)
  have HT := Lib.hid (fun V => text6_any s (by omega) V)
  have HP := Lib.hid (fun V => parts6_any s (by omega) V)
  rw [hs] at HK HT HP
  rcases wrap_parts hv with ⟨x, hx, hxl⟩ | ⟨x, hx, hxl⟩ | ⟨kd, hkd, htx, hw⟩
  · rw [kind_head hv hx] at HK
    rw [text_head hv hx (.inl rfl) hxl] at HT
    rw [hx, wrap_data hxl] at hz
    have HD := Lib.hid (fun V => datumline7_any ⟨x.toArray⟩ (by rw [size_lit]; omega) V)
    rw [bl_mk x, ← hz] at HD
    clear HP ih hv hs hz hx hxl hdp hm
    go_enter Tryz.func25, Tryz.ntmps25
    go_wp2_with fail
    refine (HK.out w).mono ?_; rintro e w1 ⟨rfl, b1⟩
    go_wp2_with fail
    refine (HT.out w1).mono ?_; rintro e w2 ⟨rfl, b2⟩
    simp only [tb2]
    go_wp2_with fail
    refine (HD.out w2).mono ?_; rintro e w3 ⟨rfl, b3⟩
    go_wp2_with fail
    go_ret
    exact ⟨rfl, below_step (below_step b1 b2) b3⟩
  · rw [kind_head hv hx] at HK
    rw [text_head hv hx (.inr rfl) hxl] at HT
    rw [hx, wrap_atom hxl] at hz
    have HZ : Hid ((⟨#[36]⟩ : ByteArray) ++ ⟨x.toArray⟩ = ⟨z.toArray⟩) := Lib.hid (by
      apply bl_inj; rw [cat_bytes, bl_mk x, bl_mk z, hz]; rfl)
    have hsz : (⟨x.toArray⟩ : ByteArray).size ≤ 9223372036854775806 := by rw [size_lit]; omega
    rw [← HZ.out]
    simp only [tb2] at HT
    generalize (⟨x.toArray⟩ : ByteArray) = xb at *
    clear HP ih hv hs hx hz hdp hm
    go_enter Tryz.func25, Tryz.ntmps25
    go_wp2_with fail
    refine (HK.out w).mono ?_; rintro e w1 ⟨rfl, b1⟩
    go_wp2_with fail
    refine (HT.out w1).mono ?_; rintro e w2 ⟨rfl, b2⟩
    go_wp2_with fail
    go_ret
    exact ⟨rfl, below_step b1 b2⟩
  · rw [hkd] at HK
    rw [htx] at HT
    rw [parts_node hv] at HP
    have hl32 : l.length ≤ 32 := by
      have hg := hv.1
      simp only [Tm.good] at hg
      obtain ⟨c, hkd⟩ := head_kind hg.1
      cases hkd <;> omega
    obtain ⟨ls, hls⟩ : ∃ ls, ls = l.map fun t => lineT most t (dep + 1) := ⟨_, rfl⟩
    have hll : ls.length = l.length := by rw [hls, List.length_map]
    have IH : Hid (∀ k, (hk : k < l.length) → ∀ y : ByteArray, bl y = l[k].enc → ∀ V, Frames V → Calls Tryz.prog 25 #[.string y, .int .i64 (deep - 1)] V fun e w' => e = .returned (.string ⟨(ls.getD k []).toArray⟩) ∧ Below V.heap.size V w') := Lib.hid (fun k hk y hy V hV => by
      have := ih l[k] (List.getElem_mem hk) (node_valid_parts hv _ (List.getElem_mem hk)) y hy (dep + 1) most (deep - 1) (by omega) (by omega) V hV
      rw [hls, List.getD_eq_getElem?_getD, List.getElem?_map, List.getElem?_eq_getElem hk]
      exact this)
    have hjl : (joinL ls).length ≤ 65536 := by
      have hg := hv.1
      simp only [Tm.good] at hg
      have := joinL_len l (fun t => lineT most t (dep + 1)) (fun t ht => lineT_len most t (goods_mem hg.2 t ht) (dep + 1))
      have h2 := hv.2.2
      rw [Tm.enc_node, List.length_append] at h2
      rw [hls]; omega
    have HJL := Lib.hid hjl
    have HZ : Hid (∀ kd, ((kd = 3 ∧ ∀ ls, wrapL h ls = 91 :: (joinL ls ++ [93])) ∨ (kd = 4 ∧ ∀ ls, wrapL h ls = 104 :: 40 :: (joinL ls ++ [41])) ∨ (kd = 5 ∧ ∀ ls, wrapL h ls = 109 :: 40 :: (joinL ls ++ [41])) ∨ (kd = 6 ∧ ∀ ls, wrapL h ls = 115 :: 40 :: (joinL ls ++ [41]))) → frameW kd (joinL ls) = z) := Lib.hid (fun kd hw => by
      rw [hz, ← hls]
      rcases hw with ⟨rfl, e⟩ | ⟨rfl, e⟩ | ⟨rfl, e⟩ | ⟨rfl, e⟩ <;> rw [e] <;> rfl)
    have HZK := Lib.hid (HZ.out kd hw)
    obtain ⟨n, hn⟩ : ∃ n, n = l.length := ⟨_, rfl⟩
    have HN := Lib.hid hn
    rw [← hn] at hll hl32
    have HLL := Lib.hid hll
    have HPE : Hid (∀ L : List ByteArray, L.map bl = l.map Tm.enc → L.length = n ∧ ∀ k, (hk : k < l.length) → bl (L.getD k ByteArray.empty) = l[k].enc) := Lib.hid (fun L e => by
      have hL : L.length = l.length := by simpa using congrArg List.length e
      refine ⟨by rw [hL, hn], fun k hk => ?_⟩
      have hk' : k < L.length := by omega
      have := congrArg (fun q => q[k]?) e
      simp only [List.getElem?_map, List.getElem?_eq_getElem hk, List.getElem?_eq_getElem hk', Option.map_some, Option.some.injEq] at this
      rw [List.getD_eq_getElem?_getD, List.getElem?_eq_getElem hk']
      exact this)
    have hkd0 : kd = 3 ∨ kd = 4 ∨ kd = 5 ∨ kd = 6 := by rcases hw with h | h | h | h <;> omega
    have q1 : ((kd : Int) == 1) = false := by rw [beq_eq_false_iff_ne]; omega
    have q2 : ((kd : Int) == 2) = false := by rw [beq_eq_false_iff_ne]; omega
    have HKD := Lib.hid hkd0
    have HFR := Lib.hid hF
    clear ih hv hs hls hz hn hjl hw hkd htx hdp hm hkd0 HZ hF
    go_enter Tryz.func25, Tryz.ntmps25
    go_wp2_with fail
    refine (HK.out w).mono ?_; rintro e w1 ⟨rfl, b1⟩
    go_wp2_with fail
    refine (HT.out w1).mono ?_; rintro e w2 ⟨rfl, b2⟩
    simp only [tb2]
    go_wp2_with fail
    refine (HP.out w2).mono ?_; rintro e w3 ⟨v, P, rfl, ho, hPb, b3⟩
    obtain ⟨hPl, hPe⟩ := HPE.out P hPb
    have PE := Lib.hid hPe
    have B1 := Lib.hid (below_step (below_step b1 b2) b3)
    have W2 : Hid (w.heap.size ≤ w2.heap.size) := Lib.hid (Nat.le_trans b1.size b2.size)
    have PL := Lib.hid hPl
    by_cases hn0 : n = 0
    · obtain ⟨ao, cap, rfl, _⟩ := ownT_row ho
      have hP0 : P.length = 0 := by omega
      have hl0 : joinL ls = [] := by rw [List.length_eq_zero_iff.1 (by omega : ls.length = 0)]; rfl
      rw [hl0] at HZK
      rw [hP0]
      have JN := Lib.hid (fun V => Tryz.strings_Join_none ao cap ⟨#[44, 32]⟩ V)
      have FRM := Lib.hid (fun V hV => framed7_any kd HKD.out ⟨#[]⟩ (by decide) V hV)
      have F3 := Lib.hid (HFR.out.kept HFR.out.1 B1.out)
      clear b1 b2 b3 ho hPb hPe hn0 hP0 hl0 hPl
      go_wp2_with fail
      refine wp_loop_rounds 1 ?_
      rw [rounds_succ]
      go_wp2_with (first | (go_at_call 49; refine (JN.out _).mono ?_; rintro e w4 ⟨rfl, rfl⟩) | (go_at_call 48; refine (FRM.out _ F3.out).mono ?_; rintro e w5 ⟨rfl, b5⟩; have B5 := Lib.hid (below_step B1.out b5); clear b5))
      go_ret
      exact ⟨ret6_str (by rw [← HZK.out]; rfl), B5.out⟩
    · obtain ⟨g, cap, rfl, hg, hcap, hrow⟩ := RowS.of_own ho (by omega)
      have R1 := Lib.hid hrow
      have GW : Hid (w.heap.size ≤ g) := Lib.hid (Nat.le_trans W2.out hg)
      have HCAP : Hid (n ≤ cap) := Lib.hid (by omega)
      rw [hPl]
      clear b1 b2 b3 ho hrow hPb hPe hg hcap hn0
      go_wp2_with fail
      go_loopw [37] (fun iv wr => ∃ k : Nat, iv = .int .i64 k ∧ k ≤ n ∧ Hid (RowS wr g (linesRow ls P k)) ∧ Hid (Below w.heap.size w wr)) (fun iv _ => n - (intOf iv).toNat)
      case atStart => exact ⟨0, rfl, Nat.zero_le _, Lib.hid (by have := R1.out; unfold linesRow; simpa using this), B1⟩
      case round =>
        obtain ⟨k, rfl, hkn, hR, hb⟩ := hrel
        have hLP : ls.length = P.length := by rw [HLL.out, PL.out]
        by_cases hk : k < n
        · have hk' : (k : Int) < (n : Int) := by omega
          have hk0 : (0 : Int) ≤ (k : Int) := by omega
          have hkP : k < P.length := by rw [PL.out]; exact hk
          have hkl : k < l.length := by rw [← HN.out]; exact hk
          have hc := hR.out.cell k (by rw [linesRow_len ls P k hLP (by omega)]; exact hkP)
          rw [linesRow_at ls P k hLP hkP] at hc
          have HY := Lib.hid (PE.out k hkl)
          have HSET := Lib.hid (linesRow_set ls P k hLP hkP)
          generalize P.getD k ByteArray.empty = y at *
          have HC := Lib.hid (IH.out k hkl y HY.out wr (HFR.out.kept HFR.out.1 hb.out))
          generalize (⟨(ls.getD k []).toArray⟩ : ByteArray) = x at *
          have HKN := Lib.hid hk
          have hkp := hR.out.lt
          have HLP := Lib.hid hLP
          clear hkl hkP HY hLP
          go_wp2_with (go_at_call 25; refine HC.out.mono ?_; rintro e w4 ⟨rfl, b4⟩; have R4 := Lib.hid (RowS.below hR.out b4); have hc4 := RowS.cell R4.out k (by rw [linesRow_len ls P k HLP.out (by rw [PL.out]; exact Nat.le_of_lt HKN.out), PL.out]; exact HKN.out); have hf4 := RowS.frozen R4.out k; have B4 := Lib.hid (below_step hb.out b4); clear b4)
          go_roundw
          case rel => exact ⟨k + 1, by go_num, by omega, Lib.hid (by rw [← HSET.out]; exact R4.out.set k x), Lib.hid (B4.out.setCell (p := ⟨g, k, none⟩) GW.out _)⟩
          case measure => simp [intOf]; omega
        · obtain rfl : k = n := by omega
          have hRE := hR.out
          rw [← PL.out, linesRow_end ls P hLP] at hRE
          have HRE := Lib.hid hRE
          obtain ⟨xs, hxs⟩ : ∃ xs, xs = ls.map (fun l => (⟨l.toArray⟩ : ByteArray)) := ⟨_, rfl⟩
          have hxl : xs.length = k := by rw [hxs, List.length_map, HLL.out]
          have hxb : xs.map (·.data.toList) = ls := by
            rw [hxs, List.map_map]
            conv => rhs; rw [← List.map_id ls]
            exact List.map_congr_left fun _ _ => rfl
          rw [← hxs] at HRE
          have JN := Lib.hid (Tryz.strings_Join g 0 cap xs ⟨#[44, 32]⟩ wr (fun j x hj => by
            have hjl : j < xs.length := (List.getElem?_eq_some_iff.1 hj).1
            have h := HRE.out.cell j hjl
            rw [List.getD_eq_getElem?_getD, hj] at h
            rw [Nat.zero_add]; exact h) HRE.out.lt (by omega) (by rw [hxl]; exact HCAP.out) (by
            rw [hxb]
            show (Lib.join ls [44, 32]).length ≤ _
            rw [join_eq]; have := HJL.out; omega))
          rw [hxb, hxl] at JN
          have FRM := Lib.hid (fun V hV => framed7_any kd HKD.out ⟨(joinL ls).toArray⟩ (by rw [size_lit]; have := HJL.out; omega) V hV)
          rw [bl_mk, HZK.out] at FRM
          have JN2 : Hid (Calls Tryz.prog 49 #[.slice (some ⟨g, 0, none⟩) k cap, .string ⟨#[44, 32]⟩] wr fun e w' => e = .returned (.string ⟨(joinL ls).toArray⟩) ∧ Below wr.heap.size wr w') := Lib.hid (by
            have h := JN.out
            rw [show (Lib.join ls (⟨#[44, 32]⟩ : ByteArray).data.toList) = joinL ls from join_eq ls] at h
            exact h)
          generalize (joinL ls).toArray = J at *
          clear hRE hxs hxl hxb hLP hk hkn JN
          go_wp2_with (first | (go_at_call 49; refine JN2.out.mono ?_; rintro e w4 ⟨rfl, b4⟩; have B4 := Lib.hid (below_step hb.out b4); clear b4) | (go_at_call 48; refine (FRM.out _ (HFR.out.kept HFR.out.1 B4.out)).mono ?_; rintro e w5 ⟨rfl, b5⟩; have B5 := Lib.hid (below_step B4.out b5); clear b5))
          go_ret
          exact ⟨rfl, B5.out⟩
set_option maxRecDepth 100000 in
theorem brief7_any (s : ByteArray) (most : Int) (hm : most ≤ 9223372036854775807) (hs : s.size ≤ 281474976710656) (w : World) (hF : Frames w) :
    Calls Tryz.prog 9 #[.string s, .int .i64 most] w fun e w' => e = .returned (st2 (briefP most (bl s))) ∧ Below w.heap.size w w' := by
  have HM := Lib.hid (check_any s hs w)
  obtain ⟨z, hz⟩ : ∃ z, z = briefP most (bl s) := ⟨_, rfl⟩
  rw [← hz]
  by_cases hc : checkP (bl s) = 0
  · obtain ⟨T, tv, te, _⟩ := tree_of hc
    rw [hc] at HM
    rw [te, briefP_some tv] at hz
    have HC : Hid (∀ V, Frames V → Calls Tryz.prog 25 #[.string s, .int .i64 most] V fun e w' => e = .returned (.string ⟨z.1.toArray⟩) ∧ Below V.heap.size V w') := Lib.hid (fun V hV => by
      rw [hz]; exact lineof7_any T tv s te 1 most most (by omega) hm V hV)
    have HZ2 : Hid (z.2 = 0) := Lib.hid (by rw [hz])
    have HFR := Lib.hid hF
    clear hz hc te tv hF
    obtain ⟨z1, z2⟩ := z
    simp only at HC HZ2
    go_enter Tryz.func9, Tryz.ntmps9
    go_wp2_with fail
    refine HM.out.mono ?_; rintro e w1 ⟨rfl, b1⟩
    go_wp2_with fail
    refine (HC.out w1 (HFR.out.below b1)).mono ?_; rintro e w2 ⟨rfl, b2⟩
    go_wp2_with fail
    go_ret2
    exact ⟨by rw [HZ2.out]; rfl, below_step b1 b2⟩
  · rw [briefP_none hc] at hz
    have HZ := Lib.hid hz
    have qc : ((checkP (bl s) : Int) == 0) = false := by rw [beq_eq_false_iff_ne]; omega
    have qc2 : ((checkP (bl s) : Int) != 0) = true := by rw [bne_iff_ne]; omega
    generalize checkP (bl s) = c at *
    clear hz hc
    go_enter Tryz.func9, Tryz.ntmps9
    go_wp2_with fail
    refine HM.out.mono ?_; rintro e w1 ⟨rfl, b1⟩
    go_wp2_with fail
    go_ret2
    exact ⟨by rw [HZ.out]; rfl, b1⟩
theorem line7_any (s : ByteArray) (hs : s.size ≤ 281474976710656) (w : World) (hF : Frames w) :
    Calls Tryz.prog 7 #[.string s] w fun e w' => e = .returned (st2 (briefP 16 (bl s))) ∧ Below w.heap.size w w' := by
  have HB := Lib.hid (brief7_any s 16 (by decide) hs w hF)
  rw [show st2 (briefP 16 (bl s)) = .tuple #[.string ⟨(briefP 16 (bl s)).1.toArray⟩, .int .i64 (briefP 16 (bl s)).2] from rfl] at HB ⊢
  generalize briefP 16 (bl s) = z at *
  go_enter Tryz.func7, Tryz.ntmps7
  go_wp2_with fail
  refine HB.out.mono ?_; rintro e w1 ⟨rfl, b1⟩
  go_wp2_with fail
  go_ret2
  exact ⟨rfl, b1⟩
end Go.Proofs.YtiehhlolhhjgpaaGreatDoor.Pl
