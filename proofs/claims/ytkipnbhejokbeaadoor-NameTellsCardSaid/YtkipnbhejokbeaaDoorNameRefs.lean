/- What the document's Script, Skeleton, Clash and Order answer. -/
import Derived.Test.YtkipnbhejokbeaaDoorNameRefCheck
import Derived.Test.YtkipnbhejokbeaaDoorNameComp
import Derived.Test.YtkipnbhejokbeaaDoorNameLooks
import Derived.Test.YtkipnbhejokbeaaDoorNameOrder
import Derived.Laws.Cover4
namespace Go.Proofs.YtkipnbhejokbeaaDoor.Pl
open Go.RowKit

theorem scrL_at : ∀ (l : List Int) (k : Nat), k < l.length → (∀ j, j < k → scrZ (l.getD j 0) = 0) → scrZ (l.getD k 0) ≠ 0 → scrL l = scrZ (l.getD k 0)
  | [], k, h, _, _ => absurd h (Nat.not_lt_zero k)
  | r :: l, 0, _, _, h => by
    have h' : scrZ r ≠ 0 := h
    rw [scrL, if_pos h']; rfl
  | r :: l, k + 1, hk, hz, h => by
    have h0 : scrZ r = 0 := hz 0 (Nat.succ_pos k)
    rw [scrL, if_neg (by simpa using h0)]
    exact scrL_at l k (by simpa using hk) (fun j hj => hz (j + 1) (by omega)) h
theorem scrL_zero : ∀ (l : List Int), (∀ j, j < l.length → scrZ (l.getD j 0) = 0) → scrL l = 0
  | [], _ => rfl
  | r :: l, hz => by
    have h0 : scrZ r = 0 := hz 0 (Nat.succ_pos _)
    rw [scrL, if_neg (by simpa using h0)]
    exact scrL_zero l (fun j hj => hz (j + 1) (by simpa using hj))
theorem okL_pos {l : List Int} (h : okL l) : 0 < l.length := by
  cases l with
  | nil => exact absurd h (by unfold okL; decide)
  | cons => exact Nat.succ_pos _

set_option maxHeartbeats 2000000 in
set_option maxRecDepth 100000 in
theorem rscript_any (s : ByteArray) (hs : s.size ≤ 1000000) (w : World) :
    Calls Tryd.prog 14 #[.string s] w fun e w' => e = .returned (.int .u8 (scriptL (runes s))) ∧ Below w.heap.size w w' := by
  have HR := Lib.hid (rrunes_any s hs w)
  have HC := Lib.hid (fun V => rcheck_any s hs V)
  obtain ⟨z, hz⟩ : ∃ z, z = scriptL (runes s) := ⟨_, rfl⟩
  rw [← hz]
  unfold scriptL at hz
  have hl0 := Nat.le_trans (runes_length s) hs
  generalize runes s = l at *
  obtain ⟨n, hn⟩ : ∃ n, n = l.length := ⟨_, rfl⟩
  have HN := Lib.hid hn
  rw [← hn] at hl0
  by_cases hok : okL l
  · have HP := Lib.hid (okL_pos hok)
    have HZ : Hid (z = scrL l) := Lib.hid (hz.trans (if_pos hok))
    rw [show checkL l = 0 from hok] at HC
    clear hs hz hn hok
    go_enter Tryd.func14, Tryd.ntmps14
    go_wp2_with fail
    refine HR.out.mono ?_; rintro e w1 ⟨v, rfl, ho, b1⟩
    obtain ⟨ao, cap, rfl, hrow⟩ := own_row ho
    have B1 := Lib.hid b1
    rw [← HN.out]
    rcases hrow with e | ⟨g, rfl, hg, hc⟩
    · exfalso; have := HP.out; rw [e] at this; simp at this
    have HCC : Hid (∀ k, k < n → ∀ W, Below w1.heap.size w1 W → W.cell? ⟨g, k, none⟩ = some (.int .i32 (l.getD k 0))) := Lib.hid (fun k hk W hb => (hb.cell (p := ⟨g, k, none⟩) hg).trans (hc k (by have := HN.out; omega)))
    have HGW := Lib.hid hg
    clear ho b1 hc hg
    go_wp2_with fail
    go_loopw [4] (fun i wr => ∃ k : Nat, i = .int .i64 k ∧ k ≤ n ∧ Hid (∀ j, j < k → scrZ (l.getD j 0) = 0) ∧ Hid (Below w1.heap.size w1 wr)) (fun i _ => n - (intOf i).toNat)
    case atStart => exact ⟨0, rfl, Nat.zero_le _, Lib.hid (fun j hj => absurd hj (Nat.not_lt_zero j)), Lib.hid (Below.refl _ _)⟩
    case round =>
      obtain ⟨k, rfl, hkn, hch, hw⟩ := hrel
      by_cases hk : k < n
      · have hk' : (k : Int) < (n : Int) := by omega
        have HNX : Hid (scrZ (l.getD k 0) = 0 → ∀ j, j < k + 1 → scrZ (l.getD j 0) = 0) := Lib.hid (fun h j hj => by
          by_cases e : j = k
          · rw [e]; exact h
          · exact hch.out j (by omega))
        have HAT : Hid (scrZ (l.getD k 0) ≠ 0 → z = scrZ (l.getD k 0)) := Lib.hid (fun h => by rw [HZ.out]; exact scrL_at l k (by have := HN.out; omega) hch.out h)
        have HCK := Lib.hid (HCC.out k hk)
        have HSC := Lib.hid (fun V => script_any (l.getD k 0) V)
        obtain ⟨sx, hsx⟩ : ∃ sx, sx = scrZ (l.getD k 0) := ⟨_, rfl⟩
        rw [← hsx] at HNX HAT HSC
        generalize l.getD k 0 = r at *
        clear hsx
        go_wp2_with fail
        refine (HC.out _).mono ?_; rintro e w2 ⟨rfl, b2⟩
        have HW := Lib.hid (hw.out.trans (b2.mono hw.out.size))
        have ck := HCK.out w2 HW.out
        have B2 := Lib.hid (below_step B1.out HW.out)
        clear b2
        by_cases e0 : sx = 0
        · subst e0
          go_wp2_with fail
          refine (HSC.out _).mono ?_; rintro e w3 ⟨rfl, rfl⟩
          go_wp2_with fail
          go_roundw
          case rel => exact ⟨k + 1, by go_num, by omega, Lib.hid (HNX.out (by first | rfl | trivial)), HW⟩
          case measure => simp [intOf]; omega
        · have q0 : (sx != 0) = true := by rw [bne_iff_ne]; exact e0
          have HQ := Lib.hid (HAT.out e0)
          clear e0
          go_wp2_with fail
          refine (HSC.out _).mono ?_; rintro e w3 ⟨rfl, rfl⟩
          go_wp2_with fail
          refine (HSC.out _).mono ?_; rintro e w3 ⟨rfl, rfl⟩
          go_wp2_with fail
          go_ret
          exact ⟨ret_i8 HQ.out.symm, B2.out⟩
      · obtain rfl : k = n := by omega
        have HQ : Hid (z = 0) := Lib.hid (by rw [HZ.out]; exact scrL_zero l (fun j hj => hch.out j (by have := HN.out; omega)))
        have B2 := Lib.hid (below_step B1.out hw.out)
        clear hk hkn
        go_wp2_with fail
        go_ret
        exact ⟨ret_i8 HQ.out.symm, B2.out⟩
  · have HZ : Hid (z = 0) := Lib.hid (hz.trans (if_neg hok))
    have q : (checkL l == 0) = false := by rw [beq_eq_false_iff_ne]; exact hok
    generalize checkL l = c at *
    clear hs hz hn hok
    go_enter Tryd.func14, Tryd.ntmps14
    go_wp2_with fail
    refine HR.out.mono ?_; rintro e w1 ⟨v, rfl, ho, b1⟩
    obtain ⟨ao, cap, rfl, hrow⟩ := own_row ho
    have B1 := Lib.hid b1
    rw [← HN.out]
    clear ho b1 hrow
    by_cases h0 : n = 0
    · subst h0
      go_wp2_with fail
      refine wp_loop_rounds 1 ?_; rw [rounds_succ]; go_wp2_with fail
      go_ret
      exact ⟨ret_i8 HZ.out.symm, B1.out⟩
    · have hn0 : (0 : Int) < (n : Int) := by omega
      clear h0
      go_wp2_with fail
      refine wp_loop_rounds 1 ?_; rw [rounds_succ]; go_wp2_with fail
      refine (HC.out _).mono ?_; rintro e w2 ⟨rfl, b2⟩
      have B2 := Lib.hid (below_step B1.out b2)
      clear b2
      go_wp2_with fail
      go_ret
      exact ⟨ret_i8 HZ.out.symm, B2.out⟩

theorem encode_short {r : Int} (h : Short r) : (Utf8.encode r).data.toList = Lib.encodeRune r := by
  obtain ⟨h0, h1⟩ := h
  have hv : Utf8.valid r = true := by
    unfold Utf8.valid
    rw [Bool.or_eq_true, Bool.and_eq_true, decide_eq_true_eq, decide_eq_true_eq]
    exact .inl ⟨h0, by omega⟩
  unfold Utf8.encode
  simp only [hv, if_true]
  by_cases h : r < 128
  · have hn : r.toNat < 0x80 := by omega
    rw [if_pos hn, enc_one h0 h]
  · have hn : ¬ r.toNat < 0x80 := by omega
    have hn2 : r.toNat < 0x800 := by omega
    rw [if_neg hn, if_pos hn2, enc_two (by omega) h1]
    show [UInt8.ofNat (0xC0 + r.toNat / 64), UInt8.ofNat (0x80 + r.toNat % 64)] = _
    rw [show 0xC0 + r.toNat / 64 = (192 + r / 64).toNat by omega, show 0x80 + r.toNat % 64 = (128 + r % 64).toNat by omega]
theorem fold_bytes : ∀ (l : List Int) (b : ByteArray), (∀ r ∈ l, Short r) → (l.foldl (fun r n => r ++ Utf8.encode n) b).data.toList = b.data.toList ++ encL l
  | [], b, _ => by simp [encL]
  | r :: l, b, h => by
    rw [List.foldl_cons, fold_bytes l _ (fun x hx => h x (List.mem_cons_of_mem _ hx)), encL_cons, ByteArray.data_append, Array.toList_append, encode_short (h r (List.mem_cons_self ..)), List.append_assoc]
theorem runesBytes_enc (l : List Int) (h : ∀ r ∈ l, Short r) : runesBytes l = ⟨(encL l).toArray⟩ := by
  apply ba_ext
  unfold runesBytes
  rw [fold_bytes l _ h]
  rfl

set_option maxHeartbeats 2000000 in
set_option maxRecDepth 100000 in
theorem rskel_any (s : ByteArray) (hs : s.size ≤ 1000000) (w : World) :
    Calls Tryd.prog 10 #[.string s] w fun e w' => e = .returned (.tuple #[.string (skB s), .int .i64 (checkL (runes s))]) ∧ Below w.heap.size w w' := by
  have HC := Lib.hid (rcheck_any s hs w)
  have HK := Lib.hid (fun V => rlooks_any s hs V)
  by_cases hok : okL (runes s)
  · have HB : Hid (runesBytes ((runes s).map lookZ) = skB s) := Lib.hid (by rw [runesBytes_enc _ (okL_looks hok), skB_ok hok]; rfl)
    have HP : Hid (0 < ((runes s).map lookZ).length) := Lib.hid (by rw [List.length_map]; exact okL_pos hok)
    rw [show checkL (runes s) = 0 from hok] at HC ⊢
    generalize (runes s).map lookZ = l at *
    generalize skB s = t at *
    clear hs hok
    go_enter Tryd.func10, Tryd.ntmps10
    go_wp2_with fail
    refine HC.out.mono ?_; rintro e w1 ⟨rfl, b1⟩
    have B1 := Lib.hid b1
    clear b1
    go_wp2_with fail
    refine (HK.out w1).mono ?_; rintro e w2 ⟨v, rfl, ho, b2⟩
    have B2 := Lib.hid (below_step B1.out b2)
    obtain ⟨ao, cap, rfl, hrow⟩ := own_row ho
    rcases hrow with e | ⟨g, rfl, hg, hc⟩
    · exfalso; have := HP.out; rw [e] at this; simp at this
    have hcv : (convert 48 9 (.slice (some ⟨g, 0, none⟩) l.length cap)).run Tryd.prog w2 = .ok (.string t) w2 := by
      rw [run_convert_runes w2 _ _ 21 ⟨g, 0, none⟩ l.length cap l (Nat.le_refl _) Tryd.underlying48 Tryd.underlying21 Tryd.underlying9 (fun j hj => by rw [show (⟨g, 0, none⟩ : Addr).add j = ⟨g, j, none⟩ by unfold Addr.add; split <;> simp_all]; exact hc j hj), List.take_of_length_le (Nat.le_refl _), HB.out]
    clear b2 ho hg hc
    go_wp2_with fail
    go_ret2
    exact ⟨rfl, B2.out⟩
  · have q : (checkL (runes s) != 0) = true := by rw [bne_iff_ne]; exact hok
    rw [skB, if_neg hok]
    generalize checkL (runes s) = c at *
    clear hs hok
    go_enter Tryd.func10, Tryd.ntmps10
    go_wp2_with fail
    refine HC.out.mono ?_; rintro e w1 ⟨rfl, b1⟩
    have B1 := Lib.hid b1
    clear b1
    go_wp2_with fail
    go_ret2
    exact ⟨rfl, B1.out⟩
end Go.Proofs.YtkipnbhejokbeaaDoor.Pl
