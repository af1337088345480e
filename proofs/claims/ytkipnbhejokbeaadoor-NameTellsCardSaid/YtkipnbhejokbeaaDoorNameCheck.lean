/- What Check and Script answer. -/
import Derived.Test.YtkipnbhejokbeaaDoorNameFound
import Derived.Test.YtkipnbhejokbeaaDoorNameRune
import Derived.Test.YtkipnbhejokbeaaDoorShelf
namespace Go.Proofs.YtkipnbhejokbeaaDoor.Pl
open Go.RowKit

theorem toU8_ne {n : Int} (h0 : 0 ≤ n) (h1 : n < 256) (h : n ≠ 45) : n.toNat.toUInt8 ≠ 45 := by
  intro e
  have := congrArg UInt8.toNat e
  simp only [Nat.toUInt8, UInt8.toNat_ofNat'] at this
  have h3 : (45 : UInt8).toNat = 45 := rfl
  omega
theorem enc_head (r : Int) (hr : Short r) (l : List UInt8) : (Lib.encodeRune r ++ l).head? = some 45 ↔ r = 45 := by
  obtain ⟨h0, h1⟩ := hr
  by_cases h : r < 128
  · rw [enc_one h0 h]
    show some _ = some _ ↔ _
    constructor
    · intro e
      by_cases h45 : r = 45
      · exact h45
      · exact absurd (Option.some.inj e) (toU8_ne h0 (by omega) h45)
    · rintro rfl; rfl
  · rw [enc_two (by omega) h1]
    show some _ = some _ ↔ _
    constructor
    · intro e
      exact absurd (Option.some.inj e) (toU8_ne (by omega) (by omega) (by omega))
    · intro e; omega
theorem enc_last (r : Int) (hr : Short r) (l : List UInt8) : (l ++ Lib.encodeRune r).getLast? = some 45 ↔ r = 45 := by
  obtain ⟨h0, h1⟩ := hr
  by_cases h : r < 128
  · rw [enc_one h0 h, List.getLast?_append]
    show some _ = some _ ↔ _
    constructor
    · intro e
      by_cases h45 : r = 45
      · exact h45
      · exact absurd (Option.some.inj e) (toU8_ne h0 (by omega) h45)
    · rintro rfl; rfl
  · rw [enc_two (by omega) h1, List.getLast?_append]
    show some _ = some _ ↔ _
    constructor
    · intro e
      exact absurd (Option.some.inj e) (toU8_ne (by omega) (by omega) (by omega))
    · intro e; omega
theorem pre_head (L : List UInt8) (c : UInt8) : Lib.hasPrefix L [c] = true ↔ L.head? = some c := by
  cases L with
  | nil => simp [Lib.hasPrefix]
  | cons x L =>
    simp only [Lib.hasPrefix, List.isPrefixOf, Bool.and_true, beq_iff_eq, List.head?_cons, Option.some.injEq]
    exact eq_comm
theorem suf_last (L : List UInt8) (c : UInt8) : Lib.hasSuffix L [c] = true ↔ L.getLast? = some c := by
  rw [Lib.hasSuffix, List.isSuffixOf_iff_suffix]
  constructor
  · rintro ⟨t, rfl⟩; exact List.getLast?_concat
  · intro h
    obtain ⟨t, rfl⟩ := List.getLast?_eq_some_iff.1 h
    exact ⟨t, rfl⟩
/-- Which of the ways Check takes. -/
def way (n : Nat) (ot pre suf mi : Bool) : Int := if 24 < n then 5 else if n = 0 then 7 else if ot then 7 else if pre then 7 else if suf then 7 else if mi then 50 else 0
theorem check_way (s : ByteArray) : checkL (runes s) = way (runes s).length (foundT (runes s)).ot (Lib.hasPrefix s.data.toList [45]) (Lib.hasSuffix s.data.toList [45]) (foundT (runes s)).mi := by
  unfold checkL way
  by_cases h24 : 24 < (runes s).length
  · rw [if_pos h24, if_pos h24]
  · rw [if_neg h24, if_neg h24]
    have hT : foundT (runes s) = trL (runes s) := by unfold foundT; rw [List.take_of_length_le (by omega)]
    rw [hT]
    by_cases h0 : (runes s).length = 0
    · rw [if_pos h0, if_pos (.inl (List.length_eq_zero_iff.1 h0))]
    · rw [if_neg h0]
      by_cases ho : (trL (runes s)).ot = true
      · rw [if_pos ho, if_pos (.inr (.inr (.inr (by rw [← trL_ot]; exact ho))))]
      · rw [if_neg ho]
        have hsh : ∀ r ∈ runes s, Short r := by
          intro r hr
          cases e : chrZ r with
          | true => exact chrZ_short e
          | false => exact absurd (by rw [trL_ot, List.any_eq_true]; exact ⟨r, hr, by rw [e]; rfl⟩) ho
        have hen := runes_enc s hsh
        have hp : Lib.hasPrefix s.data.toList [45] = true ↔ (runes s).head? = some 45 := by
          rw [pre_head, hen]
          cases hl : runes s with
          | nil => rw [hl] at h0; exact absurd rfl h0
          | cons r l =>
            rw [encL_cons, enc_head r (hsh r (by rw [hl]; exact List.mem_cons_self ..))]
            simp
        have hs : Lib.hasSuffix s.data.toList [45] = true ↔ (runes s).getLast? = some 45 := by
          rw [suf_last, hen]
          rcases List.eq_nil_or_concat (runes s) with hl | ⟨l, r, hl⟩
          · rw [hl] at h0; exact absurd rfl h0
          · have hm : r ∈ runes s := by rw [hl, List.concat_eq_append]; exact List.mem_append_right _ (List.mem_singleton_self r)
            rw [hl, List.concat_eq_append]
            rw [encL_append, show encL [r] = Lib.encodeRune r by simp [encL], enc_last r (hsh r hm), List.getLast?_concat]
            exact ⟨fun h => by rw [h], fun h => Option.some.inj h⟩
        have ho' : ¬ ((runes s).any fun r => !chrZ r) = true := by rw [← trL_ot]; exact ho
        have h0' : runes s ≠ [] := fun e => h0 (by rw [e]; rfl)
        by_cases p : Lib.hasPrefix s.data.toList [45] = true
        · rw [if_pos p, if_pos (.inr (.inl (hp.1 p)))]
        · rw [if_neg p]
          by_cases q : Lib.hasSuffix s.data.toList [45] = true
          · rw [if_pos q, if_pos (.inr (.inr (.inl (hs.1 q))))]
          · rw [if_neg q, if_neg (fun h => h.elim h0' (fun h => h.elim (fun h => p (hp.2 h)) (fun h => h.elim (fun h => q (hs.2 h)) ho')))]
theorem tr_bound (l : List Int) : 0 ≤ (foundT l).sc ∧ (foundT l).sc ≤ 3 := trL_sc _

set_option maxHeartbeats 2000000 in
set_option maxRecDepth 100000 in
theorem check_any (s : ByteArray) (hs : s.size ≤ 9223372036854775807) (w : World) (hT : Chars w) :
    Calls Tryd.prog 11 #[.string s] w fun e w' => e = .returned (.int .i64 (checkL (runes s))) ∧ Below w.heap.size w w' := by
  have HF := Lib.hid (found_any s w hT)
  obtain ⟨sc, hsc⟩ : ∃ x, x = (foundT (runes s)).sc := ⟨_, rfl⟩
  obtain ⟨mi, hmi⟩ : ∃ x, x = (foundT (runes s)).mi := ⟨_, rfl⟩
  obtain ⟨ot, hot⟩ : ∃ x, x = (foundT (runes s)).ot := ⟨_, rfl⟩
  obtain ⟨pre, hpre⟩ : ∃ x, x = Lib.hasPrefix s.data.toList [45] := ⟨_, rfl⟩
  obtain ⟨suf, hsuf⟩ : ∃ x, x = Lib.hasSuffix s.data.toList [45] := ⟨_, rfl⟩
  have HP : Hid (∀ W, Calls Tryd.prog 27 #[.string s, .string ⟨#[45]⟩] W fun e w' => e = .returned (.bool pre) ∧ w' = W) := Lib.hid fun W => by rw [hpre]; exact Tryd.strings_HasPrefix s ⟨#[45]⟩ W
  have HS : Hid (∀ W, Calls Tryd.prog 28 #[.string s, .string ⟨#[45]⟩] W fun e w' => e = .returned (.bool suf) ∧ w' = W) := Lib.hid fun W => by rw [hsuf]; exact Tryd.strings_HasSuffix s ⟨#[45]⟩ W hs
  rw [check_way, ← hot, ← hpre, ← hsuf, ← hmi]
  obtain ⟨k, hk⟩ : ∃ k, k = (runes s).length := ⟨_, rfl⟩
  obtain ⟨n, hn⟩ : ∃ x, x = foundN (runes s) := ⟨_, rfl⟩
  have HTR : Hid (trC (foundN (runes s)) (foundT (runes s)) = #[.int .i64 n, .int .u8 sc, .bool mi, .bool ot]) := Lib.hid (by rw [hsc, hmi, hot, hn]; rfl)
  have hnk : n = if 24 < k then 25 else (k : Int) := by rw [hn, hk]; rfl
  rw [← hk]
  obtain ⟨z, hz⟩ : ∃ z, z = way k ot pre suf mi := ⟨_, rfl⟩
  rw [← hz]
  unfold way at hz
  have HZ := Lib.hid hz
  have HNK := Lib.hid hnk
  clear hsc hmi hot hpre hsuf hk hn hnk hz hs hT
  by_cases h24 : 24 < k
  · have q1 : n = 25 := by rw [HNK.out, if_pos h24]
    subst q1
    have H := Lib.hid (HZ.out.trans (if_pos h24))
    clear h24
    go_enter Tryd.func11, Tryd.ntmps11
    go_wp2_with fail
    refine HF.out.mono ?_; rintro e w1 ⟨rfl, b1⟩
    have N1 := Lib.hid (Go.heap_alloc_new w1 (.cells zeroC 51))
    have B1 := Lib.hid (b1.alloc b1.size (.cells #[.int .i64 25, .int .u8 sc, .bool mi, .bool ot] 51))
    clear b1
    rw [HTR.out]
    go_wp2_with (refine wpList_store_row rfl 51 _ _ rfl w1.heap.size #[.int .i64 25, .int .u8 sc, .bool mi, .bool ot] rfl rfl 51 zeroC N1.out (tr_info _ _ _ _) rfl (tr_one _ _ _ _) ?_; rw [World.setRow_alloc_new])
    go_ret
    exact ⟨ret_i64 H.out.symm, B1.out⟩
  · have hz1 := HZ.out.trans (if_neg h24)
    have hn1 := HNK.out.trans (if_neg h24)
    by_cases h0 : k = 0
    · have q1 : n = 0 := by omega
      subst q1
      have H := Lib.hid (hz1.trans (if_pos h0))
      clear h24 h0 hz1 hn1
      go_enter Tryd.func11, Tryd.ntmps11
      go_wp2_with fail
      refine HF.out.mono ?_; rintro e w1 ⟨rfl, b1⟩
      have N1 := Lib.hid (Go.heap_alloc_new w1 (.cells zeroC 51))
      have B1 := Lib.hid (b1.alloc b1.size (.cells #[.int .i64 0, .int .u8 sc, .bool mi, .bool ot] 51))
      clear b1
      rw [HTR.out]
      go_wp2_with (refine wpList_store_row rfl 51 _ _ rfl w1.heap.size #[.int .i64 0, .int .u8 sc, .bool mi, .bool ot] rfl rfl 51 zeroC N1.out (tr_info _ _ _ _) rfl (tr_one _ _ _ _) ?_; rw [World.setRow_alloc_new])
      go_ret
      exact ⟨ret_i64 H.out.symm, B1.out⟩
    · have hz2 := hz1.trans (if_neg h0)
      have g0 : (n == 0) = false := by rw [beq_eq_false_iff_ne]; omega
      have g1 : n ≤ 24 := by omega
      clear hz1 hn1 h24 h0
      cases ot with
      | true =>
        have H := Lib.hid (hz2.trans (if_pos rfl))
        clear hz2
        go_enter Tryd.func11, Tryd.ntmps11
        go_wp2_with fail
        refine HF.out.mono ?_; rintro e w1 ⟨rfl, b1⟩
        have N1 := Lib.hid (Go.heap_alloc_new w1 (.cells zeroC 51))
        have B1 := Lib.hid (b1.alloc b1.size (.cells #[.int .i64 n, .int .u8 sc, .bool mi, .bool true] 51))
        clear b1
        rw [HTR.out]
        go_wp2_with (refine wpList_store_row rfl 51 _ _ rfl w1.heap.size #[.int .i64 n, .int .u8 sc, .bool mi, .bool true] rfl rfl 51 zeroC N1.out (tr_info _ _ _ _) rfl (tr_one _ _ _ _) ?_; rw [World.setRow_alloc_new])
        go_ret
        exact ⟨ret_i64 H.out.symm, B1.out⟩
      | false =>
        cases pre with
        | true =>
          have H := Lib.hid (hz2.trans ((if_neg (by decide)).trans (if_pos rfl)))
          clear hz2
          go_enter Tryd.func11, Tryd.ntmps11
          go_wp2_with fail
          refine HF.out.mono ?_; rintro e w1 ⟨rfl, b1⟩
          have N1 := Lib.hid (Go.heap_alloc_new w1 (.cells zeroC 51))
          have B1 := Lib.hid (b1.alloc b1.size (.cells #[.int .i64 n, .int .u8 sc, .bool mi, .bool false] 51))
          clear b1
          rw [HTR.out]
          go_wp2_with (refine wpList_store_row rfl 51 _ _ rfl w1.heap.size #[.int .i64 n, .int .u8 sc, .bool mi, .bool false] rfl rfl 51 zeroC N1.out (tr_info _ _ _ _) rfl (tr_one _ _ _ _) ?_; rw [World.setRow_alloc_new])
          refine (HP.out _).mono ?_; rintro e w2 ⟨rfl, rfl⟩
          go_wp2_with fail
          go_ret
          exact ⟨ret_i64 H.out.symm, B1.out⟩
        | false =>
          cases suf with
          | true =>
            have H := Lib.hid (hz2.trans ((if_neg (by decide)).trans ((if_neg (by decide)).trans (if_pos rfl))))
            clear hz2
            go_enter Tryd.func11, Tryd.ntmps11
            go_wp2_with fail
            refine HF.out.mono ?_; rintro e w1 ⟨rfl, b1⟩
            have N1 := Lib.hid (Go.heap_alloc_new w1 (.cells zeroC 51))
            have B1 := Lib.hid (b1.alloc b1.size (.cells #[.int .i64 n, .int .u8 sc, .bool mi, .bool false] 51))
            clear b1
            rw [HTR.out]
            go_wp2_with (refine wpList_store_row rfl 51 _ _ rfl w1.heap.size #[.int .i64 n, .int .u8 sc, .bool mi, .bool false] rfl rfl 51 zeroC N1.out (tr_info _ _ _ _) rfl (tr_one _ _ _ _) ?_; rw [World.setRow_alloc_new])
            refine (HP.out _).mono ?_; rintro e w2 ⟨rfl, rfl⟩
            go_wp2_with fail
            refine (HS.out _).mono ?_; rintro e w2 ⟨rfl, rfl⟩
            go_wp2_with fail
            go_ret
            exact ⟨ret_i64 H.out.symm, B1.out⟩
          | false =>
            cases mi with
            | true =>
              have H := Lib.hid (hz2.trans ((if_neg (by decide)).trans ((if_neg (by decide)).trans ((if_neg (by decide)).trans (if_pos rfl)))))
              clear hz2
              go_enter Tryd.func11, Tryd.ntmps11
              go_wp2_with fail
              refine HF.out.mono ?_; rintro e w1 ⟨rfl, b1⟩
              have N1 := Lib.hid (Go.heap_alloc_new w1 (.cells zeroC 51))
              have B1 := Lib.hid (b1.alloc b1.size (.cells #[.int .i64 n, .int .u8 sc, .bool true, .bool false] 51))
              clear b1
              rw [HTR.out]
              go_wp2_with (refine wpList_store_row rfl 51 _ _ rfl w1.heap.size #[.int .i64 n, .int .u8 sc, .bool true, .bool false] rfl rfl 51 zeroC N1.out (tr_info _ _ _ _) rfl (tr_one _ _ _ _) ?_; rw [World.setRow_alloc_new])
              refine (HP.out _).mono ?_; rintro e w2 ⟨rfl, rfl⟩
              go_wp2_with fail
              refine (HS.out _).mono ?_; rintro e w2 ⟨rfl, rfl⟩
              go_wp2_with fail
              go_ret
              exact ⟨ret_i64 H.out.symm, B1.out⟩
            | false =>
              have H := Lib.hid (hz2.trans ((if_neg (by decide)).trans ((if_neg (by decide)).trans ((if_neg (by decide)).trans (if_neg (by decide))))))
              clear hz2
              go_enter Tryd.func11, Tryd.ntmps11
              go_wp2_with fail
              refine HF.out.mono ?_; rintro e w1 ⟨rfl, b1⟩
              have N1 := Lib.hid (Go.heap_alloc_new w1 (.cells zeroC 51))
              have B1 := Lib.hid (b1.alloc b1.size (.cells #[.int .i64 n, .int .u8 sc, .bool false, .bool false] 51))
              clear b1
              rw [HTR.out]
              go_wp2_with (refine wpList_store_row rfl 51 _ _ rfl w1.heap.size #[.int .i64 n, .int .u8 sc, .bool false, .bool false] rfl rfl 51 zeroC N1.out (tr_info _ _ _ _) rfl (tr_one _ _ _ _) ?_; rw [World.setRow_alloc_new])
              refine (HP.out _).mono ?_; rintro e w2 ⟨rfl, rfl⟩
              go_wp2_with fail
              refine (HS.out _).mono ?_; rintro e w2 ⟨rfl, rfl⟩
              go_wp2_with fail
              go_ret
              exact ⟨ret_i64 H.out.symm, B1.out⟩

theorem okL_take {l : List Int} (h : checkL l = 0) : (foundT l).sc = scrL l := by
  unfold foundT
  rw [List.take_of_length_le (okL_length h)]
  exact trL_scr l
theorem field_sc (a b : Int) (c d : Bool) (W : World) : (Instr.field 51 (.agg #[.int .i64 a, .int .u8 b, .bool c, .bool d]) 1).run Tryd.prog W = .ok (.int .u8 b) W := by kernel_rfl
set_option maxHeartbeats 1000000 in
set_option maxRecDepth 100000 in
theorem scriptn_any (s : ByteArray) (hs : s.size ≤ 9223372036854775807) (w : World) (hT : Chars w) :
    Calls Tryd.prog 13 #[.string s] w fun e w' => e = .returned (.int .u8 (scriptL (runes s))) ∧ Below w.heap.size w w' := by
  have HC := Lib.hid (check_any s hs w hT)
  have HT := Lib.hid hT
  obtain ⟨z, hz⟩ : ∃ z, z = scriptL (runes s) := ⟨_, rfl⟩
  obtain ⟨c, hc⟩ : ∃ c, c = checkL (runes s) := ⟨_, rfl⟩
  rw [← hz]
  rw [← hc] at HC
  by_cases h0 : c = 0
  · have H : Hid (z = (foundT (runes s)).sc) := Lib.hid (by rw [okL_take (by rw [← hc]; exact h0), hz, scriptL, if_pos (by rw [← hc]; exact h0)])
    subst h0
    clear hz hc hs hT
    go_enter Tryd.func13, Tryd.ntmps13
    go_wp2_with fail
    refine HC.out.mono ?_; rintro e w1 ⟨rfl, b1⟩
    have B1 := Lib.hid b1
    clear b1
    go_wp2_with fail
    refine (found_any s w1 (HT.out.below B1.out)).mono ?_; rintro e w2 ⟨rfl, b2⟩
    have B2 := Lib.hid (below_step B1.out b2)
    clear b2
    unfold trC
    have hfl := field_sc (foundN (runes s)) (foundT (runes s)).sc (foundT (runes s)).mi (foundT (runes s)).ot
    go_wp2_with fail
    go_ret
    exact ⟨ret_i8 H.out.symm, B2.out⟩
  · have H : Hid (z = 0) := Lib.hid (by rw [hz, scriptL, if_neg (by rw [← hc]; exact h0)])
    have q0 : (c != 0) = true := by rw [bne_iff_ne]; exact h0
    clear hz hc hs hT h0
    go_enter Tryd.func13, Tryd.ntmps13
    go_wp2_with fail
    refine HC.out.mono ?_; rintro e w1 ⟨rfl, b1⟩
    have B1 := Lib.hid b1
    clear b1
    go_wp2_with fail
    go_ret
    exact ⟨ret_i8 H.out.symm, B1.out⟩
end Go.Proofs.YtkipnbhejokbeaaDoor.Pl
