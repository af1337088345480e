/- What term's Check, are, valid, kind, Kind and Text answer. -/
import Derived.Test.YtbdlegjklfkdmaaGreatDoorBallC27
import Derived.Test.YtbdlegjklfkdmaaGreatDoorBallC12
import Derived.Test.YtbdlegjklfkdmaaGreatDoorBallC20
namespace Go.Proofs.YtbdlegjklfkdmaaGreatDoor.Pl
open Go.RowKit

theorem front_len (s : ByteArray) (h0 : (frontP (bl s)).2 = 0) : (frontP (bl s)).1 ≤ s.size := by
  obtain ⟨t, _, h1, h2⟩ := front_sound (s := bl s) (n := (frontP (bl s)).1) (by rw [← h0])
  have h3 := congrArg List.length h2
  rw [List.length_append, bl_length] at h3
  omega
set_option maxRecDepth 100000 in
theorem check_any (s : ByteArray) (hs : s.size ≤ 281474976710656) (w : World) :
    Calls Tryz.prog 103 #[.string s] w fun e w' => e = .returned (.int .i64 (checkP (bl s))) ∧ Below w.heap.size w w' := by
  have HC := Lib.hid (fun V => read6_any s hs V)
  obtain ⟨z, hz⟩ : ∃ z, z = checkP (bl s) := ⟨_, rfl⟩
  have hle : (frontP (bl s)).2 = 0 → (frontP (bl s)).1 ≤ s.size := fun h0 => by
    exact front_len s h0
  rw [← hz]
  unfold checkP at hz
  rw [bl_length] at hz
  generalize frontP (bl s) = r at *
  obtain ⟨m, f⟩ := r
  simp only at hz hle
  by_cases hf : f = 0
  · subst hf
    rw [if_pos rfl] at hz
    have hle := hle rfl
    by_cases hm : m = s.size
    · have HZ := Lib.hid (hz.trans (if_pos hm))
      have q : ¬ (m : Int) < (s.size : Int) := by omega
      clear hz hm hs hle
      go_enter Tryz.func103, Tryz.ntmps103
      go_wp2_with (go_at_call 106; refine (HC.out _).mono ?_; rintro e w1 ⟨rfl, b1⟩)
      go_ret
      exact ⟨by rw [HZ.out]; rfl, b1⟩
    · have HZ := Lib.hid (hz.trans (if_neg hm))
      have q : (m : Int) < (s.size : Int) := by omega
      clear hz hm hs hle
      go_enter Tryz.func103, Tryz.ntmps103
      go_wp2_with (go_at_call 106; refine (HC.out _).mono ?_; rintro e w1 ⟨rfl, b1⟩)
      go_ret
      exact ⟨by rw [HZ.out]; rfl, b1⟩
  · have HZ := Lib.hid (hz.trans (if_neg hf))
    have qf : ((f : Int) == 0) = false := by rw [beq_eq_false_iff_ne]; omega
    clear hz hf hs hle
    go_enter Tryz.func103, Tryz.ntmps103
    go_wp2_with (go_at_call 106; refine (HC.out _).mono ?_; rintro e w1 ⟨rfl, b1⟩)
    go_ret
    exact ⟨by rw [HZ.out]; rfl, b1⟩

set_option maxHeartbeats 1000000 in
set_option maxRecDepth 100000 in
theorem are_any (l : List ByteArray) (ao : Option Addr) (cap : Nat) (hl : l.length ≤ 281474976710656) (hx : ∀ x ∈ l, x.size ≤ 281474976710656) (w : World) (hrow : TxtRow w ao l) (r : Bool) (hr : r = true ↔ ∀ x ∈ l, checkP (bl x) = 0) :
    Calls Tryz.prog 63 #[.slice ao l.length cap] w fun e w' => e = .returned (.bool r) ∧ Below w.heap.size w w' := by
  have HROW := Lib.hid hrow
  have HNO : Hid (∀ k, k < l.length → checkP (bl (l.getD k ByteArray.empty)) ≠ 0 → r = false) := Lib.hid (fun k hk e => by
    cases er : r with
    | false => rfl
    | true => exact absurd (hr.1 er _ (getD_mem6 l k hk)) e)
  have HIN : Hid ((∀ k, k < l.length → checkP (bl (l.getD k ByteArray.empty)) = 0) → r = true) := Lib.hid (fun h => hr.2 (fun x hx => by
    obtain ⟨k, hk, rfl⟩ := mem_getD6 hx
    exact h k hk))
  have HX : Hid (∀ k, k < l.length → (l.getD k ByteArray.empty).size ≤ 281474976710656) := Lib.hid (fun k hk => hx _ (getD_mem6 l k hk))
  obtain ⟨n, hn⟩ : ∃ n, n = l.length := ⟨_, rfl⟩
  have HN := Lib.hid hn
  rw [← hn] at hl ⊢
  clear hrow hr hn hx
  go_enter Tryz.func63, Tryz.ntmps63
  go_wp2_with fail
  go_loopw [7] (fun iv wr => ∃ k : Nat, iv = .int .i64 k ∧ k ≤ n ∧ Hid (∀ j, j < k → checkP (bl (l.getD j ByteArray.empty)) = 0) ∧ Hid (Below w.heap.size w wr)) (fun iv _ => n - (intOf iv).toNat)
  case atStart => exact ⟨0, rfl, Nat.zero_le _, Lib.hid (fun j hj => absurd hj (Nat.not_lt_zero j)), Lib.hid (Below.refl _ _)⟩
  case round =>
    obtain ⟨k, rfl, hkn, hch, hb⟩ := hrel
    by_cases hk : k < n
    · have hk' : (k : Int) < (n : Int) := by omega
      rcases HROW.out.below hb.out with e | ⟨b, off, rfl, hlt, hc⟩
      · exfalso; have := HN.out; rw [e] at this; simp at this; omega
      have ck := hc k (by have := HN.out; omega)
      have HK := Lib.hid (HNO.out k (by have := HN.out; omega))
      have HC := Lib.hid (fun V => check_any (l.getD k ByteArray.empty) (HX.out k (by have := HN.out; omega)) V)
      have HY : Hid (checkP (bl (l.getD k ByteArray.empty)) = 0 → ∀ j, j < k + 1 → checkP (bl (l.getD j ByteArray.empty)) = 0) := Lib.hid (fun h j hj => by
        by_cases e : j = k
        · rw [e]; exact h
        · exact hch.out j (by omega))
      generalize l.getD k ByteArray.empty = y at *
      generalize checkP (bl y) = c at *
      clear hc hlt
      by_cases e : c = 0
      · subst e
        have HQ := Lib.hid (HY.out rfl)
        go_wp2_with (go_at_call 103; refine (HC.out _).mono ?_; rintro e w1 ⟨rfl, b1⟩)
        go_roundw
        case rel => exact ⟨k + 1, by go_num, by omega, HQ, Lib.hid (below_step hb.out b1)⟩
        case measure => simp [intOf]; omega
      · have q : ((c : Int) != 0) = true := by rw [bne_iff_ne]; omega
        have HQ := Lib.hid (HK.out e)
        clear e
        go_wp2_with (go_at_call 103; refine (HC.out _).mono ?_; rintro e w1 ⟨rfl, b1⟩)
        go_ret
        exact ⟨ret6_bool HQ.out.symm, below_step hb.out b1⟩
    · obtain rfl : k = n := by omega
      have HQ := Lib.hid (HIN.out (fun j hj => hch.out j (by have := HN.out; omega)))
      clear hk hkn
      go_wp2_with fail
      go_ret
      exact ⟨ret6_bool HQ.out.symm, hb.out⟩

theorem valid6_any (s : ByteArray) (hs : s.size ≤ 281474976710656) (w : World) :
    Calls Tryz.prog 138 #[.string s] w fun e w' => e = .returned (st2 (if checkP (bl s) = 0 then (bl s, 0) else ([], 5))) ∧ Below w.heap.size w w' := by
  have HC := Lib.hid (fun V => check_any s hs V)
  generalize checkP (bl s) = c at *
  by_cases h : c = 0
  · subst h
    rw [if_pos rfl]
    go_enter Tryz.func138, Tryz.ntmps138
    go_wp2_with (go_at_call 103; refine (HC.out _).mono ?_; rintro e w1 ⟨rfl, b1⟩)
    go_ret2
    exact ⟨rfl, b1⟩
  · have q : ((c : Int) != 0) = true := by rw [bne_iff_ne]; omega
    rw [if_neg h]
    clear h
    go_enter Tryz.func138, Tryz.ntmps138
    go_wp2_with (go_at_call 103; refine (HC.out _).mono ?_; rintro e w1 ⟨rfl, b1⟩)
    go_ret2
    exact ⟨rfl, b1⟩

/-- The letters. -/
def letterK (b : UInt8) : Nat := if b = 100 then 1 else if b = 97 then 2 else if b = 114 then 3 else if b = 104 then 4 else if b = 109 then 5 else if b = 115 then 6 else 0
set_option maxHeartbeats 1000000 in
set_option maxRecDepth 100000 in
theorem kind6_any (b : UInt8) (w : World) :
    Calls Tryz.prog 120 #[.string ⟨#[b]⟩] w fun e w' => e = .returned (.int .u8 (letterK b)) ∧ w' = w := by
  by_cases e100 : b = 100
  · subst e100
    go_enter Tryz.func120, Tryz.ntmps120
    go_wp2_with fail
    go_ret
    exact ⟨rfl, rfl⟩
  by_cases e97 : b = 97
  · subst e97
    go_enter Tryz.func120, Tryz.ntmps120
    go_wp2_with fail
    go_ret
    exact ⟨rfl, rfl⟩
  by_cases e114 : b = 114
  · subst e114
    go_enter Tryz.func120, Tryz.ntmps120
    go_wp2_with fail
    go_ret
    exact ⟨rfl, rfl⟩
  by_cases e104 : b = 104
  · subst e104
    go_enter Tryz.func120, Tryz.ntmps120
    go_wp2_with fail
    go_ret
    exact ⟨rfl, rfl⟩
  by_cases e109 : b = 109
  · subst e109
    go_enter Tryz.func120, Tryz.ntmps120
    go_wp2_with fail
    go_ret
    exact ⟨rfl, rfl⟩
  by_cases e115 : b = 115
  · subst e115
    go_enter Tryz.func120, Tryz.ntmps120
    go_wp2_with fail
    go_ret
    exact ⟨rfl, rfl⟩
  have HZ : Hid (letterK b = 0) := Lib.hid (by unfold letterK; simp [e100, e97, e114, e104, e109, e115])
  have lit : ∀ c : UInt8, (⟨#[c]⟩ : ByteArray).toList = [c] := fun c => by rw [Lib.toList_data]
  obtain ⟨n100, m100⟩ := str6_ne (a := ⟨#[b]⟩) (b := ⟨#[100]⟩) (fun h => e100 (by injection h with h; simpa using h))
  rw [lit 100] at n100 m100
  obtain ⟨n97, m97⟩ := str6_ne (a := ⟨#[b]⟩) (b := ⟨#[97]⟩) (fun h => e97 (by injection h with h; simpa using h))
  rw [lit 97] at n97 m97
  obtain ⟨n114, m114⟩ := str6_ne (a := ⟨#[b]⟩) (b := ⟨#[114]⟩) (fun h => e114 (by injection h with h; simpa using h))
  rw [lit 114] at n114 m114
  obtain ⟨n104, m104⟩ := str6_ne (a := ⟨#[b]⟩) (b := ⟨#[104]⟩) (fun h => e104 (by injection h with h; simpa using h))
  rw [lit 104] at n104 m104
  obtain ⟨n109, m109⟩ := str6_ne (a := ⟨#[b]⟩) (b := ⟨#[109]⟩) (fun h => e109 (by injection h with h; simpa using h))
  rw [lit 109] at n109 m109
  obtain ⟨n115, m115⟩ := str6_ne (a := ⟨#[b]⟩) (b := ⟨#[115]⟩) (fun h => e115 (by injection h with h; simpa using h))
  rw [lit 115] at n115 m115
  generalize (⟨#[b]⟩ : ByteArray) = sb at *
  rw [HZ.out]
  go_enter Tryz.func120, Tryz.ntmps120
  go_wp2_with fail
  go_ret
  exact ⟨rfl, rfl⟩

theorem kind_of {s : List UInt8} (h : checkP s = 0) : ∃ b r, s = b :: r ∧ kindP s = letterK b ∧ (letterK b = 1 ∨ letterK b = 2 → (rdt r 1024).2.2 = 0 ∧ textP s = ((rdt r 1024).1, true)) ∧
    (letterK b ≠ 1 → letterK b ≠ 2 → textP s = ([], false)) := by
  obtain ⟨t, ht, te⟩ := check_iff.1 h
  obtain ⟨hd, l⟩ := t
  have hg := ht.1
  simp only [Tm.good] at hg
  rw [Tm.enc_node] at te
  obtain ⟨c, hk⟩ := head_kind hg.1
  cases hk with
  | data t e1 e2 e3 =>
    refine ⟨100, txt t ++ encs l, by rw [← te, e1]; rfl, ?_, fun _ => ?_, fun h => absurd rfl h⟩
    · unfold kindP; rw [if_pos h, ← te, e1]; rfl
    · have hr := rdt_txt (t := t) (by rw [two64]; omega) (encs l) 1024 (by omega)
      refine ⟨by rw [hr], ?_⟩
      unfold textP
      rw [if_pos ⟨h, .inl (by rw [← te, e1]; rfl)⟩, ← te, e1]
      rfl
  | atom t e1 e2 e4 e3 =>
    refine ⟨97, txt t ++ encs l, by rw [← te, e1]; rfl, ?_, fun _ => ?_, fun _ h => absurd rfl h⟩
    · unfold kindP; rw [if_pos h, ← te, e1]; rfl
    · have hr := rdt_txt (t := t) (by rw [two64]; omega) (encs l) 1024 (by omega)
      refine ⟨by rw [hr], ?_⟩
      unfold textP
      rw [if_pos ⟨h, .inr (by rw [← te, e1]; rfl)⟩, ← te, e1]
      rfl
  | row v e1 e2 e3 =>
    refine ⟨114, enc v ++ encs l, by rw [← te, e1]; rfl, ?_, fun h => absurd h (by decide), fun _ _ => ?_⟩
    · unfold kindP; rw [if_pos h, ← te, e1]; rfl
    · unfold textP; rw [if_neg (by rintro ⟨_, h | h⟩ <;> (rw [← te, e1] at h; exact absurd h (by simp)))]
  | hash e1 e3 =>
    refine ⟨104, encs l, by rw [← te, e1]; rfl, ?_, fun h => absurd h (by decide), fun _ _ => ?_⟩
    · unfold kindP; rw [if_pos h, ← te, e1]; rfl
    · unfold textP; rw [if_neg (by rintro ⟨_, h | h⟩ <;> (rw [← te, e1] at h; exact absurd h (by simp)))]
  | mac e1 e3 =>
    refine ⟨109, encs l, by rw [← te, e1]; rfl, ?_, fun h => absurd h (by decide), fun _ _ => ?_⟩
    · unfold kindP; rw [if_pos h, ← te, e1]; rfl
    · unfold textP; rw [if_neg (by rintro ⟨_, h | h⟩ <;> (rw [← te, e1] at h; exact absurd h (by simp)))]
  | seal_ e1 e3 =>
    refine ⟨115, encs l, by rw [← te, e1]; rfl, ?_, fun h => absurd h (by decide), fun _ _ => ?_⟩
    · unfold kindP; rw [if_pos h, ← te, e1]; rfl
    · unfold textP; rw [if_neg (by rintro ⟨_, h | h⟩ <;> (rw [← te, e1] at h; exact absurd h (by simp)))]
theorem kind_no {s : List UInt8} (h : checkP s ≠ 0) : kindP s = 0 ∧ textP s = ([], false) := by
  unfold kindP textP
  exact ⟨if_neg h, if_neg (fun e => h e.1)⟩

/-- One text in a row of its own. -/
theorem are1_any (s : ByteArray) (hs : s.size ≤ 281474976710656) (w : World) :
    Calls Tryz.prog 63 #[.slice (some ⟨w.heap.size, 0, none⟩) 1 1] (w.alloc (.cells #[.string s] 9)) fun e w' => e = .returned (.bool (checkP (bl s) == 0)) ∧ Below w.heap.size w w' :=
  (are_any [s] (some ⟨w.heap.size, 0, none⟩) 1 (by simp) (fun x hx => by simp at hx; rw [hx]; exact hs) _ (row1 w s) (checkP (bl s) == 0) (by simp)).mono (fun e w' h => ⟨h.1, below_step ((Below.refl _ _).alloc (Nat.le_refl _) _) h.2⟩)
theorem tslice_to (x : ByteArray) (b : Nat) (h2 : b ≤ x.size) (V : World) : (Instr.sliceAt 9 (.string x) none (some (.int .i64 (b : Int))) none).run Tryz.prog V = .ok (.string (x.extract 0 b)) V := by
  have h1 : (0 : Int) ≤ (b : Int) := by omega
  have h3 : (b : Int) ≤ (x.size : Int) := by omega
  go_simp

set_option maxHeartbeats 1000000 in
set_option maxRecDepth 100000 in
theorem tkind_any (s : ByteArray) (hs : s.size ≤ 281474976710656) (w : World) :
    Calls Tryz.prog 85 #[.string s] w fun e w' => e = .returned (.int .u8 (kindP (bl s))) ∧ Below w.heap.size w w' := by
  have HA := Lib.hid (are1_any s hs w)
  by_cases hc : checkP (bl s) = 0
  · rw [may_yes hc] at HA
    obtain ⟨b, r, e1, e2, _⟩ := kind_of hc
    have hpos : 0 < s.size := by rw [size_bl, e1]; simp
    have h1 : s.extract 0 1 = ⟨#[b]⟩ := bl_inj (by rw [bl_extract, e1]; rfl)
    have sl : ∀ V : World, (Instr.sliceAt 9 (.string s) none (some (.int .i64 1)) none).run Tryz.prog V = .ok (.string ⟨#[b]⟩) V := fun V => by
      rw [← h1]; exact tslice_to s 1 hpos V
    have HK := Lib.hid (fun V => kind6_any b V)
    rw [e2]
    generalize letterK b = k at *
    generalize (⟨#[b]⟩ : ByteArray) = sb at *
    clear hc e1 e2 hpos h1 hs
    go_enter Tryz.func85, Tryz.ntmps85
    go_wp2_with (first | (go_at_call 63; refine HA.out.mono ?_; rintro e w1 ⟨rfl, b1⟩) | (go_at_call 120; refine (HK.out _).mono ?_; rintro e w2 ⟨rfl, rfl⟩))
    go_ret
    exact ⟨rfl, b1⟩
  · rw [may_no hc] at HA
    rw [(kind_no hc).1]
    clear hc
    go_enter Tryz.func85, Tryz.ntmps85
    go_wp2_with (first | (go_at_call 63; refine HA.out.mono ?_; rintro e w1 ⟨rfl, b1⟩))
    go_ret
    exact ⟨rfl, b1⟩

set_option maxHeartbeats 1000000 in
set_option maxRecDepth 100000 in
theorem text6_any (s : ByteArray) (hs : s.size ≤ 281474976710656) (w : World) :
    Calls Tryz.prog 86 #[.string s] w fun e w' => e = .returned (tb2 (textP (bl s))) ∧ Below w.heap.size w w' := by
  have HA := Lib.hid (tkind_any s hs w)
  by_cases hc : checkP (bl s) = 0
  · obtain ⟨b, r, e1, e2, e3, e4⟩ := kind_of hc
    have hpos : 1 ≤ s.size := by rw [size_bl, e1]; simp
    have hx : bl (s.extract 1 s.size) = r := by rw [bl_from, e1]; rfl
    have sl : ∀ V : World, (Instr.sliceAt 9 (.string s) (some (.int .i64 1)) none none).run Tryz.prog V = .ok (.string (s.extract 1 s.size)) V := tslice_from s 1 hpos
    have hxs : (s.extract 1 s.size).size ≤ 281474976710656 := by rw [size_bl, bl_from, List.length_drop, bl_length]; omega
    rw [e2] at HA
    generalize letterK b = k at *
    generalize s.extract 1 s.size = x at *
    have HT := Lib.hid (fun V => readtext_any x 1024 V hxs (by decide) (by decide))
    rw [show x.data.toList = bl x from rfl, hx] at HT
    by_cases hk1 : k = 1
    · subst hk1
      obtain ⟨f1, f2⟩ := e3 (.inl rfl)
      rw [f2]
      obtain ⟨z, hz⟩ : ∃ z, z = rdt r 1024 := ⟨_, rfl⟩
      rw [← hz] at HT f1 ⊢
      obtain ⟨t, n, f⟩ := z
      simp only at f1
      subst f1
      clear e1 e2 e3 e4 hx hxs hz hc hs f2
      go_enter Tryz.func86, Tryz.ntmps86
      go_wp2_with (first | (go_at_call 85; refine HA.out.mono ?_; rintro e w1 ⟨rfl, b1⟩) | (go_at_call 121; refine (HT.out _).mono ?_; rintro e w2 ⟨rfl, b2⟩))
      go_ret2
      exact ⟨rfl, below_step b1 b2⟩
    · have q1 : ((k : Int) == 1) = false := by rw [beq_eq_false_iff_ne]; omega
      by_cases hk2 : k = 2
      · subst hk2
        obtain ⟨f1, f2⟩ := e3 (.inr rfl)
        rw [f2]
        obtain ⟨z, hz⟩ : ∃ z, z = rdt r 1024 := ⟨_, rfl⟩
        rw [← hz] at HT f1 ⊢
        obtain ⟨t, n, f⟩ := z
        simp only at f1
        subst f1
        clear e1 e2 e3 e4 hx hxs hz hc hs f2
        go_enter Tryz.func86, Tryz.ntmps86
        go_wp2_with (first | (go_at_call 85; refine HA.out.mono ?_; rintro e w1 ⟨rfl, b1⟩) | (go_at_call 121; refine (HT.out _).mono ?_; rintro e w2 ⟨rfl, b2⟩))
        go_ret2
        exact ⟨rfl, below_step b1 b2⟩
      · have q2 : ((k : Int) == 2) = false := by rw [beq_eq_false_iff_ne]; omega
        rw [e4 hk1 hk2]
        clear e1 e2 e3 e4 hx hxs hc hs hk1 hk2
        go_enter Tryz.func86, Tryz.ntmps86
        go_wp2_with (first | (go_at_call 85; refine HA.out.mono ?_; rintro e w1 ⟨rfl, b1⟩))
        go_ret2
        exact ⟨rfl, b1⟩
  · rw [(kind_no hc).1] at HA
    rw [(kind_no hc).2]
    clear hc
    go_enter Tryz.func86, Tryz.ntmps86
    go_wp2_with (first | (go_at_call 85; refine HA.out.mono ?_; rintro e w1 ⟨rfl, b1⟩))
    go_ret2
    exact ⟨rfl, b1⟩
end Go.Proofs.YtbdlegjklfkdmaaGreatDoor.Pl
