/- What the document's read, Read, Check and May of layer 6 answer: read calls itself. -/
import Derived.Test.YtbdlegjklfkdmaaGreatDoorBallC7
namespace Go.Proofs.YtbdlegjklfkdmaaGreatDoor.Pl
open Go.RowKit

theorem head_err {s : List UInt8} (h : (headP s).2.2 ≠ 0) : (headP s).2.1 = 0 := by
  cases s with
  | nil => rfl
  | cons b r =>
    simp only [headP] at h ⊢
    split
    · rfl
    · rename_i h100
      rw [if_neg h100] at h
      split
      · rename_i h97
        rw [if_pos h97] at h
        split <;> rfl
      · rename_i h97
        rw [if_neg h97] at h
        split
        · rename_i h114
          rw [if_pos h114] at h
          split
          · rfl
          · rename_i hno
            rw [if_neg hno] at h
            simp only at h ⊢
            rcases rdn_err (l := r) (v := (rdn r).1) (n := (rdn r).2.1) (e := (rdn r).2.2) rfl with e | e
            · exact absurd e h
            · exact e.1
        · rename_i h114
          rw [if_neg h114] at h
          split
          · rename_i h104; rw [if_pos h104] at h; exact absurd rfl h
          · rename_i h104
            rw [if_neg h104] at h
            split
            · rename_i h109; rw [if_pos h109] at h; exact absurd rfl h
            · rename_i h109
              rw [if_neg h109] at h
              split
              · rename_i h115; rw [if_pos h115] at h; exact absurd rfl h
              · rfl
theorem head_parts {s : List UInt8} {n p : Nat} (h : headP s = (n, p, 0)) : p ≤ 32 := by
  obtain ⟨c, hk⟩ := head_kind (head_front h).2
  cases hk <;> omega
theorem loopP_good {rd : List UInt8 → Nat × Nat} {i : Nat} {s : List UInt8} {m : Nat} (h : loopP rd i s = (m, 0)) (k : (rd (s.drop m)).2 = 0) : loopP rd (i + 1) s = (m + (rd (s.drop m)).1, 0) := by
  have e := loopP_add rd i 1 s m h
  rw [loopP_one, if_pos k] at e
  rw [e]; rfl
theorem loopP_bad {rd : List UInt8 → Nat × Nat} {i p : Nat} {s : List UInt8} {m : Nat} (h : loopP rd i s = (m, 0)) (hi : i < p) (k : (rd (s.drop m)).2 ≠ 0) : (loopP rd p s).2 = (rd (s.drop m)).2 := by
  obtain ⟨q, rfl⟩ : ∃ q, p = i + (q + 1) := ⟨p - i - 1, by omega⟩
  have e1 : loopP rd (q + 1) (s.drop m) = (0, (rd (s.drop m)).2) := by rw [loopP, if_neg k]
  have e := loopP_add rd i (q + 1) s m h
  rw [e1] at e
  rw [e, if_neg k]
theorem readP_len (d : Nat) (s : List UInt8) (n : Nat) (h : readP d s = (n, 0)) : n ≤ s.length := by
  obtain ⟨t, _, _, e1, e2⟩ := read_sound d s n h
  have := congrArg List.length e2
  rw [List.length_append, ← e1] at this
  omega
theorem readP_err (d : Nat) (s : List UInt8) (h : (readP d s).2 ≠ 0) : (readP d s).1 = 0 := by
  cases d with
  | zero => rfl
  | succ d =>
    simp only [readP] at h ⊢
    split
    · rename_i h1
      rw [if_pos h1] at h
      split
      · rename_i h2
        rw [if_pos h2] at h
        exact absurd rfl h
      · rfl
    · rfl

set_option maxHeartbeats 4000000 in
set_option maxRecDepth 100000 in
theorem rread_any (d : Nat) : ∀ (s : ByteArray) (w : World), d ≤ 16 → s.size ≤ 281474976710656 →
    Calls Tryz.prog 124 #[.string s, .int .i64 (17 - (d : Int))] w fun e w' => e = .returned (rd2 (readP d (bl s))) ∧ Below w.heap.size w w' := by
  induction d with
  | zero =>
    intro s w _ _
    obtain ⟨D, hD⟩ : ∃ D : Int, D = 17 - ((0 : Nat) : Int) := ⟨_, rfl⟩
    rw [← hD]
    have hD' : D = 17 := by omega
    subst hD'
    clear hD
    go_enter Tryz.func124, Tryz.ntmps124
    go_wp2_with fail
    go_ret2
    exact ⟨rfl, Below.refl _ _⟩
  | succ d ih =>
    intro s w hd hs
    obtain ⟨D, hD⟩ : ∃ D : Int, D = 17 - ((d + 1 : Nat) : Int) := ⟨_, rfl⟩
    have IH : Hid (∀ (x : ByteArray) (V : World), x.size ≤ 281474976710656 → Calls Tryz.prog 124 #[.string x, .int .i64 (D + 1)] V fun e w' => e = .returned (rd2 (readP d (bl x))) ∧ Below V.heap.size V w') := Lib.hid (fun x V hx => by
      have h := ih x V (by omega) hx
      rw [show (17 - (d : Int)) = D + 1 by omega] at h
      exact h)
    rw [← hD]
    have hD1 : D ≤ 16 := by omega
    have hD0 : 0 ≤ D := by omega
    have HH := Lib.hid (rhead_any s hs w)
    obtain ⟨z, hz⟩ : ∃ z, z = readP (d + 1) (bl s) := ⟨_, rfl⟩
    rw [← hz]
    simp only [readP] at hz
    have HE := Lib.hid (head_err (s := bl s))
    have HF := Lib.hid (fun n p (e : headP (bl s) = (n, p, 0)) => And.intro (head_front e).1 (head_parts e))
    generalize headP (bl s) = hd at *
    obtain ⟨h, p, e⟩ := hd
    simp only at hz HE HF
    have HSZ := Lib.hid hs
    clear ih hd hD hs
    by_cases he : e = 0
    · subst he
      rw [if_pos rfl] at hz
      have hle : h ≤ s.size := by rw [← bl_length]; exact (HF.out h p rfl).1
      have hp : p ≤ 32 := (HF.out h p rfl).2
      have HZ := Lib.hid hz
      have HLE := Lib.hid hle
      clear hz hle HE HF
      go_enter Tryz.func124, Tryz.ntmps124
      go_wp2_with fail
      refine HH.out.mono ?_; rintro e w1 ⟨rfl, b1⟩
      have B1 := Lib.hid b1
      clear b1
      unfold hd3
      go_wp2_with fail
      go_loopw [6, 8, 9] (fun nv ev iv wr => ∃ i n e : Nat, nv = .int .i64 n ∧ ev = .int .i64 e ∧ iv = .int .i64 i ∧ i ≤ p ∧ n ≤ 281474976710656 ∧ Hid (e = 0 → loopP (readP d) i ((bl s).drop h) = (n - h, 0) ∧ h ≤ n ∧ n ≤ s.size) ∧ Hid (e ≠ 0 → (loopP (readP d) p ((bl s).drop h)).2 = e) ∧ Hid (Below w.heap.size w wr)) (fun _ _ iv _ => p - (intOf iv).toNat)
      case atStart => exact ⟨0, h, 0, rfl, rfl, rfl, Nat.zero_le _, by have := HLE.out; have := HSZ.out; omega, Lib.hid (fun _ => ⟨by rw [Nat.sub_self]; rfl, Nat.le_refl _, HLE.out⟩), Lib.hid (fun h => absurd rfl h), B1⟩
      case round =>
        obtain ⟨i, n, e, rfl, rfl, rfl, hip, hn, hok, hbad, hb⟩ := hrel
        by_cases he : e = 0
        · subst he
          obtain ⟨l1, l2, l3⟩ := hok.out rfl
          by_cases hi : i < p
          · have hi' : (i : Int) < (p : Int) := by omega
            have sl : ∀ V : World, (Instr.sliceAt 9 (.string s) (some (.int .i64 (n : Int))) none none).run Tryz.prog V = .ok (.string (s.extract n s.size)) V := tslice_from s n l3
            have hx : bl (s.extract n s.size) = ((bl s).drop h).drop (n - h) := by rw [bl_from, List.drop_drop, show h + (n - h) = n by omega]
            have hxs : (s.extract n s.size).size ≤ 281474976710656 := by rw [size_bl, bl_from, List.length_drop, bl_length]; have := HSZ.out; omega
            have hC := IH.out (s.extract n s.size) wr hxs
            have hadd1 := loopP_good l1 (rd := readP d)
            have haddp := loopP_bad l1 hi (rd := readP d)
            rw [← hx] at hadd1 haddp
            have hlen := readP_len d (bl (s.extract n s.size)) (readP d (bl (s.extract n s.size))).1
            have herr := readP_err d (bl (s.extract n s.size))
            have hxl : (bl (s.extract n s.size)).length = s.size - n := by rw [bl_from, List.length_drop, bl_length]
            generalize s.extract n s.size = x at *
            obtain ⟨r, hr⟩ : ∃ r, r = readP d (bl x) := ⟨_, rfl⟩
            rw [← hr] at hadd1 haddp hC hlen herr
            obtain ⟨m, f⟩ := r
            simp only at hadd1 haddp hlen herr
            have hm : n + m ≤ 281474976710656 := by
              by_cases hf : f = 0
              · have := hlen (by rw [hf]); rw [hxl] at this; have := HSZ.out; omega
              · rw [herr hf]; omega
            have HNEW : Hid (f = 0 → loopP (readP d) (i + 1) ((bl s).drop h) = (n + m - h, 0) ∧ h ≤ n + m ∧ n + m ≤ s.size) := Lib.hid (fun hf => by
              have e1 := hlen (by rw [hf])
              rw [hxl] at e1
              exact ⟨by rw [hadd1 hf, show n + m - h = n - h + m by omega], by omega, by omega⟩)
            have HBAD : Hid (f ≠ 0 → (loopP (readP d) p ((bl s).drop h)).2 = f) := Lib.hid (fun hf => haddp hf)
            have HC := Lib.hid hC
            clear l1 l2 l3 hx hxs hC hadd1 haddp hlen herr hxl hok hbad hr
            go_wp2_with fail
            refine HC.out.mono ?_; rintro e w2 ⟨rfl, b2⟩
            have B2 := Lib.hid (below_step hb.out b2)
            clear b2
            unfold rd2
            go_wp2_with fail
            go_roundw
            case rel => exact ⟨i + 1, n + m, f, by go_num, rfl, by go_num, by omega, hm, HNEW, HBAD, B2⟩
            case measure => simp [intOf]; omega
          · obtain rfl : i = p := by omega
            have HQ : Hid (z = (n, 0)) := Lib.hid (by rw [HZ.out, l1, if_pos rfl]; simp only; rw [show h + (n - h) = n by omega])
            clear hi l1 l2 l3
            go_wp2_with fail
            go_ret2
            exact ⟨by rw [HQ.out]; rfl, hb.out⟩
        · have HQ : Hid (z = (0, e)) := Lib.hid (by
            have e1 := hbad.out he
            rw [HZ.out, if_neg (by rw [e1]; exact he), e1])
          have qe : ((e : Int) == 0) = false := by rw [beq_eq_false_iff_ne]; omega
          have qe2 : ((e : Int) != 0) = true := by rw [bne_iff_ne]; omega
          clear he
          by_cases hi : i < p
          · have hi' : (i : Int) < (p : Int) := by omega
            go_wp2_with fail
            go_ret2
            exact ⟨by rw [HQ.out]; rfl, hb.out⟩
          · have hi' : ¬ (i : Int) < (p : Int) := by omega
            go_wp2_with fail
            go_ret2
            exact ⟨by rw [HQ.out]; rfl, hb.out⟩
    · have hp : p = 0 := HE.out he
      subst hp
      rw [if_neg he] at hz
      have HZ := Lib.hid hz
      have qe : ((e : Int) == 0) = false := by rw [beq_eq_false_iff_ne]; omega
      have qe2 : ((e : Int) != 0) = true := by rw [bne_iff_ne]; omega
      clear hz HE HF he
      go_enter Tryz.func124, Tryz.ntmps124
      go_wp2_with fail
      refine HH.out.mono ?_; rintro e w1 ⟨rfl, b1⟩
      have B1 := Lib.hid b1
      clear b1
      unfold hd3
      go_wp2_with fail
      refine wp_loop_rounds 1 ?_; rw [rounds_succ]; go_wp2_with fail
      go_ret2
      exact ⟨by rw [HZ.out]; rfl, B1.out⟩

set_option maxRecDepth 100000 in
theorem rfront_any (s : ByteArray) (hs : s.size ≤ 281474976710656) (w : World) :
    Calls Tryz.prog 140 #[.string s] w fun e w' => e = .returned (rd2 (frontP (bl s))) ∧ Below w.heap.size w w' := by
  have HC := Lib.hid (rread_any 16 s w (Nat.le_refl _) hs)
  rw [show (17 - ((16 : Nat) : Int)) = 1 by decide] at HC
  obtain ⟨z, hz⟩ : ∃ z, z = frontP (bl s) := ⟨_, rfl⟩
  rw [← hz]
  unfold frontP at hz
  have HL := Lib.hid (fun n e => readP_len 16 (bl s) n e)
  generalize readP 16 (bl s) = r at *
  obtain ⟨m, f⟩ := r
  simp only at hz
  by_cases hf : f = 0
  · subst hf
    rw [if_pos rfl] at hz
    have hm := HL.out m rfl
    rw [bl_length] at hm
    by_cases h16 : 16384 < m
    · have HZ := Lib.hid (hz.trans (if_pos h16))
      have h16' : (16384 : Int) < (m : Int) := by omega
      clear hz h16 hs hm
      go_enter Tryz.func140, Tryz.ntmps140
      go_wp2_with fail
      refine HC.out.mono ?_; rintro e w1 ⟨rfl, b1⟩
      have B1 := Lib.hid b1
      clear b1
      unfold rd2
      go_wp2_with fail
      go_ret2
      exact ⟨by rw [HZ.out]; rfl, B1.out⟩
    · have HZ := Lib.hid (hz.trans (if_neg h16))
      have h16' : ¬ (16384 : Int) < (m : Int) := by omega
      clear hz h16 hs hm
      go_enter Tryz.func140, Tryz.ntmps140
      go_wp2_with fail
      refine HC.out.mono ?_; rintro e w1 ⟨rfl, b1⟩
      have B1 := Lib.hid b1
      clear b1
      unfold rd2
      go_wp2_with fail
      go_ret2
      exact ⟨by rw [HZ.out]; rfl, B1.out⟩
  · have HZ := Lib.hid (hz.trans (if_neg hf))
    have qf : ((f : Int) != 0) = true := by rw [bne_iff_ne]; omega
    clear hz hf hs
    go_enter Tryz.func140, Tryz.ntmps140
    go_wp2_with fail
    refine HC.out.mono ?_; rintro e w1 ⟨rfl, b1⟩
    have B1 := Lib.hid b1
    clear b1
    unfold rd2
    go_wp2_with fail
    go_ret2
    exact ⟨by rw [HZ.out]; rfl, B1.out⟩

set_option maxRecDepth 100000 in
theorem rcheck6_any (s : ByteArray) (hs : s.size ≤ 281474976710656) (w : World) :
    Calls Tryz.prog 116 #[.string s] w fun e w' => e = .returned (.int .i64 (checkP (bl s))) ∧ Below w.heap.size w w' := by
  have HC := Lib.hid (rfront_any s hs w)
  obtain ⟨z, hz⟩ : ∃ z, z = checkP (bl s) := ⟨_, rfl⟩
  rw [← hz]
  unfold checkP at hz
  rw [bl_length] at hz
  generalize frontP (bl s) = r at *
  obtain ⟨m, f⟩ := r
  simp only at hz
  by_cases hf : f = 0
  · subst hf
    rw [if_pos rfl] at hz
    by_cases hm : m = s.size
    · have HZ := Lib.hid (hz.trans (if_pos hm))
      have q : ((m : Int) != (s.size : Int)) = false := by rw [hm]; simp
      clear hz hm hs
      go_enter Tryz.func116, Tryz.ntmps116
      go_wp2_with fail
      refine HC.out.mono ?_; rintro e w1 ⟨rfl, b1⟩
      have B1 := Lib.hid b1
      clear b1
      unfold rd2
      go_wp2_with fail
      go_ret
      exact ⟨by rw [HZ.out]; rfl, B1.out⟩
    · have HZ := Lib.hid (hz.trans (if_neg hm))
      have q : ((m : Int) != (s.size : Int)) = true := by rw [bne_iff_ne]; omega
      clear hz hm hs
      go_enter Tryz.func116, Tryz.ntmps116
      go_wp2_with fail
      refine HC.out.mono ?_; rintro e w1 ⟨rfl, b1⟩
      have B1 := Lib.hid b1
      clear b1
      unfold rd2
      go_wp2_with fail
      go_ret
      exact ⟨by rw [HZ.out]; rfl, B1.out⟩
  · have HZ := Lib.hid (hz.trans (if_neg hf))
    have qf : ((f : Int) != 0) = true := by rw [bne_iff_ne]; omega
    clear hz hf hs
    go_enter Tryz.func116, Tryz.ntmps116
    go_wp2_with fail
    refine HC.out.mono ?_; rintro e w1 ⟨rfl, b1⟩
    have B1 := Lib.hid b1
    clear b1
    unfold rd2
    go_wp2_with fail
    go_ret
    exact ⟨by rw [HZ.out]; rfl, B1.out⟩
theorem rmay_any (s : ByteArray) (hs : s.size ≤ 281474976710656) (w : World) :
    Calls Tryz.prog 82 #[.string s] w fun e w' => e = .returned (.bool (checkP (bl s) == 0)) ∧ Below w.heap.size w w' := by
  have HC := Lib.hid (rcheck6_any s hs w)
  have q : (((checkP (bl s) : Nat) : Int) == 0) = (checkP (bl s) == 0) := by
    cases e : checkP (bl s) == 0 with
    | true => rw [beq_iff_eq] at e ⊢; omega
    | false => rw [beq_eq_false_iff_ne] at e ⊢; omega
  generalize checkP (bl s) = c at *
  go_enter Tryz.func82, Tryz.ntmps82
  go_wp2_with fail
  refine HC.out.mono ?_; rintro e w1 ⟨rfl, b1⟩
  have B1 := Lib.hid b1
  clear b1
  go_wp2_with fail
  go_ret
  exact ⟨rfl, B1.out⟩
end Go.Proofs.YtbdlegjklfkdmaaGreatDoor.Pl
