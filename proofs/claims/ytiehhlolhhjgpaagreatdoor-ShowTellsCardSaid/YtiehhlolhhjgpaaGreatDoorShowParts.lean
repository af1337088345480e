/- What the document's parts of layer 7 answer. -/
import Derived.Test.YtiehhlolhhjgpaaGreatDoorShowZ5
import Derived.Test.YtiehhlolhhjgpaaGreatDoorShowZ3
namespace Go.Proofs.YtiehhlolhhjgpaaGreatDoor.Pl
open Go.RowKit

theorem pp_fin {pp : List UInt8 → List UInt8 × Nat} {fin : UInt8} {k : Nat} {first : Bool} {s : List UInt8} (h : s.head? = some fin) : pParts pp fin (k + 1) first s = some ([], 1) := by
  rw [pParts, if_pos h]
theorem pp_sep {pp : List UInt8 → List UInt8 × Nat} {fin : UInt8} {k : Nat} {s : List UInt8} (h : s.head? ≠ some fin) (h2 : s.take 2 ≠ [44, 32]) : pParts pp fin (k + 1) false s = none := by
  rw [pParts, if_neg h, if_pos ⟨rfl, h2⟩]
theorem pp_first {pp : List UInt8 → List UInt8 × Nat} {fin : UInt8} {k : Nat} {s : List UInt8} (h : s.head? ≠ some fin) : pParts pp fin (k + 1) true s = if (pp s).1 = [] then none else (pParts pp fin k false (s.drop (pp s).2)).map (fun r => ((pp s).1 :: r.1, (pp s).2 + r.2)) := by
  rw [pParts, if_neg h, if_neg (by simp)]
  simp only [if_true, List.drop_zero, Nat.zero_add]
  split
  · rfl
  · cases pParts pp fin k false (s.drop (pp s).2) <;> rfl
theorem pp_more {pp : List UInt8 → List UInt8 × Nat} {fin : UInt8} {k : Nat} {s : List UInt8} (h : s.head? ≠ some fin) (h2 : s.take 2 = [44, 32]) : pParts pp fin (k + 1) false s = if (pp (s.drop 2)).1 = [] then none else (pParts pp fin k false ((s.drop 2).drop (pp (s.drop 2)).2)).map (fun r => ((pp (s.drop 2)).1 :: r.1, 2 + (pp (s.drop 2)).2 + r.2)) := by
  rw [pParts, if_neg h, if_neg (fun k => k.2 h2)]
  simp only [Bool.false_eq_true, if_false, List.drop_drop]
  split
  · rfl
  · rename_i hn
    cases pParts pp fin k false (s.drop (2 + (pp (s.drop 2)).2)) <;> rfl
/-- What is read so far, and the rest. -/
def comb (pre : List (List UInt8)) (n : Nat) (r : Option (List (List UInt8) × Nat)) : Option (List (List UInt8) × Nat) := r.map fun q => (pre ++ q.1, n + q.2)
theorem comb_none (pre : List (List UInt8)) (n : Nat) : comb pre n none = none := rfl
theorem comb_fin (pre : List (List UInt8)) (n : Nat) : comb pre n (some ([], 1)) = some (pre, n + 1) := by simp [comb]
theorem comb_cons (pre : List (List UInt8)) (n a : Nat) (x : List UInt8) (r : Option (List (List UInt8) × Nat)) : comb pre n (r.map fun q => (x :: q.1, a + q.2)) = comb (pre ++ [x]) (n + a) r := by
  cases r with
  | none => rfl
  | some q => simp [comb, Nat.add_assoc]
theorem str_eq (a b : ByteArray) : (a.toList == b.toList) = decide (bl a = bl b) := by
  rw [Lib.toList_data, Lib.toList_data]
  by_cases h : bl a = bl b
  · rw [decide_eq_true h]; exact beq_iff_eq.2 h
  · rw [decide_eq_false h]; exact beq_eq_false_iff_ne.2 h
theorem isEmpty_mk (y : List UInt8) : (⟨y.toArray⟩ : ByteArray).toList.isEmpty = decide (y = []) := by
  rw [Lib.toList_data]
  cases y <;> simp
theorem head_drop (s : ByteArray) (n : Nat) (h : n < s.size) : ((bl s).drop n).head? = some ((bl s).getD n 0) := by
  rw [List.head?_drop, List.getD_eq_getElem?_getD, List.getElem?_eq_getElem (by rw [bl_length]; exact h)]; rfl
theorem head_end (s : ByteArray) (n : Nat) (h : ¬ n < s.size) : ((bl s).drop n).head? = none := by
  rw [List.head?_drop]; exact List.getElem?_eq_none (by rw [bl_length]; omega)
theorem bl_one (s : ByteArray) (n : Nat) (h : n < s.size) : bl (s.extract n (n + 1)) = [(bl s).getD n 0] := by
  rw [bl_extract, List.take_succ_eq_append_getElem (by rw [bl_length]; exact h), List.drop_append_of_le_length (by simp [bl_length]; omega), List.getD_eq_getElem?_getD, List.getElem?_eq_getElem (by rw [bl_length]; exact h)]
  simp
theorem bl_two (s : ByteArray) (n : Nat) : bl (s.extract n (n + 2)) = ((bl s).drop n).take 2 := by
  rw [bl_extract, List.drop_take]; simp
/-- A text is read so: what comes behind. -/
theorem sound_fits {pp : List UInt8 → List UInt8 × Nat} (hpp : SoundP pp) {s : List UInt8} (h : (pp s).1 ≠ []) : (pp s).1.length ≤ 16384 ∧ (pp s).2 ≤ s.length := by
  obtain ⟨T, tv, te, tn, _⟩ := hpp s h
  exact ⟨by rw [← te]; exact tv.2.2, tn⟩

set_option maxHeartbeats 8000000 in
set_option maxRecDepth 100000 in
theorem rparts7_any (pp : List UInt8 → List UInt8 × Nat) (hpp : SoundP pp) (D : Int)
    (hpc : ∀ (s : ByteArray) (V : World), s.size ≤ 281474976710656 → Calls Tryz.prog 40 #[.string s, .int .i64 D] V fun e w' => e = .returned (st2 (pp (bl s))) ∧ Below V.heap.size V w')
    (fin : UInt8) (e1 : ByteArray) (he1 : bl e1 = [fin]) (s : ByteArray) (hs : s.size ≤ 281474976710656) (w : World) :
    Calls Tryz.prog 73 #[.string s, .string e1, .int .i64 D] w fun e w' =>
      ((∃ (v : Value) (P : List ByteArray) (n : Nat), e = .returned (.tuple #[v, .int .i64 n]) ∧ pParts pp fin 33 true (bl s) = some (P.map bl, n) ∧ OwnT w' w.heap.size v P ∧ (∀ x ∈ P, x.size ≤ 16384) ∧ P.length ≤ 33 ∧ n ≤ s.size) ∨
       (e = .returned (.tuple #[.slice none 0 0, .int .i64 (-1)]) ∧ pParts pp fin 33 true (bl s) = none)) ∧ Below w.heap.size w w' := by
  obtain ⟨i0, hi, hz0, hz1, hz2⟩ := info_parts infoStr
  have HI := Lib.hid hi
  obtain ⟨res, hres⟩ : ∃ res, res = pParts pp fin 33 true (bl s) := ⟨_, rfl⟩
  have HRES := Lib.hid hres
  rw [← hres]
  have HPC := Lib.hid hpc
  have HE1 := Lib.hid he1
  have HPP := Lib.hid hpp
  clear hres hi hpc he1 hpp
  go_enter Tryz.func73, Tryz.ntmps73
  go_wp2_with fail
  go_loopw [8, 9] (fun lv nv wr => ∃ (P : List ByteArray) (n : Nat), nv = .int .i64 n ∧ n ≤ s.size ∧ P.length ≤ 33 ∧ Hid (∀ x ∈ P, x.size ≤ 16384) ∧ Hid (OwnT wr w.heap.size lv P) ∧ Hid (res = comb (P.map bl) n (pParts pp fin (33 - P.length) (P.length == 0) ((bl s).drop n))) ∧ Hid (Below w.heap.size w wr)) (fun lv _ _ => 33 - (match lv with | .slice _ m _ => m | _ => 0))
  case atStart => exact ⟨[], 0, rfl, Nat.zero_le _, by simp, Lib.hid (by simp), Lib.hid (ownT_nil _ _), Lib.hid (by rw [HRES.out]; simp [comb]), Lib.hid (Below.refl _ _)⟩
  case round =>
    obtain ⟨P, n, rfl, hn, hP, hPs, hown, hr, hb⟩ := hrel
    obtain ⟨m, hm⟩ : ∃ m, m = P.length := ⟨_, rfl⟩
    have HM := Lib.hid hm
    obtain ⟨ao, cap, rfl, _⟩ := ownT_row hown.out
    rw [← hm] at hP hr hown ⊢
    clear hm
    by_cases h33 : m = 33
    · subst h33
      have HR : Hid (res = none) := Lib.hid (by rw [hr.out]; rfl)
      go_wp2_with fail
      go_ret2
      exact ⟨.inr ⟨rfl, HR.out⟩, hb.out⟩
    have hm32 : (m : Int) ≤ 32 := by omega
    obtain ⟨k, hk⟩ : ∃ k, 33 - m = k + 1 := ⟨32 - m, by omega⟩
    rw [hk] at hr
    have HK : Hid (33 - (m + 1) = k) := Lib.hid (by omega)
    clear hk
    have hn0 : (0 : Int) ≤ (n : Int) := by omega
    by_cases hh : ((bl s).drop n).head? = some fin
    · have hlt : n < s.size := Classical.byContradiction fun hc => by rw [head_end s n hc] at hh; cases hh
      have hlt' : (n : Int) < (s.size : Int) := by omega
      have HR : Hid (res = some (P.map bl, n + 1)) := Lib.hid (by rw [hr.out, pp_fin hh, comb_fin])
      have sx : ∀ V : World, (Instr.sliceAt 9 (.string s) (some (.int .i64 (n : Int))) (some (.int .i64 ((n : Int) + 1))) none).run Tryz.prog V = .ok (.string (s.extract n (n + 1))) V := tslice_mid s n (n + 1) (by omega) hlt
      have qx : ((s.extract n (n + 1)).toList == e1.toList) = true := by
        rw [str_eq, bl_one s n hlt, HE1.out]
        rw [head_drop s n hlt] at hh
        rw [Option.some.inj hh]; simp
      generalize s.extract n (n + 1) = x1 at *
      have HN : Hid (n + 1 ≤ s.size) := Lib.hid hlt
      clear hh hlt
      by_cases hm0 : m = 0
      · subst hm0
        go_wp2_with fail
        go_ret2
        exact ⟨.inl ⟨_, P, n + 1, rfl, HR.out, hown.out, hPs.out, by rw [← HM.out]; omega, HN.out⟩, hb.out⟩
      · have hm1 : (0 : Int) < (m : Int) := by omega
        have qm : ((m : Int) == 0) = false := by rw [beq_eq_false_iff_ne]; omega
        clear hm0
        go_wp2_with fail
        go_ret2
        exact ⟨.inl ⟨_, P, n + 1, rfl, HR.out, hown.out, hPs.out, by rw [← HM.out]; omega, HN.out⟩, hb.out⟩
    · have QX : Hid (n < s.size → ((s.extract n (n + 1)).toList == e1.toList) = false) := Lib.hid (fun hlt => by
        rw [str_eq, bl_one s n hlt, HE1.out]
        rw [head_drop s n hlt] at hh
        exact decide_eq_false (fun e => hh (by rw [List.cons.inj e |>.1])))
      by_cases hm0 : m = 0
      · subst hm0
        have hpl : n ≤ s.size := hn
        have HR : Hid (res = comb (P.map bl) n (if (pp ((bl s).drop n)).1 = [] then none else (pParts pp fin k false (((bl s).drop n).drop (pp ((bl s).drop n)).2)).map (fun r => ((pp ((bl s).drop n)).1 :: r.1, (pp ((bl s).drop n)).2 + r.2)))) := Lib.hid (by
          rw [hr.out, show ((0 : Nat) == 0) = true from rfl, pp_first hh])
        clear hh
        by_cases hlt : n < s.size
        · have hlt' : (n : Int) < (s.size : Int) := by omega
          have sx : ∀ V : World, (Instr.sliceAt 9 (.string s) (some (.int .i64 (n : Int))) (some (.int .i64 ((n : Int) + 1))) none).run Tryz.prog V = .ok (.string (s.extract n (n + 1))) V := tslice_mid s n (n + 1) (by omega) hlt
          have qx := QX.out hlt
          generalize s.extract n (n + 1) = x1 at *
          clear hlt
          have hpn0 : (0 : Int) ≤ (n : Int) := by omega
          have sl : ∀ V : World, (Instr.sliceAt 9 (.string s) (some (.int .i64 ((n : Int)))) none none).run Tryz.prog V = .ok (.string (s.extract (n) s.size)) V := tslice_from s (n) hpl
          have hsz : (s.extract (n) s.size).size ≤ 281474976710656 := by rw [size_bl, bl_from, List.length_drop, bl_length]; omega
          have HC := Lib.hid (fun V => HPC.out (s.extract (n) s.size) V hsz)
          rw [bl_from] at HC
          have HF := Lib.hid (fun h => sound_fits HPP.out (s := (bl s).drop (n)) h)
          obtain ⟨y, hy⟩ : ∃ y, y = (pp ((bl s).drop (n))).1 := ⟨_, rfl⟩
          obtain ⟨q, hq⟩ : ∃ q, q = (pp ((bl s).drop (n))).2 := ⟨_, rfl⟩
          rw [← hy, ← hq] at HF HR
          simp only [st2] at HC
          rw [← hy, ← hq] at HC
          generalize s.extract (n) s.size = sx at *
          clear hsz hy hq
          by_cases hye : y = []
          · rw [if_pos hye, comb_none] at HR
            have qy : (⟨y.toArray⟩ : ByteArray).toList.isEmpty = true := by rw [isEmpty_mk]; exact decide_eq_true hye
            generalize (⟨y.toArray⟩ : ByteArray) = yb at *
            clear hye
            go_wp2_with fail
            refine (HC.out wr).mono ?_; rintro e w2 ⟨rfl, b2⟩
            have B2 := Lib.hid (below_step hb.out b2)
            clear b2
            go_wp2_with fail
            go_ret2
            exact ⟨.inr ⟨rfl, HR.out⟩, B2.out⟩
          · rw [if_neg hye, comb_cons] at HR
            obtain ⟨hyl, hql⟩ := HF.out hye
            have HYL := Lib.hid hyl
            have hqs : n + q ≤ s.size := by rw [List.length_drop, bl_length] at hql; omega
            have qy : (⟨y.toArray⟩ : ByteArray).toList.isEmpty = false := by rw [isEmpty_mk]; exact decide_eq_false hye
            obtain ⟨yb, hyb⟩ : ∃ yb : ByteArray, yb = ⟨y.toArray⟩ := ⟨_, rfl⟩
            rw [← hyb] at qy HC
            have HRX : Hid (res = comb ((P ++ [yb]).map bl) (n + q) (pParts pp fin (33 - (P ++ [yb]).length) ((P ++ [yb]).length == 0) ((bl s).drop (n + q)))) := Lib.hid (by
              rw [HR.out, List.map_append, List.length_append, List.length_singleton, ← HM.out, HK.out, List.drop_drop, hyb]
              simp [bl])
            have HPS : Hid (∀ x ∈ P ++ [yb], x.size ≤ 16384) := Lib.hid (fun x hx => by
              rcases List.mem_append.1 hx with hx | hx
              · exact hPs.out x hx
              · rw [List.mem_singleton] at hx; rw [hx, hyb, size_lit]; exact HYL.out)
            have HPL : Hid ((P ++ [yb]).length = 0 + 1) := Lib.hid (by rw [List.length_append, List.length_singleton, HM.out])
            have HPL2 : Hid (P.length = 0) := Lib.hid HM.out.symm
            clear hye hyl hql hyb
            go_wp2_with fail
            refine (HC.out wr).mono ?_; rintro e w2 ⟨rfl, b2⟩
            have B2 := Lib.hid (below_step hb.out b2)
            have O2 := Lib.hid (ownT_below hown.out b2)
            have HSZ := Lib.hid (Nat.le_trans hb.out.size b2.size)
            clear b2
            go_wp2_with (at_builtin; refine wpList_append_own _ rfl _ _ 29 rfl w.heap.size 9 i0 (.string ⟨#[]⟩) 1 16 Tryz.underlying29 HI.out hz0 hz1 hz2 rfl (by decide) _ _ _ rfl (World.ownsRow.alloc O2.out _) ⟨w2.heap.size, 0, none⟩ 1 1 [.string yb] rfl rfl ?c1 ?c2 ?c3 ?c4 ?c5 ?_)
            case c1 =>
              intro j u hj
              match j, hj with
              | 0, hj => simp at hj; subst hj; simp [Addr.add]
              | (j + 1), hj => simp at hj
            case c2 => intro u hu; simp at hu; subst hu; rfl
            case c3 => have := HPL2.out; unfold maxLen; omega
            case c4 => have := HPL2.out; omega
            case c5 => have := HSZ.out; simp; omega
            intro v' w3 hown' hgrow _
            have HO : Hid (OwnT w3 w.heap.size v' (P ++ [yb])) := Lib.hid (by
              have h := hown'
              unfold OwnT
              rw [show txts (P ++ [yb]) = txts P ++ [.string yb] by simp [txts], List.length_append, List.length_singleton]
              exact h)
            have B3 : Hid (Below w.heap.size w w3) := Lib.hid ((B2.out.alloc (by have := HSZ.out; omega) _).grown hgrow (by have := HSZ.out; simp; omega) (fun j hj => (O2.out.lt _ hj).1))
            obtain ⟨ao2, cap2, rfl, _⟩ := ownT_row HO.out
            rw [HPL.out] at HO ⊢
            clear hown' hgrow
            go_wp2_with fail
            go_roundw
            case rel => exact ⟨P ++ [yb], n + q, by go_num, hqs, by rw [HPL.out]; omega, HPS, HO, HRX, B3⟩
            case measure => first | (simp; done) | (simp; omega)
        · have hlt' : ¬ (n : Int) < (s.size : Int) := by omega
          clear hlt
          have hpn0 : (0 : Int) ≤ (n : Int) := by omega
          have sl : ∀ V : World, (Instr.sliceAt 9 (.string s) (some (.int .i64 ((n : Int)))) none none).run Tryz.prog V = .ok (.string (s.extract (n) s.size)) V := tslice_from s (n) hpl
          have hsz : (s.extract (n) s.size).size ≤ 281474976710656 := by rw [size_bl, bl_from, List.length_drop, bl_length]; omega
          have HC := Lib.hid (fun V => HPC.out (s.extract (n) s.size) V hsz)
          rw [bl_from] at HC
          have HF := Lib.hid (fun h => sound_fits HPP.out (s := (bl s).drop (n)) h)
          obtain ⟨y, hy⟩ : ∃ y, y = (pp ((bl s).drop (n))).1 := ⟨_, rfl⟩
          obtain ⟨q, hq⟩ : ∃ q, q = (pp ((bl s).drop (n))).2 := ⟨_, rfl⟩
          rw [← hy, ← hq] at HF HR
          simp only [st2] at HC
          rw [← hy, ← hq] at HC
          generalize s.extract (n) s.size = sx at *
          clear hsz hy hq
          by_cases hye : y = []
          · rw [if_pos hye, comb_none] at HR
            have qy : (⟨y.toArray⟩ : ByteArray).toList.isEmpty = true := by rw [isEmpty_mk]; exact decide_eq_true hye
            generalize (⟨y.toArray⟩ : ByteArray) = yb at *
            clear hye
            go_wp2_with fail
            refine (HC.out wr).mono ?_; rintro e w2 ⟨rfl, b2⟩
            have B2 := Lib.hid (below_step hb.out b2)
            clear b2
            go_wp2_with fail
            go_ret2
            exact ⟨.inr ⟨rfl, HR.out⟩, B2.out⟩
          · rw [if_neg hye, comb_cons] at HR
            obtain ⟨hyl, hql⟩ := HF.out hye
            have HYL := Lib.hid hyl
            have hqs : n + q ≤ s.size := by rw [List.length_drop, bl_length] at hql; omega
            have qy : (⟨y.toArray⟩ : ByteArray).toList.isEmpty = false := by rw [isEmpty_mk]; exact decide_eq_false hye
            obtain ⟨yb, hyb⟩ : ∃ yb : ByteArray, yb = ⟨y.toArray⟩ := ⟨_, rfl⟩
            rw [← hyb] at qy HC
            have HRX : Hid (res = comb ((P ++ [yb]).map bl) (n + q) (pParts pp fin (33 - (P ++ [yb]).length) ((P ++ [yb]).length == 0) ((bl s).drop (n + q)))) := Lib.hid (by
              rw [HR.out, List.map_append, List.length_append, List.length_singleton, ← HM.out, HK.out, List.drop_drop, hyb]
              simp [bl])
            have HPS : Hid (∀ x ∈ P ++ [yb], x.size ≤ 16384) := Lib.hid (fun x hx => by
              rcases List.mem_append.1 hx with hx | hx
              · exact hPs.out x hx
              · rw [List.mem_singleton] at hx; rw [hx, hyb, size_lit]; exact HYL.out)
            have HPL : Hid ((P ++ [yb]).length = 0 + 1) := Lib.hid (by rw [List.length_append, List.length_singleton, HM.out])
            have HPL2 : Hid (P.length = 0) := Lib.hid HM.out.symm
            clear hye hyl hql hyb
            go_wp2_with fail
            refine (HC.out wr).mono ?_; rintro e w2 ⟨rfl, b2⟩
            have B2 := Lib.hid (below_step hb.out b2)
            have O2 := Lib.hid (ownT_below hown.out b2)
            have HSZ := Lib.hid (Nat.le_trans hb.out.size b2.size)
            clear b2
            go_wp2_with (at_builtin; refine wpList_append_own _ rfl _ _ 29 rfl w.heap.size 9 i0 (.string ⟨#[]⟩) 1 16 Tryz.underlying29 HI.out hz0 hz1 hz2 rfl (by decide) _ _ _ rfl (World.ownsRow.alloc O2.out _) ⟨w2.heap.size, 0, none⟩ 1 1 [.string yb] rfl rfl ?c1 ?c2 ?c3 ?c4 ?c5 ?_)
            case c1 =>
              intro j u hj
              match j, hj with
              | 0, hj => simp at hj; subst hj; simp [Addr.add]
              | (j + 1), hj => simp at hj
            case c2 => intro u hu; simp at hu; subst hu; rfl
            case c3 => have := HPL2.out; unfold maxLen; omega
            case c4 => have := HPL2.out; omega
            case c5 => have := HSZ.out; simp; omega
            intro v' w3 hown' hgrow _
            have HO : Hid (OwnT w3 w.heap.size v' (P ++ [yb])) := Lib.hid (by
              have h := hown'
              unfold OwnT
              rw [show txts (P ++ [yb]) = txts P ++ [.string yb] by simp [txts], List.length_append, List.length_singleton]
              exact h)
            have B3 : Hid (Below w.heap.size w w3) := Lib.hid ((B2.out.alloc (by have := HSZ.out; omega) _).grown hgrow (by have := HSZ.out; simp; omega) (fun j hj => (O2.out.lt _ hj).1))
            obtain ⟨ao2, cap2, rfl, _⟩ := ownT_row HO.out
            rw [HPL.out] at HO ⊢
            clear hown' hgrow
            go_wp2_with fail
            go_roundw
            case rel => exact ⟨P ++ [yb], n + q, by go_num, hqs, by rw [HPL.out]; omega, HPS, HO, HRX, B3⟩
            case measure => first | (simp; done) | (simp; omega)
      · have hm1 : (0 : Int) < (m : Int) := by omega
        have qm : ((m : Int) == 0) = false := by rw [beq_eq_false_iff_ne]; omega
        have hm2 : (m == 0) = false := by rw [beq_eq_false_iff_ne]; exact hm0
        rw [hm2] at hr
        clear hm0 hm2
        by_cases h2 : ((bl s).drop n).take 2 = [44, 32]
        · have hpl : n + 2 ≤ s.size := by
            have h3 := congrArg List.length h2
            rw [List.length_take, List.length_drop, bl_length] at h3
            simp only [List.length_cons, List.length_nil] at h3
            omega
          have HR : Hid (res = comb (P.map bl) n (if (pp ((bl s).drop (n + 2))).1 = [] then none else (pParts pp fin k false (((bl s).drop (n + 2)).drop (pp ((bl s).drop (n + 2))).2)).map (fun r => ((pp ((bl s).drop (n + 2))).1 :: r.1, 2 + (pp ((bl s).drop (n + 2))).2 + r.2)))) := Lib.hid (by
            rw [hr.out, pp_more hh h2, List.drop_drop])
          have hlt : n < s.size := by omega
          have hlt' : (n : Int) < (s.size : Int) := by omega
          have hlt2 : (n : Int) + 2 ≤ (s.size : Int) := by omega
          have sx : ∀ V : World, (Instr.sliceAt 9 (.string s) (some (.int .i64 (n : Int))) (some (.int .i64 ((n : Int) + 1))) none).run Tryz.prog V = .ok (.string (s.extract n (n + 1))) V := tslice_mid s n (n + 1) (by omega) hlt
          have qx := QX.out hlt
          generalize s.extract n (n + 1) = x1 at *
          have sy : ∀ V : World, (Instr.sliceAt 9 (.string s) (some (.int .i64 (n : Int))) (some (.int .i64 ((n : Int) + 2))) none).run Tryz.prog V = .ok (.string (s.extract n (n + 2))) V := tslice_mid s n (n + 2) (by omega) hpl
          have qz : s.extract n (n + 2) = ⟨#[44, 32]⟩ := by apply bl_inj; rw [bl_two, h2]; rfl
          rw [qz] at sy
          clear hh hlt h2 qz
          have hpn0 : (0 : Int) ≤ (n : Int) + 2 := by omega
          have sl : ∀ V : World, (Instr.sliceAt 9 (.string s) (some (.int .i64 ((n : Int) + 2))) none none).run Tryz.prog V = .ok (.string (s.extract ((n + 2)) s.size)) V := tslice_from s ((n + 2)) hpl
          have hsz : (s.extract ((n + 2)) s.size).size ≤ 281474976710656 := by rw [size_bl, bl_from, List.length_drop, bl_length]; omega
          have HC := Lib.hid (fun V => HPC.out (s.extract ((n + 2)) s.size) V hsz)
          rw [bl_from] at HC
          have HF := Lib.hid (fun h => sound_fits HPP.out (s := (bl s).drop ((n + 2))) h)
          obtain ⟨y, hy⟩ : ∃ y, y = (pp ((bl s).drop ((n + 2)))).1 := ⟨_, rfl⟩
          obtain ⟨q, hq⟩ : ∃ q, q = (pp ((bl s).drop ((n + 2)))).2 := ⟨_, rfl⟩
          rw [← hy, ← hq] at HF HR
          simp only [st2] at HC
          rw [← hy, ← hq] at HC
          generalize s.extract ((n + 2)) s.size = sx at *
          clear hsz hy hq
          by_cases hye : y = []
          · rw [if_pos hye, comb_none] at HR
            have qy : (⟨y.toArray⟩ : ByteArray).toList.isEmpty = true := by rw [isEmpty_mk]; exact decide_eq_true hye
            generalize (⟨y.toArray⟩ : ByteArray) = yb at *
            clear hye
            go_wp2_with fail
            refine (HC.out wr).mono ?_; rintro e w2 ⟨rfl, b2⟩
            have B2 := Lib.hid (below_step hb.out b2)
            clear b2
            go_wp2_with fail
            go_ret2
            exact ⟨.inr ⟨rfl, HR.out⟩, B2.out⟩
          · rw [if_neg hye, comb_cons] at HR
            obtain ⟨hyl, hql⟩ := HF.out hye
            have HYL := Lib.hid hyl
            have hqs : (n + 2) + q ≤ s.size := by rw [List.length_drop, bl_length] at hql; omega
            have qy : (⟨y.toArray⟩ : ByteArray).toList.isEmpty = false := by rw [isEmpty_mk]; exact decide_eq_false hye
            obtain ⟨yb, hyb⟩ : ∃ yb : ByteArray, yb = ⟨y.toArray⟩ := ⟨_, rfl⟩
            rw [← hyb] at qy HC
            have HRX : Hid (res = comb ((P ++ [yb]).map bl) ((n + 2) + q) (pParts pp fin (33 - (P ++ [yb]).length) ((P ++ [yb]).length == 0) ((bl s).drop ((n + 2) + q)))) := Lib.hid (by
              rw [HR.out, List.map_append, List.length_append, List.length_singleton, ← HM.out, HK.out, List.drop_drop, hyb]
              simp [bl, Nat.add_assoc])
            have HPS : Hid (∀ x ∈ P ++ [yb], x.size ≤ 16384) := Lib.hid (fun x hx => by
              rcases List.mem_append.1 hx with hx | hx
              · exact hPs.out x hx
              · rw [List.mem_singleton] at hx; rw [hx, hyb, size_lit]; exact HYL.out)
            have HPL : Hid ((P ++ [yb]).length = m + 1) := Lib.hid (by rw [List.length_append, List.length_singleton, HM.out])
            have HPL2 : Hid (P.length = m) := Lib.hid HM.out.symm
            clear hye hyl hql hyb
            go_wp2_with fail
            refine (HC.out wr).mono ?_; rintro e w2 ⟨rfl, b2⟩
            have B2 := Lib.hid (below_step hb.out b2)
            have O2 := Lib.hid (ownT_below hown.out b2)
            have HSZ := Lib.hid (Nat.le_trans hb.out.size b2.size)
            clear b2
            go_wp2_with (at_builtin; refine wpList_append_own _ rfl _ _ 29 rfl w.heap.size 9 i0 (.string ⟨#[]⟩) 1 16 Tryz.underlying29 HI.out hz0 hz1 hz2 rfl (by decide) _ _ _ rfl (World.ownsRow.alloc O2.out _) ⟨w2.heap.size, 0, none⟩ 1 1 [.string yb] rfl rfl ?c1 ?c2 ?c3 ?c4 ?c5 ?_)
            case c1 =>
              intro j u hj
              match j, hj with
              | 0, hj => simp at hj; subst hj; simp [Addr.add]
              | (j + 1), hj => simp at hj
            case c2 => intro u hu; simp at hu; subst hu; rfl
            case c3 => have := HPL2.out; unfold maxLen; omega
            case c4 => have := HPL2.out; omega
            case c5 => have := HSZ.out; simp; omega
            intro v' w3 hown' hgrow _
            have HO : Hid (OwnT w3 w.heap.size v' (P ++ [yb])) := Lib.hid (by
              have h := hown'
              unfold OwnT
              rw [show txts (P ++ [yb]) = txts P ++ [.string yb] by simp [txts], List.length_append, List.length_singleton]
              exact h)
            have B3 : Hid (Below w.heap.size w w3) := Lib.hid ((B2.out.alloc (by have := HSZ.out; omega) _).grown hgrow (by have := HSZ.out; simp; omega) (fun j hj => (O2.out.lt _ hj).1))
            obtain ⟨ao2, cap2, rfl, _⟩ := ownT_row HO.out
            rw [HPL.out] at HO ⊢
            clear hown' hgrow
            go_wp2_with fail
            go_roundw
            case rel => exact ⟨P ++ [yb], (n + 2) + q, by go_num, hqs, by rw [HPL.out]; omega, HPS, HO, HRX, B3⟩
            case measure => first | (simp; done) | (simp; omega)
        · have HR : Hid (res = none) := Lib.hid (by rw [hr.out, pp_sep hh h2, comb_none])
          by_cases hl2 : n + 2 ≤ s.size
          · have hlt : n < s.size := by omega
            have hlt' : (n : Int) < (s.size : Int) := by omega
            have hlt2 : (n : Int) + 2 ≤ (s.size : Int) := by omega
            have sx : ∀ V : World, (Instr.sliceAt 9 (.string s) (some (.int .i64 (n : Int))) (some (.int .i64 ((n : Int) + 1))) none).run Tryz.prog V = .ok (.string (s.extract n (n + 1))) V := tslice_mid s n (n + 1) (by omega) hlt
            have qx := QX.out hlt
            generalize s.extract n (n + 1) = x1 at *
            have sy : ∀ V : World, (Instr.sliceAt 9 (.string s) (some (.int .i64 (n : Int))) (some (.int .i64 ((n : Int) + 2))) none).run Tryz.prog V = .ok (.string (s.extract n (n + 2))) V := tslice_mid s n (n + 2) (by omega) hl2
            have qz1 : ((s.extract n (n + 2)).toList == [44, 32]) = false := by
              rw [Lib.toList_data]
              exact beq_eq_false_iff_ne.2 (fun e => h2 (by rw [← bl_two]; exact e))
            generalize s.extract n (n + 2) = x2 at *
            clear hh hlt h2 hl2
            go_wp2_with fail
            go_ret2
            exact ⟨.inr ⟨rfl, HR.out⟩, hb.out⟩
          · have hl3 : ¬ (n : Int) + 2 ≤ (s.size : Int) := by omega
            have hl4 : (s.size : Int) < (n : Int) + 2 := by omega
            clear hl2 h2
            by_cases hlt : n < s.size
            · have hlt' : (n : Int) < (s.size : Int) := by omega
              have sx : ∀ V : World, (Instr.sliceAt 9 (.string s) (some (.int .i64 (n : Int))) (some (.int .i64 ((n : Int) + 1))) none).run Tryz.prog V = .ok (.string (s.extract n (n + 1))) V := tslice_mid s n (n + 1) (by omega) hlt
              have qx := QX.out hlt
              generalize s.extract n (n + 1) = x1 at *
              clear hh hlt
              go_wp2_with fail
              go_ret2
              exact ⟨.inr ⟨rfl, HR.out⟩, hb.out⟩
            · have hlt' : ¬ (n : Int) < (s.size : Int) := by omega
              clear hh hlt
              go_wp2_with fail
              go_ret2
              exact ⟨.inr ⟨rfl, HR.out⟩, hb.out⟩
end Go.Proofs.YtiehhlolhhjgpaaGreatDoor.Pl
