/- What the document's parse and Parse of layer 7 answer. -/
import Derived.Test.YtiehhlolhhjgpaaGreatDoorShowParts
import Derived.Deep.RegionHeld3
namespace Go.Proofs.YtiehhlolhhjgpaaGreatDoor.Pl
open Go.RowKit

theorem byte_ne {c : UInt8} {n : UInt8} (h : c ≠ n) : ((c.toNat : Int) == (n.toNat : Int)) = false := by
  rw [beq_eq_false_iff_ne]; intro e; exact h (UInt8.toNat_inj.1 (by exact_mod_cast e))
theorem pAtom_le (s : List UInt8) : (pAtom s).2 ≤ s.length := runL_le _ _
theorem pBytes_le (s : List UInt8) : (pBytes s).2 ≤ s.length := by
  unfold pBytes
  split
  · exact Nat.zero_le _
  · split
    · exact Nat.zero_le _
    · exact runL_le _ _
theorem pQuoted_le (s : List UInt8) : (pQuoted s).2 ≤ s.length := by
  unfold pQuoted
  split
  · exact Nat.zero_le _
  · rename_i h
    have := runL_le notQ s
    have h2 : runL notQ s ≠ s.length := fun e => h (.inl e)
    show runL notQ s + 1 ≤ _
    omega

theorem rd7_keep2 {w W W' : World} {a a1 : Addr} {x y : Value} (h : W.cell? a = some x ∧ W.cell? a1 = some y ∧ Hid (Below w.heap.size w W)) (hb : Below W.heap.size W W') : W'.cell? a = some x ∧ W'.cell? a1 = some y ∧ Hid (Below w.heap.size w W') :=
  ⟨(hb.cell (World.block_lt_of_cell? _ _ h.1)).trans h.1, (hb.cell (World.block_lt_of_cell? _ _ h.2.1)).trans h.2.1, Lib.hid (below_step h.2.2.out hb)⟩
theorem rd7_keep3 {w W W' : World} {a a1 a2 : Addr} {x y z : Value} (h : W.cell? a = some x ∧ W.cell? a1 = some y ∧ W.cell? a2 = some z ∧ Hid (Below w.heap.size w W)) (hb : Below W.heap.size W W') : W'.cell? a = some x ∧ W'.cell? a1 = some y ∧ W'.cell? a2 = some z ∧ Hid (Below w.heap.size w W') :=
  ⟨(hb.cell (World.block_lt_of_cell? _ _ h.1)).trans h.1, (hb.cell (World.block_lt_of_cell? _ _ h.2.1)).trans h.2.1, (hb.cell (World.block_lt_of_cell? _ _ h.2.2.1)).trans h.2.2.1, Lib.hid (below_step h.2.2.2.out hb)⟩
set_option maxHeartbeats 8000000 in
set_option maxRecDepth 100000 in
theorem rparse_step (d : Nat) (D1 : Int) (hD0 : -100 ≤ D1) (hD1 : D1 ≤ 16)
    (ih : ∀ (s : ByteArray) (V : World), s.size ≤ 281474976710656 → Calls Tryz.prog 40 #[.string s, .int .i64 (D1 + 1)] V fun e w' => e = .returned (st2 (pParse d (bl s))) ∧ Below V.heap.size V w')
    (s : ByteArray) (hs : s.size ≤ 281474976710656) (w : World) :
    Calls Tryz.prog 40 #[.string s, .int .i64 D1] w fun e w' => e = .returned (st2 (pParse (d + 1) (bl s))) ∧ Below w.heap.size w w' := by
  obtain ⟨p, hp⟩ : ∃ p, p = pParse (d + 1) (bl s) := ⟨_, rfl⟩
  rw [← hp]
  have qd : decide ((16 : Int) < D1) = false := decide_eq_false (by omega)
  cases hb : bl s with
  | nil =>
    rw [hb, pParse] at hp
    have HP := Lib.hid hp
    have qy : s.toList.isEmpty = true := by rw [Lib.toList_data]; show (bl s).isEmpty = true; rw [hb]; rfl
    clear hp hb ih
    simp only [st2]
    go_enter Tryz.func40, Tryz.ntmps40
    go_wp2_with fail
    go_ret2
    exact ⟨by rw [HP.out]; rfl, Below.refl _ _⟩
  | cons c r =>
    rw [hb, pParse] at hp
    have qy : s.toList.isEmpty = false := by rw [Lib.toList_data]; show (bl s).isEmpty = false; rw [hb]; rfl
    have hpos : 1 ≤ s.size := by rw [size_bl, hb, List.length_cons]; omega
    have hpos' : (1 : Int) ≤ (s.size : Int) := by omega
    have hpos2 : (0 : Int) < (s.size : Int) := by omega
    have hr1 : (bl s).drop 1 = r := by rw [hb]; rfl
    have hrl : r.length ≤ 281474976710656 := by have := congrArg List.length hb; rw [bl_length, List.length_cons] at this; omega
    have hs1 : (s.extract 1 s.size).size ≤ 281474976710656 := by rw [size_bl, bl_from, hr1]; exact hrl
    have sl1 : ∀ V : World, (Instr.sliceAt 9 (.string s) (some (.int .i64 1)) none none).run Tryz.prog V = .ok (.string (s.extract 1 s.size)) V := tslice_from s 1 hpos
    have ix0 : ∀ V : World, (Instr.index 9 (.string s) (.int .i64 0)).run Tryz.prog V = .ok (.int .u8 (c.toNat : Int)) V := tstr_index s 0 c (by omega) (by rw [hb]; rfl)
    have hcr : bl s = c :: r := hb
    by_cases hc36 : c = 36
    · rw [if_pos hc36] at hp
      have HP := Lib.hid hp
      have HK := Lib.hid (fun V => ratom7_any (s.extract 1 s.size) hs1 V)
      rw [bl_from, hr1] at HK
      have q1 : ((c.toNat : Int) == 36) = true := by rw [hc36]; rfl
      have hz2 : (pAtom r).2 ≤ 281474976710656 := Nat.le_trans (pAtom_le r) hrl
      generalize pAtom r = z at *
      simp only [st2] at HK ⊢
      generalize s.extract 1 s.size = s1 at *
      clear hc36 hp hr1 hcr ih
      go_enter Tryz.func40, Tryz.ntmps40
      go_wp2_with fail
      refine (HK.out w).mono ?_; rintro e w1 ⟨rfl, b1⟩
      go_wp2_with fail
      go_ret2
      exact ⟨by rw [HP.out]; rfl, b1⟩
    rw [if_neg hc36] at hp
    by_cases hc120 : c = 120
    · rw [if_pos hc120] at hp
      have HP := Lib.hid hp
      have HK := Lib.hid (fun V => rbytes_any (s.extract 1 s.size) hs1 V)
      rw [bl_from, hr1] at HK
      have q1 : ((c.toNat : Int) == 120) = true := by rw [hc120]; rfl
      have q0 : ((c.toNat : Int) == 36) = false := by rw [hc120]; rfl
      have hz2 : (pBytes r).2 ≤ 281474976710656 := Nat.le_trans (pBytes_le r) hrl
      generalize pBytes r = z at *
      simp only [st2] at HK ⊢
      generalize s.extract 1 s.size = s1 at *
      clear hc120 hp hr1 hcr ih
      go_enter Tryz.func40, Tryz.ntmps40
      go_wp2_with fail
      refine (HK.out w).mono ?_; rintro e w1 ⟨rfl, b1⟩
      go_wp2_with fail
      go_ret2
      exact ⟨by rw [HP.out]; rfl, b1⟩
    rw [if_neg hc120] at hp
    by_cases hc34 : c = 34
    · rw [if_pos hc34] at hp
      have HP := Lib.hid hp
      have HK := Lib.hid (fun V => rquoted_any (s.extract 1 s.size) hs1 V)
      rw [bl_from, hr1] at HK
      have q1 : ((c.toNat : Int) == 34) = true := by rw [hc34]; rfl
      have q0 : ((c.toNat : Int) == 36) = false := by rw [hc34]; rfl
      have q00 : ((c.toNat : Int) == 120) = false := by rw [hc34]; rfl
      have hz2 : (pQuoted r).2 ≤ 281474976710656 := Nat.le_trans (pQuoted_le r) hrl
      generalize pQuoted r = z at *
      simp only [st2] at HK ⊢
      generalize s.extract 1 s.size = s1 at *
      clear hc34 hp hr1 hcr ih
      go_enter Tryz.func40, Tryz.ntmps40
      go_wp2_with fail
      refine (HK.out w).mono ?_; rintro e w1 ⟨rfl, b1⟩
      go_wp2_with fail
      go_ret2
      exact ⟨by rw [HP.out]; rfl, b1⟩
    rw [if_neg hc34] at hp
    have n36 := byte_ne (n := 36) hc36
    have n120 := byte_ne (n := 120) hc120
    have n34 := byte_ne (n := 34) hc34
    simp only [show (((36 : UInt8).toNat : Nat) : Int) = 36 from rfl] at n36
    simp only [show (((120 : UInt8).toNat : Nat) : Int) = 120 from rfl] at n120
    simp only [show (((34 : UInt8).toNat : Nat) : Int) = 34 from rfl] at n34
    by_cases hc91 : c = 91
    · rw [if_pos hc91] at hp
      have HP := Lib.hid hp
      have HK := Lib.hid (rparts7_any (pParse d) (parse_sound d) (D1 + 1) ih 93 ⟨#[93]⟩ rfl (s.extract 1 s.size) hs1 w)
      rw [bl_from, hr1] at HK
      have q1 : ((c.toNat : Int) == 91) = true := by rw [hc91]; rfl
      generalize s.extract 1 s.size = s1 at *
      clear hc91 hp hr1 hcr ih
      simp only [st2]
      go_enter Tryz.func40, Tryz.ntmps40
      go_wp2_with fail
      refine HK.out.mono ?_
      rintro e w1 ⟨(⟨v, P, n, rfl, hpp, ho, hPs, hPl, hn⟩ | ⟨rfl, hpp⟩), b1⟩
      · rw [hpp] at HP
        have HPE : Hid (p = ((rowP (P.map bl)).1, n + 1)) := Lib.hid HP.out
        clear HP
        obtain ⟨ao, cap, rfl, hrow⟩ := ownT_row ho
        have HR := Lib.hid (rrow6_any P ao cap (by omega) (fun x hx => Nat.le_trans (hPs x hx) (by decide)) w1 hrow)
        generalize rowP (P.map bl) = z at *
        simp only [st2] at HR
        have qn : decide ((n : Int) < 0) = false := decide_eq_false (by omega)
        have hn2 : n ≤ 281474976710656 := Nat.le_trans hn hs1
        clear hpp ho hPs hrow hn
        go_wp2_with fail
        refine HR.out.mono ?_; rintro e w2 ⟨rfl, b2⟩
        go_wp2_with fail
        go_ret2
        exact ⟨by rw [HPE.out]; rfl, below_step b1 b2⟩
      · rw [hpp] at HP
        go_wp2_with fail
        go_ret2
        exact ⟨by rw [HP.out]; rfl, b1⟩
    rw [if_neg hc91] at hp
    have n91 := byte_ne (n := 91) hc91
    simp only [show (((91 : UInt8).toNat : Nat) : Int) = 91 from rfl] at n91
    clear hc91 hc34 hc120 hc36
    cases hr : r with
    | nil =>
      rw [hr, if_pos (by simp)] at hp
      have HP := Lib.hid hp
      have hl1 : (s.size : Int) < 2 := by rw [size_bl, hb, hr]; show ((1 : Nat) : Int) < 2; decide
      clear hp hr1 hcr ih hr hrl hb
      simp only [st2]
      go_enter Tryz.func40, Tryz.ntmps40
      go_wp2_with fail
      go_ret2
      exact ⟨by rw [HP.out]; rfl, Below.refl _ _⟩
    | cons c2 r2 =>
      have hl2 : 2 ≤ s.size := by rw [size_bl, hb, hr]; simp
      have hl2' : ¬ (s.size : Int) < 2 := by omega
      have hl3 : (1 : Int) < (s.size : Int) := by omega
      have hl4 : (2 : Int) ≤ (s.size : Int) := by omega
      have ix1 : ∀ V : World, (Instr.index 9 (.string s) (.int .i64 1)).run Tryz.prog V = .ok (.int .u8 (c2.toNat : Int)) V := tstr_index s 1 c2 (by omega) (by rw [hb, hr]; rfl)
      by_cases h40 : c2 = 40
      · rw [hr, if_neg (by rw [h40]; simp)] at hp
        have HP := Lib.hid hp
        have q40 : ((c2.toNat : Int) != 40) = false := by rw [h40]; rfl
        have sl2 : ∀ V : World, (Instr.sliceAt 9 (.string s) (some (.int .i64 2)) none none).run Tryz.prog V = .ok (.string (s.extract 2 s.size)) V := tslice_from s 2 hl2
        have hs2 : (s.extract 2 s.size).size ≤ 281474976710656 := by rw [size_bl, bl_from, List.length_drop, bl_length]; omega
        have HK := Lib.hid (rparts7_any (pParse d) (parse_sound d) (D1 + 1) ih 41 ⟨#[41]⟩ rfl (s.extract 2 s.size) hs2 w)
        rw [bl_from, hb, hr] at HK
        simp only [List.drop_succ_cons, List.drop_zero] at HK HP
        generalize s.extract 2 s.size = s2 at *
        clear hp hr1 hcr ih hr hrl hb h40
        simp only [st2]
        go_enter Tryz.func40, Tryz.ntmps40
        go_wp2_with fail
        refine HK.out.mono ?_
        rintro e w1 ⟨(⟨v, P, n, rfl, hpp, ho, hPs, hPl, hn⟩ | ⟨rfl, hpp⟩), b1⟩
        · rw [hpp] at HP
          obtain ⟨ao, cap, rfl, hrow⟩ := ownT_row ho
          have HPE : Hid (p = (pMade c (P.map bl), n + 2)) := Lib.hid HP.out
          have qn : decide ((n : Int) < 0) = false := decide_eq_false (by omega)
          have hn2 : n ≤ 281474976710656 := Nat.le_trans hn hs2
          have HL : Hid ((P.map bl).length = P.length) := Lib.hid (List.length_map _)
          clear HP ho hpp hn
          by_cases hA : c = 104 ∧ P.length = 1
          · obtain ⟨rfl, hl⟩ := hA
            obtain ⟨x, rfl⟩ := List.length_eq_one_iff.1 hl
            have HPF : Hid (p = ((madeP [104] [bl x]).1, n + 2)) := Lib.hid (by rw [HPE.out]; simp only [List.map_cons, List.map_nil]; rw [pMade_hash rfl])
            have HH := Lib.hid (fun V => rhash_any x (Nat.le_trans (hPs x (by simp)) (by decide)) V)
            simp only [st2] at HH
            generalize madeP [104] [bl x] = z at *
            rcases hrow with e | ⟨b, off, rfl, hlt, hc⟩
            · cases e
            have ck := hc 0 (by simp)
            simp only [Nat.add_zero, List.getD_cons_zero] at ck
            clear HPE HL hc hPs hPl
            go_wp2_with fail
            refine (HH.out w1).mono ?_; rintro e w2 ⟨rfl, b2⟩
            go_wp2_with fail
            go_ret2
            exact ⟨by rw [HPF.out]; rfl, below_step b1 b2⟩
          by_cases hB : c = 109 ∧ P.length = 2
          · obtain ⟨rfl, hl⟩ := hB
            obtain ⟨x, y, rfl⟩ : ∃ x y, P = [x, y] := by
              match P, hl with
              | [x, y], _ => exact ⟨x, y, rfl⟩
            have HPF : Hid (p = ((madeP [109] [bl x, bl y]).1, n + 2)) := Lib.hid (by rw [HPE.out]; simp only [List.map_cons, List.map_nil]; rw [pMade_mac rfl])
            have HH := Lib.hid (fun V => rmac_any x y (Nat.le_trans (hPs x (by simp)) (by decide)) (Nat.le_trans (hPs y (by simp)) (by decide)) V)
            simp only [st2] at HH
            generalize madeP [109] [bl x, bl y] = z at *
            rcases hrow with e | ⟨b, off, rfl, hlt, hc⟩
            · cases e
            have ck := hc 0 (by simp)
            have ck1 := hc 1 (by simp)
            simp only [Nat.add_zero, List.getD_cons_zero, List.getD_cons_succ] at ck ck1
            have B1 : Hid (Below w.heap.size w w1.drew) := Lib.hid b1.drew
            have S0 : w1.drew.cell? ⟨b, off, none⟩ = some (.string x) ∧ w1.drew.cell? ⟨b, off + 1, none⟩ = some (.string y) ∧ Hid (Below w.heap.size w w1.drew) := ⟨ck, ck1, B1⟩
            clear HPE HL hc hPs hPl hA b1
            go_wp2_with fail
            go_region_held3 (fun W => W.cell? ⟨b, off, none⟩ = some (.string x) ∧ W.cell? ⟨b, off + 1, none⟩ = some (.string y) ∧ Hid (Below w.heap.size w W)) (first | assumption | with_reducible exact rd7_keep2 ‹_› ‹_›) (first
              | (go_at_call 76; with_reducible refine (HH.out _).mono ?_; rintro e w2 ⟨rfl, b2⟩))
            go_wp2_with fail
            go_ret2
            exact ⟨by rw [HPF.out]; rfl, below_step B1.out b2⟩
          by_cases hC : c = 115 ∧ P.length = 3
          · obtain ⟨rfl, hl⟩ := hC
            obtain ⟨x, y, u, rfl⟩ : ∃ x y u, P = [x, y, u] := by
              match P, hl with
              | [x, y, u], _ => exact ⟨x, y, u, rfl⟩
            have HPF : Hid (p = ((madeP [115] [bl x, bl y, bl u]).1, n + 2)) := Lib.hid (by rw [HPE.out]; simp only [List.map_cons, List.map_nil]; rw [pMade_seal rfl])
            have HH := Lib.hid (fun V => rseal6_any x y u (Nat.le_trans (hPs x (by simp)) (by decide)) (Nat.le_trans (hPs y (by simp)) (by decide)) (Nat.le_trans (hPs u (by simp)) (by decide)) V)
            simp only [st2] at HH
            generalize madeP [115] [bl x, bl y, bl u] = z at *
            rcases hrow with e | ⟨b, off, rfl, hlt, hc⟩
            · cases e
            have ck := hc 0 (by simp)
            have ck1 := hc 1 (by simp)
            have ck2 := hc 2 (by simp)
            simp only [Nat.add_zero, List.getD_cons_zero, List.getD_cons_succ] at ck ck1 ck2
            have B1 : Hid (Below w.heap.size w w1.drew) := Lib.hid b1.drew
            have S0 : w1.drew.cell? ⟨b, off, none⟩ = some (.string x) ∧ w1.drew.cell? ⟨b, off + 1, none⟩ = some (.string y) ∧ w1.drew.cell? ⟨b, off + 2, none⟩ = some (.string u) ∧ Hid (Below w.heap.size w w1.drew) := ⟨ck, ck1, ck2, B1⟩
            clear HPE HL hc hPs hPl hA hB b1
            go_wp2_with fail
            go_region_held3 (fun W => W.cell? ⟨b, off, none⟩ = some (.string x) ∧ W.cell? ⟨b, off + 1, none⟩ = some (.string y) ∧ W.cell? ⟨b, off + 2, none⟩ = some (.string u) ∧ Hid (Below w.heap.size w W)) (first | assumption | with_reducible exact rd7_keep3 ‹_› ‹_›) (first
              | (go_at_call 77; with_reducible refine (HH.out _).mono ?_; rintro e w2 ⟨rfl, b2⟩))
            go_wp2_with fail
            go_ret2
            exact ⟨by rw [HPF.out]; rfl, below_step B1.out b2⟩
          have HPN : Hid (p = ([], n + 2)) := Lib.hid (by
            rw [HPE.out]; unfold pMade
            rw [HL.out, if_neg hA, if_neg hB, if_neg hC])
          generalize P.length = m at *
          have m104 := @byte_ne c 104
          have m109 := @byte_ne c 109
          have m115 := @byte_ne c 115
          by_cases h1 : c = 104
          · subst h1
            have qm : ((m : Int) == 1) = false := by rw [beq_eq_false_iff_ne]; intro e; exact hA ⟨rfl, by exact_mod_cast e⟩
            clear hA hB hC HPE HL hPs hPl
            go_wp2_with fail
            go_ret2
            exact ⟨by rw [HPN.out]; rfl, b1⟩
          by_cases h2 : c = 109
          · subst h2
            have qm : ((m : Int) == 2) = false := by rw [beq_eq_false_iff_ne]; intro e; exact hB ⟨rfl, by exact_mod_cast e⟩
            clear hA hB hC HPE HL hPs hPl
            go_wp2_with fail
            go_ret2
            exact ⟨by rw [HPN.out]; rfl, b1⟩
          by_cases h3 : c = 115
          · subst h3
            have qm : ((m : Int) == 3) = false := by rw [beq_eq_false_iff_ne]; intro e; exact hC ⟨rfl, by exact_mod_cast e⟩
            clear hA hB hC HPE HL hPs hPl
            go_wp2_with fail
            go_ret2
            exact ⟨by rw [HPN.out]; rfl, b1⟩
          have q104 := m104 h1
          have q109 := m109 h2
          have q115 := m115 h3
          simp only [show (((104 : UInt8).toNat : Nat) : Int) = 104 from rfl] at q104
          simp only [show (((109 : UInt8).toNat : Nat) : Int) = 109 from rfl] at q109
          simp only [show (((115 : UInt8).toNat : Nat) : Int) = 115 from rfl] at q115
          clear hA hB hC HPE HL hPs hPl h1 h2 h3 m104 m109 m115
          go_wp2_with fail
          go_ret2
          exact ⟨by rw [HPN.out]; rfl, b1⟩
        · rw [hpp] at HP
          go_wp2_with fail
          go_ret2
          exact ⟨by rw [HP.out]; rfl, b1⟩
      · rw [hr, if_pos (by simpa using h40)] at hp
        have HP := Lib.hid hp
        have q40 : ((c2.toNat : Int) != 40) = true := by
          have := byte_ne (n := 40) h40
          simp only [show (((40 : UInt8).toNat : Nat) : Int) = 40 from rfl] at this
          simp [bne, this]
        clear hp hr1 hcr ih hr hrl hb h40
        simp only [st2]
        go_enter Tryz.func40, Tryz.ntmps40
        go_wp2_with fail
        go_ret2
        exact ⟨by rw [HP.out]; rfl, Below.refl _ _⟩
set_option maxRecDepth 100000 in
theorem rparse_end (s : ByteArray) (w : World) :
    Calls Tryz.prog 40 #[.string s, .int .i64 17] w fun e w' => e = .returned (st2 ([], 0)) ∧ Below w.heap.size w w' := by
  simp only [st2]
  cases hq : s.toList.isEmpty
  all_goals
    go_enter Tryz.func40, Tryz.ntmps40
    go_wp2_with fail
    go_ret2
    exact ⟨rfl, Below.refl _ _⟩
theorem rparse_any : ∀ d : Nat, d ≤ 16 → ∀ (s : ByteArray) (V : World), s.size ≤ 281474976710656 → Calls Tryz.prog 40 #[.string s, .int .i64 (17 - (d : Int))] V fun e w' => e = .returned (st2 (pParse d (bl s))) ∧ Below V.heap.size V w'
  | 0, _, s, V, hs => by
    have e : pParse 0 (bl s) = ([], 0) := by rw [pParse]
    rw [e]
    exact rparse_end s V
  | d + 1, hd, s, V, hs => by
    have e : (17 - ((d + 1 : Nat) : Int)) = 16 - (d : Int) := by omega
    rw [e]
    refine rparse_step d (16 - (d : Int)) (by omega) (by omega) (fun s' V' h' => ?_) s hs V
    have e2 : (16 - (d : Int) + 1) = 17 - (d : Int) := by omega
    rw [e2]
    exact rparse_any d (by omega) s' V' h'
set_option maxRecDepth 100000 in
theorem rparse7_any (s : ByteArray) (hs : s.size ≤ 281474976710656) (w : World) :
    Calls Tryz.prog 19 #[.string s] w fun e w' => e = .returned (st2 (parseF (bl s))) ∧ Below w.heap.size w w' := by
  have HK := Lib.hid (rparse_any 16 (Nat.le_refl _) s w hs)
  rw [show (17 - ((16 : Nat) : Int)) = 1 by decide] at HK
  obtain ⟨z, hz⟩ : ∃ z, z = parseF (bl s) := ⟨_, rfl⟩
  rw [← hz]
  unfold parseF at hz
  rw [bl_length] at hz
  generalize pParse 16 (bl s) = q at *
  simp only [st2] at HK ⊢
  by_cases h1 : q.1 = []
  · rw [if_pos (.inl h1)] at hz
    have HZ := Lib.hid hz
    have qy : (⟨q.1.toArray⟩ : ByteArray).toList.isEmpty = true := by rw [isEmpty_mk]; exact decide_eq_true h1
    generalize (⟨q.1.toArray⟩ : ByteArray) = yb at *
    clear h1 hz
    go_enter Tryz.func19, Tryz.ntmps19
    go_wp2_with fail
    refine HK.out.mono ?_; rintro e w1 ⟨rfl, b1⟩
    go_wp2_with fail
    go_ret2
    exact ⟨by rw [HZ.out]; rfl, b1⟩
  · have qy : (⟨q.1.toArray⟩ : ByteArray).toList.isEmpty = false := by rw [isEmpty_mk]; exact decide_eq_false h1
    by_cases h2 : q.2 = s.size
    · rw [if_neg (by rintro (h | h); exact h1 h; exact h h2)] at hz
      have HY : Hid ((⟨q.1.toArray⟩ : ByteArray) = ⟨z.1.toArray⟩) := Lib.hid (by rw [hz])
      have HZ2 : Hid (z.2 = 0) := Lib.hid (by rw [hz])
      generalize (⟨q.1.toArray⟩ : ByteArray) = yb at *
      have q2 : ((q.2 : Int) != (s.size : Int)) = false := by rw [h2]; simp
      clear h1 h2 hz
      go_enter Tryz.func19, Tryz.ntmps19
      go_wp2_with fail
      refine HK.out.mono ?_; rintro e w1 ⟨rfl, b1⟩
      go_wp2_with fail
      go_ret2
      exact ⟨by rw [← HY.out, HZ2.out]; rfl, b1⟩
    · rw [if_pos (.inr h2)] at hz
      have HZ := Lib.hid hz
      have q2 : ((q.2 : Int) != (s.size : Int)) = true := by rw [bne_iff_ne]; omega
      generalize (⟨q.1.toArray⟩ : ByteArray) = yb at *
      clear h1 h2 hz
      go_enter Tryz.func19, Tryz.ntmps19
      go_wp2_with fail
      refine HK.out.mono ?_; rintro e w1 ⟨rfl, b1⟩
      go_wp2_with fail
      go_ret2
      exact ⟨by rw [HZ.out]; rfl, b1⟩
end Go.Proofs.YtiehhlolhhjgpaaGreatDoor.Pl
