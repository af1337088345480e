/- What the document's Text and ReadText answer. What the document's head, read, Read, Check and May of layer 6 answer. What term's need, textSize and rowHead answer, and what they throw. -/
import Derived.Test.YtkebfabmcajbmaaGreatReadText
import Derived.Test.YtkebfabmcajbmaaGreatKnowZ1
import Derived.Test.YtkebfabmcajbmaaGreatKnowZ2
import Derived.WalkLawsBesides
namespace Go.Proofs.YtkebfabmcajbmaaGreat.Pl
open Go.RowKit

set_option maxRecDepth 100000 in
theorem refreadtext_any (s : ByteArray) (m : Int) (w : World) (hs : s.size ≤ 281474976710656) (m1 : -9223372036854775808 ≤ m) (m2 : m ≤ 9223372036854775807) :
    Calls Tryz.prog 92 #[.string s, .int .i64 m] w fun e w' =>
      e = .returned (.tuple #[.string ⟨(rdt s.data.toList m).1.toArray⟩, .int .i64 (rdt s.data.toList m).2.1, .int .i64 (rdt s.data.toList m).2.2]) ∧ Below w.heap.size w w' := by
  have ⟨v, n, e, hr⟩ : ∃ v n e, rdn s.data.toList = (v, n, e) := ⟨_, _, _, rfl⟩
  have hc : ∀ W, Calls Tryz.prog 94 #[.string s] W fun e' w' => e' = .returned (.tuple #[.int .u64 v, .int .i64 n, .int .i64 e]) ∧ Below W.heap.size W w' := by
    intro W
    have h := refreadnum_any s (by omega) W
    rw [hr] at h
    exact h
  have hlen : s.data.toList.length = s.size := by simp
  have HC := Lib.hid hc
  clear hc
  by_cases he : e = 0
  · subst he
    obtain ⟨n1, n2, hn, hv⟩ := rdn_sound hr
    clear hn
    have hv' : v < 18446744073709551616 := by rw [two64] at hv; exact hv
    clear hv
    have hns : n ≤ s.size := by omega
    by_cases h1 : max m 0 < (v : Int)
    · have HR := Lib.hid (rdt_long hr h1)
      clear hr hlen
      by_cases hm : m < 0
      · have hv1 : 0 < v := by omega
        clear h1
        go_enter Tryz.func92, Tryz.ntmps92
        go_wp2_with (go_at_call 94; refine (HC.out _).mono ?_; rintro e w' ⟨rfl, hb⟩)
        go_ret3
        exact ⟨by rw [HR.out]; rfl, hb⟩
      · obtain ⟨k, rfl⟩ : ∃ k : Nat, m = k := ⟨m.toNat, by omega⟩
        have hv1 : k < v := by omega
        clear h1
        go_enter Tryz.func92, Tryz.ntmps92
        go_wp2_with (go_at_call 94; refine (HC.out _).mono ?_; rintro e w' ⟨rfl, hb⟩)
        go_ret3
        exact ⟨by rw [HR.out]; rfl, hb⟩
    · by_cases h2 : s.size - n < v
      · have HR := Lib.hid (rdt_end (m := m) hr h1 (by rw [hlen]; exact h2))
        clear hr hlen
        by_cases hm : m < 0
        · have hv1 : v = 0 := by omega
          omega
        · obtain ⟨k, rfl⟩ : ∃ k : Nat, m = k := ⟨m.toNat, by omega⟩
          have hv1 : v ≤ k := by omega
          clear h1
          go_enter Tryz.func92, Tryz.ntmps92
          go_wp2_with (go_at_call 94; refine (HC.out _).mono ?_; rintro e w' ⟨rfl, hb⟩)
          go_ret3
          exact ⟨by rw [HR.out]; rfl, hb⟩
      · have HR := Lib.hid (rdt_ok (m := m) hr h1 (by rw [hlen]; exact h2))
        have HE : Hid (s.extract n (n + v) = ⟨((s.data.toList.drop n).take v).toArray⟩) := by
          apply ByteArray.ext
          apply Array.toList_inj.1
          rw [Lib.extract_data]
          simp
        clear hr hlen
        by_cases hm : m < 0
        · have hv1 : v = 0 := by omega
          subst hv1
          clear h1 h2
          go_enter Tryz.func92, Tryz.ntmps92
          go_wp2_with (go_at_call 94; refine (HC.out _).mono ?_; rintro e w' ⟨rfl, hb⟩)
          go_ret3
          exact ⟨by rw [HR.out]; exact ret3s (by simp; rfl) (by simp) rfl, hb⟩
        · obtain ⟨k, rfl⟩ : ∃ k : Nat, m = k := ⟨m.toNat, by omega⟩
          have hv1 : v ≤ k := by omega
          clear h1
          go_enter Tryz.func92, Tryz.ntmps92
          go_wp2_with (go_at_call 94; refine (HC.out _).mono ?_; rintro e w' ⟨rfl, hb⟩)
          go_ret3
          exact ⟨by rw [HR.out]; exact ret3s HE.out (by simp) rfl, hb⟩
  · have HR := Lib.hid (rdt_err (m := m) hr he)
    have he' : ((e : Int) != 0) = true := by rw [bne_iff_ne]; omega
    clear hr hlen
    go_enter Tryz.func92, Tryz.ntmps92
    go_wp2_with (go_at_call 94; refine (HC.out _).mono ?_; rintro e w' ⟨rfl, hb⟩)
    go_ret3
    exact ⟨by rw [HR.out]; rfl, hb⟩
end Go.Proofs.YtkebfabmcajbmaaGreat.Pl

namespace Go.Proofs.YtkebfabmcajbmaaGreat.Pl
open Go.RowKit

def hd3 (h : Nat × Nat × Nat) : Value := .tuple #[.int .i64 h.1, .int .i64 h.2.1, .int .i64 h.2.2]
set_option maxHeartbeats 2000000 in
set_option maxRecDepth 100000 in
theorem rhead_any (s : ByteArray) (hs : s.size ≤ 281474976710656) (w : World) :
    Calls Tryz.prog 86 #[.string s] w fun e w' => e = .returned (hd3 (headP (bl s))) ∧ Below w.heap.size w w' := by
  by_cases h0 : s.size = 0
  · have HZ : Hid (headP (bl s) = (0, 0, 6)) := Lib.hid (by rw [bl_nil h0]; rfl)
    obtain rfl : s = ⟨#[]⟩ := bl_inj (bl_nil h0)
    clear h0 hs
    go_enter Tryz.func86, Tryz.ntmps86
    go_wp2_with fail
    go_ret3
    exact ⟨by rw [HZ.out]; rfl, Below.refl _ _⟩
  · have hpos : 0 < s.size := by omega
    have q0 : ((s.size : Int) == 0) = false := by rw [beq_eq_false_iff_ne]; omega
    obtain ⟨b, hb⟩ : ∃ b : UInt8, b = (bl s).getD 0 0 := ⟨_, rfl⟩
    have i1 : ∀ V : World, (Instr.index 9 (.string s) (.int .i64 0)).run Tryz.prog V = .ok (.int .u8 (b.toNat : Int)) V := tstr_index s 0 b hpos hb
    have sl : ∀ V : World, (Instr.sliceAt 9 (.string s) (some (.int .i64 1)) none none).run Tryz.prog V = .ok (.string (s.extract 1 s.size)) V := tslice_from s 1 (by omega)
    have hc : bl s = b :: (bl s).drop 1 := by rw [hb]; exact bl_cons hpos
    have hx : bl (s.extract 1 s.size) = (bl s).drop 1 := bl_from s 1
    have hxs : (s.extract 1 s.size).size ≤ 281474976710656 := by rw [size_bl, hx, List.length_drop, bl_length]; omega
    rw [← hx] at hc
    obtain ⟨z, hz⟩ : ∃ z, z = headP (bl s) := ⟨_, rfl⟩
    rw [← hz]
    rw [hc] at hz
    generalize s.extract 1 s.size = x at *
    have HT := Lib.hid (fun (m : Int) (m1 : -9223372036854775808 ≤ m) (m2 : m ≤ 9223372036854775807) V => refreadtext_any x m V (by omega) m1 m2)
    have HR := Lib.hid (fun V => refreadnum_any x (by omega) V)
    have HXS := Lib.hid hxs
    obtain ⟨n, hn⟩ : ∃ n, n = b.toNat := ⟨_, rfl⟩
    have b_of : ∀ c : UInt8, b = c ↔ n = c.toNat := fun c => by rw [hn]; exact ⟨fun e => by rw [e], fun e => UInt8.toNat_inj.1 e⟩
    rw [← hn] at i1
    simp only [headP] at hz
    have hbl : x.data.toList = bl x := rfl
    have ef : ∀ m : Nat, n ≠ m → ((n : Int) == (m : Int)) = false := fun m h => by rw [beq_eq_false_iff_ne]; omega
    by_cases e100 : n = 100
    · rw [if_pos ((b_of 100).2 e100)] at hz
      obtain ⟨r, hr⟩ : ∃ r, r = rdt (bl x) 1024 := ⟨_, rfl⟩
      have hsz := rdt_size (bl x) 1024
      rw [← hr] at hz hsz
      have hT := HT.out 1024 (by decide) (by decide)
      rw [hbl, ← hr] at hT
      have HTT := Lib.hid hT
      have HZ := Lib.hid hz
      obtain ⟨t, k, f⟩ := r
      have hk : k ≤ 281474976710656 := by rw [bl_length] at hsz; have := HXS.out; simp only at hsz; omega
      subst e100
      clear hb hc hx hxs hz hr hsz hn b_of HT HR hT hs h0 ef
      go_enter Tryz.func86, Tryz.ntmps86
      go_wp2_with fail
      refine (HTT.out w).mono ?_; rintro e w1 ⟨rfl, b1⟩
      have B1 := Lib.hid b1
      clear b1
      go_wp2_with fail
      go_ret3
      exact ⟨by rw [HZ.out]; simp [hd3], B1.out⟩
    · rw [if_neg (fun e => e100 ((b_of 100).1 e))] at hz
      have q100 := ef 100 e100
      by_cases e97 : n = 97
      · rw [if_pos ((b_of 97).2 e97)] at hz
        obtain ⟨r, hr⟩ : ∃ r, r = rdt (bl x) 32 := ⟨_, rfl⟩
        have hsz := rdt_size (bl x) 32
        have hsd : ∀ t k, r = (t, k, 0) → t.length ≤ 32 := fun t k e => by have := (rdt_sound (hr.symm.trans e)).2.2.1; omega
        rw [← hr] at hz hsz
        have hT := HT.out 32 (by decide) (by decide)
        rw [hbl, ← hr] at hT
        have HTT := Lib.hid hT
        have HZ := Lib.hid hz
        obtain ⟨t, k, f⟩ := r
        have hk : k ≤ 281474976710656 := by rw [bl_length] at hsz; have := HXS.out; simp only at hsz; omega
        have HSD := Lib.hid (fun e : f = 0 => hsd t k (by rw [e]))
        subst e97
        clear hb hc hx hxs hz hr hsz hn b_of HT HR hT hs h0 ef hsd e100
        by_cases hf : f = 0
        · have HN := Lib.hid (fun V => rname_any ⟨t.toArray⟩ (by have := HSD.out hf; simp only [size_lit]; omega) V)
          rw [bl_mk] at HN
          subst hf
          cases hno : nameOK t with
          | true =>
            rw [hno] at HN
            have HQ : Hid (z = (1 + k, 0, 0)) := Lib.hid (by rw [HZ.out]; simp only [hno]; simp)
            clear hno
            go_enter Tryz.func86, Tryz.ntmps86
            go_wp2_with fail
            refine (HTT.out w).mono ?_; rintro e w1 ⟨rfl, b1⟩
            have B1 := Lib.hid b1
            clear b1
            go_wp2_with fail
            refine (HN.out _).mono ?_; rintro e w2 ⟨rfl, b2⟩
            have B2 := Lib.hid (below_step B1.out b2)
            clear b2
            go_wp2_with fail
            go_ret3
            exact ⟨by rw [HQ.out]; simp [hd3], B2.out⟩
          | false =>
            rw [hno] at HN
            have HQ : Hid (z = (0, 0, 7)) := Lib.hid (by rw [HZ.out]; simp only [hno]; simp)
            clear hno
            go_enter Tryz.func86, Tryz.ntmps86
            go_wp2_with fail
            refine (HTT.out w).mono ?_; rintro e w1 ⟨rfl, b1⟩
            have B1 := Lib.hid b1
            clear b1
            go_wp2_with fail
            refine (HN.out _).mono ?_; rintro e w2 ⟨rfl, b2⟩
            have B2 := Lib.hid (below_step B1.out b2)
            clear b2
            go_wp2_with fail
            go_ret3
            exact ⟨by rw [HQ.out]; simp [hd3], B2.out⟩
        · have qf : ((f : Int) == 0) = false := by rw [beq_eq_false_iff_ne]; omega
          have HQ : Hid (z = (1 + k, 0, f)) := Lib.hid (by rw [HZ.out, if_neg (fun h => hf h.1)])
          clear hf
          go_enter Tryz.func86, Tryz.ntmps86
          go_wp2_with fail
          refine (HTT.out w).mono ?_; rintro e w1 ⟨rfl, b1⟩
          have B1 := Lib.hid b1
          clear b1
          go_wp2_with fail
          go_ret3
          exact ⟨by rw [HQ.out]; simp [hd3], B1.out⟩
      · rw [if_neg (fun e => e97 ((b_of 97).1 e))] at hz
        have q97 := ef 97 e97
        by_cases e114 : n = 114
        · rw [if_pos ((b_of 114).2 e114)] at hz
          obtain ⟨r, hr⟩ : ∃ r, r = rdn (bl x) := ⟨_, rfl⟩
          have hT := HR.out
          rw [hbl, ← hr] at hT
          have HTT := Lib.hid hT
          rw [← hr] at hz
          have HZ := Lib.hid hz
          obtain ⟨v, k, f⟩ := r
          have hk : k ≤ 281474976710656 ∧ v < 18446744073709551616 := by
            rcases rdn_err hr.symm with e | ⟨e1, e2, _⟩
            · subst e
              have h1 := rdn_sound hr.symm
              have h2 := h1.2.1
              have h3 := h1.2.2.2
              rw [bl_length] at h2
              rw [two64] at h3
              have := HXS.out
              exact ⟨by omega, h3⟩
            · exact ⟨by omega, by omega⟩
          obtain ⟨hk, hv⟩ := hk
          have HVK : Hid (f ≠ 0 → v = 0 ∧ k = 0) := Lib.hid (fun h => (rdn_err hr.symm).elim (fun e => absurd e h) (fun e => ⟨e.1, e.2.1⟩))
          subst e114
          clear hb hc hx hxs hz hr hn b_of HT HR hT hs h0 ef e100 e97
          by_cases hf : f = 0
          · subst hf
            by_cases h32 : 32 < v
            · have HQ : Hid (z = (0, 0, 5)) := Lib.hid (by rw [HZ.out]; simp [h32])
              have h32' : (32 : Int) < (v : Int) := by omega
              clear h32
              go_enter Tryz.func86, Tryz.ntmps86
              go_wp2_with fail
              refine (HTT.out w).mono ?_; rintro e w1 ⟨rfl, b1⟩
              have B1 := Lib.hid b1
              clear b1
              go_wp2_with fail
              go_ret3
              exact ⟨by rw [HQ.out]; simp [hd3], B1.out⟩
            · have HQ : Hid (z = (1 + k, v, 0)) := Lib.hid (by rw [HZ.out]; simp [h32])
              have h32' : ¬ (32 : Int) < (v : Int) := by omega
              have hcv : ∀ V : World, (convert 53 3 (.int .u64 (v : Int))).run Tryz.prog V = .ok (.int .i64 (v : Int)) V := fun V => by
                have hw : IntKind.i64.wrap (v : Int) = (v : Int) := IntWalk.i64_in _ (by omega)
                go_simp
              clear h32
              go_enter Tryz.func86, Tryz.ntmps86
              go_wp2_with fail
              refine (HTT.out w).mono ?_; rintro e w1 ⟨rfl, b1⟩
              have B1 := Lib.hid b1
              clear b1
              go_wp2_with fail
              go_ret3
              exact ⟨by rw [HQ.out]; simp [hd3], B1.out⟩
          · have qf : ((f : Int) == 0) = false := by rw [beq_eq_false_iff_ne]; omega
            have HQ : Hid (z = (1 + k, v, f)) := Lib.hid (by rw [HZ.out, if_neg (fun h => hf h.1)])
            obtain ⟨rfl, rfl⟩ := HVK.out hf
            have hcv : ∀ V : World, (convert 53 3 (.int .u64 0)).run Tryz.prog V = .ok (.int .i64 0) V := fun V => by
              have hw : IntKind.i64.wrap 0 = 0 := by decide
              go_simp
            clear hf
            go_enter Tryz.func86, Tryz.ntmps86
            go_wp2_with fail
            refine (HTT.out w).mono ?_; rintro e w1 ⟨rfl, b1⟩
            have B1 := Lib.hid b1
            clear b1
            go_wp2_with fail
            go_ret3
            exact ⟨by rw [HQ.out]; simp [hd3], B1.out⟩
        · rw [if_neg (fun e => e114 ((b_of 114).1 e))] at hz
          have q114 := ef 114 e114
          by_cases e104 : n = 104
          · rw [if_pos ((b_of 104).2 e104)] at hz
            have HZ := Lib.hid hz
            subst e104
            clear hb hc hx hxs hz hn b_of HT HR hs h0 ef e100 e97 e114
            go_enter Tryz.func86, Tryz.ntmps86
            go_wp2_with fail
            go_ret3
            exact ⟨by rw [HZ.out]; rfl, Below.refl _ _⟩
          · rw [if_neg (fun e => e104 ((b_of 104).1 e))] at hz
            have q104 := ef 104 e104
            by_cases e109 : n = 109
            · rw [if_pos ((b_of 109).2 e109)] at hz
              have HZ := Lib.hid hz
              subst e109
              clear hb hc hx hxs hz hn b_of HT HR hs h0 ef e100 e97 e114 e104
              go_enter Tryz.func86, Tryz.ntmps86
              go_wp2_with fail
              go_ret3
              exact ⟨by rw [HZ.out]; rfl, Below.refl _ _⟩
            · rw [if_neg (fun e => e109 ((b_of 109).1 e))] at hz
              have q109 := ef 109 e109
              by_cases e115 : n = 115
              · rw [if_pos ((b_of 115).2 e115)] at hz
                have HZ := Lib.hid hz
                subst e115
                clear hb hc hx hxs hz hn b_of HT HR hs h0 ef e100 e97 e114 e104 e109
                go_enter Tryz.func86, Tryz.ntmps86
                go_wp2_with fail
                go_ret3
                exact ⟨by rw [HZ.out]; rfl, Below.refl _ _⟩
              · rw [if_neg (fun e => e115 ((b_of 115).1 e))] at hz
                have q115 := ef 115 e115
                have HZ := Lib.hid hz
                clear hb hc hx hxs hz hn b_of HT HR hs h0 ef e100 e97 e114 e104 e109 e115
                go_enter Tryz.func86, Tryz.ntmps86
                go_wp2_with fail
                go_ret3
                exact ⟨by rw [HZ.out]; rfl, Below.refl _ _⟩
def rd2 (h : Nat × Nat) : Value := .tuple #[.int .i64 h.1, .int .i64 h.2]
/-- Of k terms and the rest: as far as the first goes, then the others. -/
theorem loopP_add (rd : List UInt8 → Nat × Nat) : ∀ (i k : Nat) (s : List UInt8) (m : Nat), loopP rd i s = (m, 0) → loopP rd (i + k) s = if (loopP rd k (s.drop m)).2 = 0 then (m + (loopP rd k (s.drop m)).1, 0) else (0, (loopP rd k (s.drop m)).2)
  | 0, k, s, m, h => by
    simp only [loopP, Prod.mk.injEq, and_true] at h
    subst h
    rw [Nat.zero_add, List.drop_zero, Nat.zero_add]
    split
    · rename_i h; exact Prod.ext rfl h
    · rename_i h
      -- what is wrong bears no length
      cases k with
      | zero => exact absurd rfl h
      | succ k =>
        simp only [loopP] at h ⊢
        split at h
        · rename_i h1
          split at h
          · exact absurd rfl h
          · rename_i h2
            rw [if_pos h1, if_neg h2]
        · rename_i h1
          rw [if_neg h1]
  | i + 1, k, s, m, h => by
    rw [loopP] at h
    split at h
    · rename_i h1
      split at h
      · rename_i h2
        simp only [Prod.mk.injEq, and_true] at h
        have ih := loopP_add rd i k (s.drop (rd s).1) (loopP rd i (s.drop (rd s).1)).1 (Prod.ext rfl h2)
        rw [List.drop_drop, h] at ih
        rw [show i + 1 + k = (i + k) + 1 by omega, loopP, if_pos h1, ih]
        split
        · rename_i h3
          rw [if_pos rfl, ← h, Nat.add_assoc]
        · rfl
      · rename_i h2
        simp only [Prod.mk.injEq] at h
        exact absurd h.2 h2
    · rename_i h1
      simp only [Prod.mk.injEq] at h
      exact absurd h.2 h1
theorem loopP_one (rd : List UInt8 → Nat × Nat) (s : List UInt8) : loopP rd 1 s = if (rd s).2 = 0 then ((rd s).1, 0) else (0, (rd s).2) := by
  simp [loopP]
end Go.Proofs.YtkebfabmcajbmaaGreat.Pl

namespace Go.Proofs.YtkebfabmcajbmaaGreat.Pl
open Go.RowKit

/-- What is thrown. -/
abbrev boom (e : Nat) : Ending := .panicked [{ v := .iface 26 (.int .i64 e), recovered := false }]

theorem need_ok (w : World) : Calls Tryz.prog 106 #[.int .i64 0] w fun x w' => x = .returned (.tuple #[]) ∧ w' = w := by
  go_enter Tryz.func106, Tryz.ntmps106
  go_wp2
  go_end0
  exact ⟨rfl, rfl⟩
theorem need_bad (e : Nat) (he : e ≠ 0) (w : World) : Calls Tryz.prog 106 #[.int .i64 e] w fun x w' => x = boom e ∧ w' = w := by
  have hz : ((e : Int) != 0) = true := by rw [bne_iff_ne]; omega
  go_enter Tryz.func106, Tryz.ntmps106
  go_wp2
  exact ⟨rfl, rfl, rfl⟩

/-- A text's size, or what is wrong. -/
def Size6 (r : Nat × Nat) (w : World) (x : Ending) (w' : World) : Prop := (if r.2 = 0 then x = .returned (.int .i64 r.1) else x = boom r.2) ∧ Below w.heap.size w w'
theorem Size6.ok {k : Nat} {w w' : World} (h : Below w.heap.size w w') : Size6 (k, 0) w (.returned (.int .i64 k)) w' := ⟨by rw [if_pos rfl], h⟩
theorem Size6.bad {k f : Nat} {w w' : World} (hf : f ≠ 0) (h : Below w.heap.size w w') : Size6 (k, f) w (boom f) w' := ⟨by rw [if_neg hf], h⟩

set_option maxHeartbeats 1000000 in
set_option maxRecDepth 100000 in
theorem textsize_any (s : ByteArray) (hs : s.size ≤ 281474976710656) (w : World) :
    Calls Tryz.prog 97 #[.string s] w (Size6 ((rdt (bl s) 1024).2.1, (rdt (bl s) 1024).2.2) w) := by
  have hT := fun V => readtext_any s 1024 V hs (by decide) (by decide)
  obtain ⟨r, hr⟩ : ∃ r, r = rdt (bl s) 1024 := ⟨_, rfl⟩
  have hbl : s.data.toList = bl s := rfl
  rw [hbl, ← hr] at hT
  rw [← hr]
  obtain ⟨t, k, f⟩ := r
  clear hr hs hbl
  have HT := Lib.hid hT
  clear hT
  by_cases hf : f = 0
  · subst hf
    go_enter Tryz.func97, Tryz.ntmps97
    go_wp2_with (first | (go_at_call 105; refine (HT.out _).mono ?_; rintro e w1 ⟨rfl, b1⟩) | (go_at_call 106; refine (need_ok _).mono ?_; rintro e w2 ⟨rfl, rfl⟩))
    go_ret
    exact Size6.ok b1
  · have HF := Lib.hid hf
    go_enter Tryz.func97, Tryz.ntmps97
    go_wp2_with (first | (go_at_call 105; refine (HT.out _).mono ?_; rintro e w1 ⟨rfl, b1⟩) | (go_at_call 106; refine (need_bad f HF.out _).mono ?_; rintro e w2 ⟨rfl, rfl⟩))
    exact ⟨by first | rfl | trivial, Size6.bad HF.out b1⟩

/-- A row's parts and its head's length, or what is wrong. -/
def Size62 (r : Nat × Nat × Nat) (w : World) (x : Ending) (w' : World) : Prop := (if r.2.2 = 0 then x = .returned (.tuple #[.int .i64 r.1, .int .i64 r.2.1]) else x = boom r.2.2) ∧ Below w.heap.size w w'
theorem Size62.ok {v k : Nat} {w w' : World} (h : Below w.heap.size w w') : Size62 (v, k, 0) w (.returned (.tuple #[.int .i64 v, .int .i64 k])) w' := ⟨by rw [if_pos rfl], h⟩
theorem Size62.bad {v k f : Nat} {w w' : World} (hf : f ≠ 0) (h : Below w.heap.size w w') : Size62 (v, k, f) w (boom f) w' := ⟨by rw [if_neg hf], h⟩
def rowP6 (s : List UInt8) : Nat × Nat × Nat := if (rdn s).2.2 = 0 ∧ 32 < (rdn s).1 then (0, 0, 5) else rdn s

set_option maxHeartbeats 1000000 in
set_option maxRecDepth 100000 in
theorem rowhead_any (s : ByteArray) (hs : s.size ≤ 281474976710656) (w : World) :
    Calls Tryz.prog 99 #[.string s] w (Size62 (rowP6 (bl s)) w) := by
  have hT := fun V => readnum_any s (by omega) V
  obtain ⟨r, hr⟩ : ∃ r, r = rdn (bl s) := ⟨_, rfl⟩
  have hbl : s.data.toList = bl s := rfl
  rw [hbl, ← hr] at hT
  obtain ⟨z, hz⟩ : ∃ z, z = rowP6 (bl s) := ⟨_, rfl⟩
  rw [← hz]
  unfold rowP6 at hz
  rw [← hr] at hz
  obtain ⟨v, k, f⟩ := r
  have HZ := Lib.hid hz
  clear hr hs hbl hz
  have HT := Lib.hid hT
  clear hT
  by_cases hf : f = 0
  · subst hf
    by_cases hv : 32 < v
    · have q1 : (32 : Int) < (v : Int) := by omega
      have HV := Lib.hid hv
      clear hv
      go_enter Tryz.func99, Tryz.ntmps99
      go_wp2_with (first | (go_at_call 107; refine (HT.out _).mono ?_; rintro e w1 ⟨rfl, rfl⟩) | (go_at_call 106; refine (need_ok _).mono ?_; rintro e w2 ⟨rfl, rfl⟩))
      have hz := HZ.out
      rw [if_pos (by first | exact ⟨rfl, HV.out⟩ | exact ⟨trivial, HV.out⟩)] at hz
      exact ⟨rfl, hz ▸ Size62.bad (f := 5) (by decide) (Below.refl _ _)⟩
    · have q1 : ¬ (32 : Int) < (v : Int) := by omega
      have q2 : (v : Int) ≤ 32 := by omega
      have HV := Lib.hid hv
      clear hv
      go_enter Tryz.func99, Tryz.ntmps99
      go_wp2_with (first | (go_at_call 107; refine (HT.out _).mono ?_; rintro e w1 ⟨rfl, rfl⟩) | (go_at_call 106; refine (need_ok _).mono ?_; rintro e w2 ⟨rfl, rfl⟩))
      go_ret2
      have hz := HZ.out
      rw [if_neg (by rintro ⟨_, h⟩; exact HV.out h)] at hz
      exact hz ▸ Size62.ok (Below.refl _ _)
  · have HF := Lib.hid hf
    go_enter Tryz.func99, Tryz.ntmps99
    go_wp2_with (first | (go_at_call 107; refine (HT.out _).mono ?_; rintro e w1 ⟨rfl, rfl⟩) | (go_at_call 106; refine (need_bad f HF.out _).mono ?_; rintro e w2 ⟨rfl, rfl⟩))
    have hz := HZ.out
    rw [if_neg (by rintro ⟨h, _⟩; exact HF.out h)] at hz
    exact ⟨rfl, hz ▸ Size62.bad HF.out (Below.refl _ _)⟩
end Go.Proofs.YtkebfabmcajbmaaGreat.Pl
