/- What the document's Text and ReadText answer. What the document's head, read, Read, Check and May of layer 6 answer. What term's need, textSize and rowHead answer, and what they throw. What h.Sum answers. What sha.Sum answers, and the methods at no Hash. Texts and their bytes; the hash's size; the sum's digits; copies, over plain numbers. The tag of a text under a key, over plain numbers. What is sealed, over plain numbers: the key stream, what is hidden, the sealed form. string(make([]byte, n)); texts out of their bytes. A key that is ready, in memory: its two sums under way; what begin, over answer. What blockOf answers: the block of a key. -/
import Derived.Test.YtbdlegjklfkdmaaGreatDoorBallC4
import Derived.Test.YtbdlegjklfkdmaaGreatDoorBallC2
import Derived.Test.YtbdlegjklfkdmaaGreatDoorBallC1
import Derived.WalkLawsBesides
import Derived.Test.YtbdlegjklfkdmaaGreatDoorBallC5
import Derived.Deep.CutRange
import Derived.Lib.SliceRun
import Derived.Test.YtbdlegjklfkdmaaGreatDoorBallC3
import Derived.KernelRfl
import Derived.Laws.OwnMore
import Derived.Laws.CopyRow
namespace Go.Proofs.YtbdlegjklfkdmaaGreatDoor.Pl
open Go.RowKit

set_option maxRecDepth 100000 in
theorem reftext_any (s : ByteArray) (w : World) (hs : s.size ≤ 281474976710656) :
    Calls Tryz.prog 75 #[.string s] w fun e w' => e = .returned (.string ⟨(txt s.data.toList).toArray⟩) ∧ Below w.heap.size w w' := by
  have h8 : s.size < 256 ^ 8 := by rw [two64]; omega
  have hl := (enc_len s.size).2
  have H8 := Lib.hid h8
  clear h8
  go_enter Tryz.func75, Tryz.ntmps75
  go_wp2_with (go_at_call 78; refine (refnum_any _ H8.out _).mono ?_; rintro e w' ⟨rfl, hb⟩)
  go_ret
  exact ⟨ret_str (text_list s), hb⟩

set_option maxRecDepth 100000 in
theorem refreadtext_any (s : ByteArray) (m : Int) (w : World) (hs : s.size ≤ 281474976710656) (m1 : -9223372036854775808 ≤ m) (m2 : m ≤ 9223372036854775807) :
    Calls Tryz.prog 125 #[.string s, .int .i64 m] w fun e w' =>
      e = .returned (.tuple #[.string ⟨(rdt s.data.toList m).1.toArray⟩, .int .i64 (rdt s.data.toList m).2.1, .int .i64 (rdt s.data.toList m).2.2]) ∧ Below w.heap.size w w' := by
  have ⟨v, n, e, hr⟩ : ∃ v n e, rdn s.data.toList = (v, n, e) := ⟨_, _, _, rfl⟩
  have hc : ∀ W, Calls Tryz.prog 92 #[.string s] W fun e' w' => e' = .returned (.tuple #[.int .u64 v, .int .i64 n, .int .i64 e]) ∧ Below W.heap.size W w' := by
    intro W
    have h := refreadnum_any s (by omega) W
    rw [hr] at h
    exact h
  have hlen : s.data.toList.length = s.size := by simp
  have HC := Lib.hid hc
  clear hc
  by_cases he : e = 0
  · subst he
    obtain ⟨n1, n2, hn, hv⟩ := rdn_sound hr
    clear hn
    have hv' : v < 18446744073709551616 := by rw [two64] at hv; exact hv
    clear hv
    have hns : n ≤ s.size := by omega
    by_cases h1 : max m 0 < (v : Int)
    · have HR := Lib.hid (rdt_long hr h1)
      clear hr hlen
      by_cases hm : m < 0
      · have hv1 : 0 < v := by omega
        clear h1
        go_enter Tryz.func125, Tryz.ntmps125
        go_wp2_with (go_at_call 92; refine (HC.out _).mono ?_; rintro e w' ⟨rfl, hb⟩)
        go_ret3
        exact ⟨by rw [HR.out]; rfl, hb⟩
      · obtain ⟨k, rfl⟩ : ∃ k : Nat, m = k := ⟨m.toNat, by omega⟩
        have hv1 : k < v := by omega
        clear h1
        go_enter Tryz.func125, Tryz.ntmps125
        go_wp2_with (go_at_call 92; refine (HC.out _).mono ?_; rintro e w' ⟨rfl, hb⟩)
        go_ret3
        exact ⟨by rw [HR.out]; rfl, hb⟩
    · by_cases h2 : s.size - n < v
      · have HR := Lib.hid (rdt_end (m := m) hr h1 (by rw [hlen]; exact h2))
        clear hr hlen
        by_cases hm : m < 0
        · have hv1 : v = 0 := by omega
          omega
        · obtain ⟨k, rfl⟩ : ∃ k : Nat, m = k := ⟨m.toNat, by omega⟩
          have hv1 : v ≤ k := by omega
          clear h1
          go_enter Tryz.func125, Tryz.ntmps125
          go_wp2_with (go_at_call 92; refine (HC.out _).mono ?_; rintro e w' ⟨rfl, hb⟩)
          go_ret3
          exact ⟨by rw [HR.out]; rfl, hb⟩
      · have HR := Lib.hid (rdt_ok (m := m) hr h1 (by rw [hlen]; exact h2))
        have HE : Hid (s.extract n (n + v) = ⟨((s.data.toList.drop n).take v).toArray⟩) := by
          apply ByteArray.ext
          apply Array.toList_inj.1
          rw [Lib.extract_data]
          simp
        clear hr hlen
        by_cases hm : m < 0
        · have hv1 : v = 0 := by omega
          subst hv1
          clear h1 h2
          go_enter Tryz.func125, Tryz.ntmps125
          go_wp2_with (go_at_call 92; refine (HC.out _).mono ?_; rintro e w' ⟨rfl, hb⟩)
          go_ret3
          exact ⟨by rw [HR.out]; exact ret3s (by simp; rfl) (by simp) rfl, hb⟩
        · obtain ⟨k, rfl⟩ : ∃ k : Nat, m = k := ⟨m.toNat, by omega⟩
          have hv1 : v ≤ k := by omega
          clear h1
          go_enter Tryz.func125, Tryz.ntmps125
          go_wp2_with (go_at_call 92; refine (HC.out _).mono ?_; rintro e w' ⟨rfl, hb⟩)
          go_ret3
          exact ⟨by rw [HR.out]; exact ret3s HE.out (by simp) rfl, hb⟩
  · have HR := Lib.hid (rdt_err (m := m) hr he)
    have he' : ((e : Int) != 0) = true := by rw [bne_iff_ne]; omega
    clear hr hlen
    go_enter Tryz.func125, Tryz.ntmps125
    go_wp2_with (go_at_call 92; refine (HC.out _).mono ?_; rintro e w' ⟨rfl, hb⟩)
    go_ret3
    exact ⟨by rw [HR.out]; rfl, hb⟩
end Go.Proofs.YtbdlegjklfkdmaaGreatDoor.Pl

namespace Go.Proofs.YtbdlegjklfkdmaaGreatDoor.Pl
open Go.RowKit

def hd3 (h : Nat × Nat × Nat) : Value := .tuple #[.int .i64 h.1, .int .i64 h.2.1, .int .i64 h.2.2]
set_option maxHeartbeats 2000000 in
set_option maxRecDepth 100000 in
theorem rhead_any (s : ByteArray) (hs : s.size ≤ 281474976710656) (w : World) :
    Calls Tryz.prog 123 #[.string s] w fun e w' => e = .returned (hd3 (headP (bl s))) ∧ Below w.heap.size w w' := by
  by_cases h0 : s.size = 0
  · have HZ : Hid (headP (bl s) = (0, 0, 6)) := Lib.hid (by rw [bl_nil h0]; rfl)
    obtain rfl : s = ⟨#[]⟩ := bl_inj (bl_nil h0)
    clear h0 hs
    go_enter Tryz.func123, Tryz.ntmps123
    go_wp2_with fail
    go_ret3
    exact ⟨by rw [HZ.out]; rfl, Below.refl _ _⟩
  · have hpos : 0 < s.size := by omega
    have q0 : ((s.size : Int) == 0) = false := by rw [beq_eq_false_iff_ne]; omega
    obtain ⟨b, hb⟩ : ∃ b : UInt8, b = (bl s).getD 0 0 := ⟨_, rfl⟩
    have i1 : ∀ V : World, (Instr.index 9 (.string s) (.int .i64 0)).run Tryz.prog V = .ok (.int .u8 (b.toNat : Int)) V := tstr_index s 0 b hpos hb
    have sl : ∀ V : World, (Instr.sliceAt 9 (.string s) (some (.int .i64 1)) none none).run Tryz.prog V = .ok (.string (s.extract 1 s.size)) V := tslice_from s 1 (by omega)
    have hc : bl s = b :: (bl s).drop 1 := by rw [hb]; exact bl_cons hpos
    have hx : bl (s.extract 1 s.size) = (bl s).drop 1 := bl_from s 1
    have hxs : (s.extract 1 s.size).size ≤ 281474976710656 := by rw [size_bl, hx, List.length_drop, bl_length]; omega
    rw [← hx] at hc
    obtain ⟨z, hz⟩ : ∃ z, z = headP (bl s) := ⟨_, rfl⟩
    rw [← hz]
    rw [hc] at hz
    generalize s.extract 1 s.size = x at *
    have HT := Lib.hid (fun (m : Int) (m1 : -9223372036854775808 ≤ m) (m2 : m ≤ 9223372036854775807) V => refreadtext_any x m V (by omega) m1 m2)
    have HR := Lib.hid (fun V => refreadnum_any x (by omega) V)
    have HXS := Lib.hid hxs
    obtain ⟨n, hn⟩ : ∃ n, n = b.toNat := ⟨_, rfl⟩
    have b_of : ∀ c : UInt8, b = c ↔ n = c.toNat := fun c => by rw [hn]; exact ⟨fun e => by rw [e], fun e => UInt8.toNat_inj.1 e⟩
    rw [← hn] at i1
    simp only [headP] at hz
    have hbl : x.data.toList = bl x := rfl
    have ef : ∀ m : Nat, n ≠ m → ((n : Int) == (m : Int)) = false := fun m h => by rw [beq_eq_false_iff_ne]; omega
    by_cases e100 : n = 100
    · rw [if_pos ((b_of 100).2 e100)] at hz
      obtain ⟨r, hr⟩ : ∃ r, r = rdt (bl x) 1024 := ⟨_, rfl⟩
      have hsz := rdt_size (bl x) 1024
      rw [← hr] at hz hsz
      have hT := HT.out 1024 (by decide) (by decide)
      rw [hbl, ← hr] at hT
      have HTT := Lib.hid hT
      have HZ := Lib.hid hz
      obtain ⟨t, k, f⟩ := r
      have hk : k ≤ 281474976710656 := by rw [bl_length] at hsz; have := HXS.out; simp only at hsz; omega
      subst e100
      clear hb hc hx hxs hz hr hsz hn b_of HT HR hT hs h0 ef
      go_enter Tryz.func123, Tryz.ntmps123
      go_wp2_with fail
      refine (HTT.out w).mono ?_; rintro e w1 ⟨rfl, b1⟩
      have B1 := Lib.hid b1
      clear b1
      go_wp2_with fail
      go_ret3
      exact ⟨by rw [HZ.out]; simp [hd3], B1.out⟩
    · rw [if_neg (fun e => e100 ((b_of 100).1 e))] at hz
      have q100 := ef 100 e100
      by_cases e97 : n = 97
      · rw [if_pos ((b_of 97).2 e97)] at hz
        obtain ⟨r, hr⟩ : ∃ r, r = rdt (bl x) 32 := ⟨_, rfl⟩
        have hsz := rdt_size (bl x) 32
        have hsd : ∀ t k, r = (t, k, 0) → t.length ≤ 32 := fun t k e => by have := (rdt_sound (hr.symm.trans e)).2.2.1; omega
        rw [← hr] at hz hsz
        have hT := HT.out 32 (by decide) (by decide)
        rw [hbl, ← hr] at hT
        have HTT := Lib.hid hT
        have HZ := Lib.hid hz
        obtain ⟨t, k, f⟩ := r
        have hk : k ≤ 281474976710656 := by rw [bl_length] at hsz; have := HXS.out; simp only at hsz; omega
        have HSD := Lib.hid (fun e : f = 0 => hsd t k (by rw [e]))
        subst e97
        clear hb hc hx hxs hz hr hsz hn b_of HT HR hT hs h0 ef hsd e100
        by_cases hf : f = 0
        · have HN := Lib.hid (fun V => rname_any ⟨t.toArray⟩ (by have := HSD.out hf; simp only [size_lit]; omega) V)
          rw [bl_mk] at HN
          subst hf
          cases hno : nameOK t with
          | true =>
            rw [hno] at HN
            have HQ : Hid (z = (1 + k, 0, 0)) := Lib.hid (by rw [HZ.out]; simp only [hno]; simp)
            clear hno
            go_enter Tryz.func123, Tryz.ntmps123
            go_wp2_with fail
            refine (HTT.out w).mono ?_; rintro e w1 ⟨rfl, b1⟩
            have B1 := Lib.hid b1
            clear b1
            go_wp2_with fail
            refine (HN.out _).mono ?_; rintro e w2 ⟨rfl, b2⟩
            have B2 := Lib.hid (below_step B1.out b2)
            clear b2
            go_wp2_with fail
            go_ret3
            exact ⟨by rw [HQ.out]; simp [hd3], B2.out⟩
          | false =>
            rw [hno] at HN
            have HQ : Hid (z = (0, 0, 7)) := Lib.hid (by rw [HZ.out]; simp only [hno]; simp)
            clear hno
            go_enter Tryz.func123, Tryz.ntmps123
            go_wp2_with fail
            refine (HTT.out w).mono ?_; rintro e w1 ⟨rfl, b1⟩
            have B1 := Lib.hid b1
            clear b1
            go_wp2_with fail
            refine (HN.out _).mono ?_; rintro e w2 ⟨rfl, b2⟩
            have B2 := Lib.hid (below_step B1.out b2)
            clear b2
            go_wp2_with fail
            go_ret3
            exact ⟨by rw [HQ.out]; simp [hd3], B2.out⟩
        · have qf : ((f : Int) == 0) = false := by rw [beq_eq_false_iff_ne]; omega
          have HQ : Hid (z = (1 + k, 0, f)) := Lib.hid (by rw [HZ.out, if_neg (fun h => hf h.1)])
          clear hf
          go_enter Tryz.func123, Tryz.ntmps123
          go_wp2_with fail
          refine (HTT.out w).mono ?_; rintro e w1 ⟨rfl, b1⟩
          have B1 := Lib.hid b1
          clear b1
          go_wp2_with fail
          go_ret3
          exact ⟨by rw [HQ.out]; simp [hd3], B1.out⟩
      · rw [if_neg (fun e => e97 ((b_of 97).1 e))] at hz
        have q97 := ef 97 e97
        by_cases e114 : n = 114
        · rw [if_pos ((b_of 114).2 e114)] at hz
          obtain ⟨r, hr⟩ : ∃ r, r = rdn (bl x) := ⟨_, rfl⟩
          have hT := HR.out
          rw [hbl, ← hr] at hT
          have HTT := Lib.hid hT
          rw [← hr] at hz
          have HZ := Lib.hid hz
          obtain ⟨v, k, f⟩ := r
          have hk : k ≤ 281474976710656 ∧ v < 18446744073709551616 := by
            rcases rdn_err hr.symm with e | ⟨e1, e2, _⟩
            · subst e
              have h1 := rdn_sound hr.symm
              have h2 := h1.2.1
              have h3 := h1.2.2.2
              rw [bl_length] at h2
              rw [two64] at h3
              have := HXS.out
              exact ⟨by omega, h3⟩
            · exact ⟨by omega, by omega⟩
          obtain ⟨hk, hv⟩ := hk
          have HVK : Hid (f ≠ 0 → v = 0 ∧ k = 0) := Lib.hid (fun h => (rdn_err hr.symm).elim (fun e => absurd e h) (fun e => ⟨e.1, e.2.1⟩))
          subst e114
          clear hb hc hx hxs hz hr hn b_of HT HR hT hs h0 ef e100 e97
          by_cases hf : f = 0
          · subst hf
            by_cases h32 : 32 < v
            · have HQ : Hid (z = (0, 0, 5)) := Lib.hid (by rw [HZ.out]; simp [h32])
              have h32' : (32 : Int) < (v : Int) := by omega
              clear h32
              go_enter Tryz.func123, Tryz.ntmps123
              go_wp2_with fail
              refine (HTT.out w).mono ?_; rintro e w1 ⟨rfl, b1⟩
              have B1 := Lib.hid b1
              clear b1
              go_wp2_with fail
              go_ret3
              exact ⟨by rw [HQ.out]; simp [hd3], B1.out⟩
            · have HQ : Hid (z = (1 + k, v, 0)) := Lib.hid (by rw [HZ.out]; simp [h32])
              have h32' : ¬ (32 : Int) < (v : Int) := by omega
              have hcv : ∀ V : World, (convert 108 3 (.int .u64 (v : Int))).run Tryz.prog V = .ok (.int .i64 (v : Int)) V := fun V => by
                have hw : IntKind.i64.wrap (v : Int) = (v : Int) := IntWalk.i64_in _ (by omega)
                go_simp
              clear h32
              go_enter Tryz.func123, Tryz.ntmps123
              go_wp2_with fail
              refine (HTT.out w).mono ?_; rintro e w1 ⟨rfl, b1⟩
              have B1 := Lib.hid b1
              clear b1
              go_wp2_with fail
              go_ret3
              exact ⟨by rw [HQ.out]; simp [hd3], B1.out⟩
          · have qf : ((f : Int) == 0) = false := by rw [beq_eq_false_iff_ne]; omega
            have HQ : Hid (z = (1 + k, v, f)) := Lib.hid (by rw [HZ.out, if_neg (fun h => hf h.1)])
            obtain ⟨rfl, rfl⟩ := HVK.out hf
            have hcv : ∀ V : World, (convert 108 3 (.int .u64 0)).run Tryz.prog V = .ok (.int .i64 0) V := fun V => by
              have hw : IntKind.i64.wrap 0 = 0 := by decide
              go_simp
            clear hf
            go_enter Tryz.func123, Tryz.ntmps123
            go_wp2_with fail
            refine (HTT.out w).mono ?_; rintro e w1 ⟨rfl, b1⟩
            have B1 := Lib.hid b1
            clear b1
            go_wp2_with fail
            go_ret3
            exact ⟨by rw [HQ.out]; simp [hd3], B1.out⟩
        · rw [if_neg (fun e => e114 ((b_of 114).1 e))] at hz
          have q114 := ef 114 e114
          by_cases e104 : n = 104
          · rw [if_pos ((b_of 104).2 e104)] at hz
            have HZ := Lib.hid hz
            subst e104
            clear hb hc hx hxs hz hn b_of HT HR hs h0 ef e100 e97 e114
            go_enter Tryz.func123, Tryz.ntmps123
            go_wp2_with fail
            go_ret3
            exact ⟨by rw [HZ.out]; rfl, Below.refl _ _⟩
          · rw [if_neg (fun e => e104 ((b_of 104).1 e))] at hz
            have q104 := ef 104 e104
            by_cases e109 : n = 109
            · rw [if_pos ((b_of 109).2 e109)] at hz
              have HZ := Lib.hid hz
              subst e109
              clear hb hc hx hxs hz hn b_of HT HR hs h0 ef e100 e97 e114 e104
              go_enter Tryz.func123, Tryz.ntmps123
              go_wp2_with fail
              go_ret3
              exact ⟨by rw [HZ.out]; rfl, Below.refl _ _⟩
            · rw [if_neg (fun e => e109 ((b_of 109).1 e))] at hz
              have q109 := ef 109 e109
              by_cases e115 : n = 115
              · rw [if_pos ((b_of 115).2 e115)] at hz
                have HZ := Lib.hid hz
                subst e115
                clear hb hc hx hxs hz hn b_of HT HR hs h0 ef e100 e97 e114 e104 e109
                go_enter Tryz.func123, Tryz.ntmps123
                go_wp2_with fail
                go_ret3
                exact ⟨by rw [HZ.out]; rfl, Below.refl _ _⟩
              · rw [if_neg (fun e => e115 ((b_of 115).1 e))] at hz
                have q115 := ef 115 e115
                have HZ := Lib.hid hz
                clear hb hc hx hxs hz hn b_of HT HR hs h0 ef e100 e97 e114 e104 e109 e115
                go_enter Tryz.func123, Tryz.ntmps123
                go_wp2_with fail
                go_ret3
                exact ⟨by rw [HZ.out]; rfl, Below.refl _ _⟩
def rd2 (h : Nat × Nat) : Value := .tuple #[.int .i64 h.1, .int .i64 h.2]
/-- Of k terms and the rest: as far as the first goes, then the others. -/
theorem loopP_add (rd : List UInt8 → Nat × Nat) : ∀ (i k : Nat) (s : List UInt8) (m : Nat), loopP rd i s = (m, 0) → loopP rd (i + k) s = if (loopP rd k (s.drop m)).2 = 0 then (m + (loopP rd k (s.drop m)).1, 0) else (0, (loopP rd k (s.drop m)).2)
  | 0, k, s, m, h => by
    simp only [loopP, Prod.mk.injEq, and_true] at h
    subst h
    rw [Nat.zero_add, List.drop_zero, Nat.zero_add]
    split
    · rename_i h; exact Prod.ext rfl h
    · rename_i h
      -- what is wrong bears no length
      cases k with
      | zero => exact absurd rfl h
      | succ k =>
        simp only [loopP] at h ⊢
        split at h
        · rename_i h1
          split at h
          · exact absurd rfl h
          · rename_i h2
            rw [if_pos h1, if_neg h2]
        · rename_i h1
          rw [if_neg h1]
  | i + 1, k, s, m, h => by
    rw [loopP] at h
    split at h
    · rename_i h1
      split at h
      · rename_i h2
        simp only [Prod.mk.injEq, and_true] at h
        have ih := loopP_add rd i k (s.drop (rd s).1) (loopP rd i (s.drop (rd s).1)).1 (Prod.ext rfl h2)
        rw [List.drop_drop, h] at ih
        rw [show i + 1 + k = (i + k) + 1 by omega, loopP, if_pos h1, ih]
        split
        · rename_i h3
          rw [if_pos rfl, ← h, Nat.add_assoc]
        · rfl
      · rename_i h2
        simp only [Prod.mk.injEq] at h
        exact absurd h.2 h2
    · rename_i h1
      simp only [Prod.mk.injEq] at h
      exact absurd h.2 h1
theorem loopP_one (rd : List UInt8 → Nat × Nat) (s : List UInt8) : loopP rd 1 s = if (rd s).2 = 0 then ((rd s).1, 0) else (0, (rd s).2) := by
  simp [loopP]
end Go.Proofs.YtbdlegjklfkdmaaGreatDoor.Pl

namespace Go.Proofs.YtbdlegjklfkdmaaGreatDoor.Pl
open Go.RowKit

/-- What is thrown. -/
abbrev boom (e : Nat) : Ending := .panicked [{ v := .iface 29 (.int .i64 e), recovered := false }]

theorem need_ok (w : World) : Calls Tryz.prog 159 #[.int .i64 0] w fun x w' => x = .returned (.tuple #[]) ∧ w' = w := by
  go_enter Tryz.func159, Tryz.ntmps159
  go_wp2
  go_end0
  exact ⟨rfl, rfl⟩
theorem need_bad (e : Nat) (he : e ≠ 0) (w : World) : Calls Tryz.prog 159 #[.int .i64 e] w fun x w' => x = boom e ∧ w' = w := by
  have hz : ((e : Int) != 0) = true := by rw [bne_iff_ne]; omega
  go_enter Tryz.func159, Tryz.ntmps159
  go_wp2
  exact ⟨rfl, rfl, rfl⟩

/-- A text's size, or what is wrong. -/
def Size6 (r : Nat × Nat) (w : World) (x : Ending) (w' : World) : Prop := (if r.2 = 0 then x = .returned (.int .i64 r.1) else x = boom r.2) ∧ Below w.heap.size w w'
theorem Size6.ok {k : Nat} {w w' : World} (h : Below w.heap.size w w') : Size6 (k, 0) w (.returned (.int .i64 k)) w' := ⟨by rw [if_pos rfl], h⟩
theorem Size6.bad {k f : Nat} {w w' : World} (hf : f ≠ 0) (h : Below w.heap.size w w') : Size6 (k, f) w (boom f) w' := ⟨by rw [if_neg hf], h⟩

set_option maxHeartbeats 1000000 in
set_option maxRecDepth 100000 in
theorem textsize_any (s : ByteArray) (hs : s.size ≤ 281474976710656) (w : World) :
    Calls Tryz.prog 147 #[.string s] w (Size6 ((rdt (bl s) 1024).2.1, (rdt (bl s) 1024).2.2) w) := by
  have hT := fun V => readtext_any s 1024 V hs (by decide) (by decide)
  obtain ⟨r, hr⟩ : ∃ r, r = rdt (bl s) 1024 := ⟨_, rfl⟩
  have hbl : s.data.toList = bl s := rfl
  rw [hbl, ← hr] at hT
  rw [← hr]
  obtain ⟨t, k, f⟩ := r
  clear hr hs hbl
  have HT := Lib.hid hT
  clear hT
  by_cases hf : f = 0
  · subst hf
    go_enter Tryz.func147, Tryz.ntmps147
    go_wp2_with (first | (go_at_call 121; refine (HT.out _).mono ?_; rintro e w1 ⟨rfl, b1⟩) | (go_at_call 159; refine (need_ok _).mono ?_; rintro e w2 ⟨rfl, rfl⟩))
    go_ret
    exact Size6.ok b1
  · have HF := Lib.hid hf
    go_enter Tryz.func147, Tryz.ntmps147
    go_wp2_with (first | (go_at_call 121; refine (HT.out _).mono ?_; rintro e w1 ⟨rfl, b1⟩) | (go_at_call 159; refine (need_bad f HF.out _).mono ?_; rintro e w2 ⟨rfl, rfl⟩))
    exact ⟨by first | rfl | trivial, Size6.bad HF.out b1⟩

/-- A row's parts and its head's length, or what is wrong. -/
def Size62 (r : Nat × Nat × Nat) (w : World) (x : Ending) (w' : World) : Prop := (if r.2.2 = 0 then x = .returned (.tuple #[.int .i64 r.1, .int .i64 r.2.1]) else x = boom r.2.2) ∧ Below w.heap.size w w'
theorem Size62.ok {v k : Nat} {w w' : World} (h : Below w.heap.size w w') : Size62 (v, k, 0) w (.returned (.tuple #[.int .i64 v, .int .i64 k])) w' := ⟨by rw [if_pos rfl], h⟩
theorem Size62.bad {v k f : Nat} {w w' : World} (hf : f ≠ 0) (h : Below w.heap.size w w') : Size62 (v, k, f) w (boom f) w' := ⟨by rw [if_neg hf], h⟩
def rowP6 (s : List UInt8) : Nat × Nat × Nat := if (rdn s).2.2 = 0 ∧ 32 < (rdn s).1 then (0, 0, 5) else rdn s

set_option maxHeartbeats 1000000 in
set_option maxRecDepth 100000 in
theorem rowhead_any (s : ByteArray) (hs : s.size ≤ 281474976710656) (w : World) :
    Calls Tryz.prog 149 #[.string s] w (Size62 (rowP6 (bl s)) w) := by
  have hT := fun V => readnum_any s (by omega) V
  obtain ⟨r, hr⟩ : ∃ r, r = rdn (bl s) := ⟨_, rfl⟩
  have hbl : s.data.toList = bl s := rfl
  rw [hbl, ← hr] at hT
  obtain ⟨z, hz⟩ : ∃ z, z = rowP6 (bl s) := ⟨_, rfl⟩
  rw [← hz]
  unfold rowP6 at hz
  rw [← hr] at hz
  obtain ⟨v, k, f⟩ := r
  have HZ := Lib.hid hz
  clear hr hs hbl hz
  have HT := Lib.hid hT
  clear hT
  by_cases hf : f = 0
  · subst hf
    by_cases hv : 32 < v
    · have q1 : (32 : Int) < (v : Int) := by omega
      have HV := Lib.hid hv
      clear hv
      go_enter Tryz.func149, Tryz.ntmps149
      go_wp2_with (first | (go_at_call 87; refine (HT.out _).mono ?_; rintro e w1 ⟨rfl, rfl⟩) | (go_at_call 159; refine (need_ok _).mono ?_; rintro e w2 ⟨rfl, rfl⟩))
      have hz := HZ.out
      rw [if_pos (by first | exact ⟨rfl, HV.out⟩ | exact ⟨trivial, HV.out⟩)] at hz
      exact ⟨rfl, hz ▸ Size62.bad (f := 5) (by decide) (Below.refl _ _)⟩
    · have q1 : ¬ (32 : Int) < (v : Int) := by omega
      have q2 : (v : Int) ≤ 32 := by omega
      have HV := Lib.hid hv
      clear hv
      go_enter Tryz.func149, Tryz.ntmps149
      go_wp2_with (first | (go_at_call 87; refine (HT.out _).mono ?_; rintro e w1 ⟨rfl, rfl⟩) | (go_at_call 159; refine (need_ok _).mono ?_; rintro e w2 ⟨rfl, rfl⟩))
      go_ret2
      have hz := HZ.out
      rw [if_neg (by rintro ⟨_, h⟩; exact HV.out h)] at hz
      exact hz ▸ Size62.ok (Below.refl _ _)
  · have HF := Lib.hid hf
    go_enter Tryz.func149, Tryz.ntmps149
    go_wp2_with (first | (go_at_call 87; refine (HT.out _).mono ?_; rintro e w1 ⟨rfl, rfl⟩) | (go_at_call 159; refine (need_bad f HF.out _).mono ?_; rintro e w2 ⟨rfl, rfl⟩))
    have hz := HZ.out
    rw [if_neg (by rintro ⟨h, _⟩; exact HF.out h)] at hz
    exact ⟨rfl, hz ▸ Size62.bad HF.out (Below.refl _ _)⟩
end Go.Proofs.YtbdlegjklfkdmaaGreatDoor.Pl

namespace Go.Proofs.YtbdlegjklfkdmaaGreatDoor.Pl
open Go.RowKit

/-- The cells A and B lie in block b, a Hash's. -/
def HeldS (b : Nat) (A B : List Value) (w : World) : Prop := w.rangeAt b 0 A ∧ w.rangeAt b 8 B ∧ b < w.heap.size
theorem HeldS.alloc {b : Nat} {A B : List Value} {w : World} (h : HeldS b A B w) (o : Obj) : HeldS b A B (w.alloc o) :=
  ⟨World.rangeAt_alloc h.1 o, World.rangeAt_alloc h.2.1 o, by rw [size_alloc']; have := h.2.2; omega⟩
theorem HeldS.drew {b : Nat} {A B : List Value} {w : World} (h : HeldS b A B w) : HeldS b A B w.drew :=
  ⟨(World.rangeAt_drew _ _ _ _).2 h.1, (World.rangeAt_drew _ _ _ _).2 h.2.1, h.2.2⟩
theorem HeldS.setRow {b : Nat} {A B : List Value} {w : World} (h : HeldS b A B w) {g : Nat} (hg : b ≠ g) (cs : Array Value) : HeldS b A B (w.setRow g cs) :=
  ⟨fun j v hv => by rw [cell_setRow_other _ _ _ _ hg]; exact h.1 j v hv, fun j v hv => by rw [cell_setRow_other _ _ _ _ hg]; exact h.2.1 j v hv, by rw [setRow_size]; exact h.2.2⟩

theorem heap2_0 (w : World) (A B : Obj) : ((w.alloc A).alloc B).heap[w.heap.size]? = some A := by
  rw [Go.heap_alloc_old _ _ (by simp), Go.heap_alloc_new]
theorem heap2_1 (w : World) (A B : Obj) : ((w.alloc A).alloc B).heap[w.heap.size + 1]? = some B := by
  have := Go.heap_alloc_new (w.alloc A) B
  rw [size_alloc'] at this
  exact this
theorem below2 (w : World) (A B : Obj) : Below w.heap.size w ((w.alloc A).alloc B) := ((Below.refl _ _).alloc (Nat.le_refl _) _).alloc (by simp) _

/-- What clear does to the bytes of an array behind place r. -/
theorem clear_rest (g r : Nat) (hr : r < 64) (W : World) (l : List Nat) (hl : l.length = 64) (h : W.heap[g]? = some (.cells (row .u8 l) 119 (0, 0))) :
    ∃ sv, (∀ V, (Instr.sliceAt 119 (.pointer (some ⟨g, 0, none⟩)) (some (.int .u64 ((r : Int) + 1))) none none).run Tryz.prog V = .ok sv V) ∧
      (Builtin.clear_ #[121] 0 #[sv]).run Tryz.prog W = .ok (.tuple #[]) (W.setRow g (row .u8 (l.take (r + 1) ++ List.replicate (63 - r) 0))) := by
  have hz : ∀ w, (zeroValue 5).run Tryz.prog w = .ok (.int .u8 0) w := fun w => by kernel_rfl
  by_cases e : r = 63
  · subst e
    refine ⟨.slice (some ⟨g, 0, none⟩) 0 0, fun V => ?_, ?_⟩
    · have ha : Tryz.prog.arrayLen 119 = 64 := by simp [Program.arrayLen, Tryz.underlying119]
      have he : Tryz.prog.elem 119 = 5 := by simp [Program.elem, Tryz.underlying119]
      rw [run_sliceAt_array_l V 119 ⟨g, 0, none⟩ (by rw [ha, he]; exact Tryz.underlying119) .u64 _ (by omega) (by rw [ha]; omega), ha, he]
      have hs : (sizeOf 5).run Tryz.prog V = .ok 1 V := by kernel_rfl
      rw [hs]
      simp [Result.andThen, slicedAt]
    · rw [show l.take (63 + 1) ++ List.replicate (63 - 63) 0 = l from by rw [List.take_of_length_le (by omega)]; simp, setRow_self W g _ _ _ h]
      simp [Builtin.clear_, run_underlying Tryz.underlying121]
  · refine ⟨_, slice64 g 0 (r + 1) (by omega) .u64 _ (by omega), ?_⟩
    rw [Lib.run_clear_slice W 121 5 0 (.int .u8 0) Tryz.underlying121 hz rfl rfl g (0 + (r + 1)) (64 - (r + 1)) _ (by omega)
      (fun j hj => by rw [(at_row h (0 + (r + 1) + j) (by omega)).1]; rfl) (fun j hj => (at_row h (0 + (r + 1) + j) (by omega)).2)]
    rw [setCells_row g _ _ _ _ W h (by rw [List.length_replicate, row_size]; omega)]
    congr 2
    apply Array.ext'
    simp [row, show 64 - (r + 1) = 63 - r by omega, hl, show r + 1 + (63 - r) = 64 by omega]
theorem clear_all (g : Nat) (W : World) (l : List Nat) (hl : l.length = 64) (h : W.heap[g]? = some (.cells (row .u8 l) 119 (0, 0))) :
    (∀ V, (Instr.sliceAt 119 (.pointer (some ⟨g, 0, none⟩)) none none none).run Tryz.prog V = .ok (.slice (some ⟨g, 0, none⟩) 64 64) V) ∧
      (Builtin.clear_ #[121] 0 #[.slice (some ⟨g, 0, none⟩) 64 64]).run Tryz.prog W = .ok (.tuple #[]) (W.setRow g (row .u8 (List.replicate 64 0))) := by
  have hz : ∀ w, (zeroValue 5).run Tryz.prog w = .ok (.int .u8 0) w := fun w => by kernel_rfl
  refine ⟨fun V => ?_, ?_⟩
  · have ha : Tryz.prog.arrayLen 119 = 64 := by simp [Program.arrayLen, Tryz.underlying119]
    have he : Tryz.prog.elem 119 = 5 := by simp [Program.elem, Tryz.underlying119]
    rw [run_sliceAt_array_all V 119 ⟨g, 0, none⟩ (by rw [ha, he]; exact Tryz.underlying119), ha, he]
    have hs : (sizeOf 5).run Tryz.prog V = .ok 1 V := by kernel_rfl
    rw [hs]
    simp only [Result.andThen, slicedAt]
    rw [if_neg (by omega), add_none]
  · rw [Lib.run_clear_slice W 121 5 0 (.int .u8 0) Tryz.underlying121 hz rfl rfl g 0 64 _ (by omega)
      (fun j hj => by rw [(at_row h (0 + j) (by omega)).1]; rfl) (fun j hj => (at_row h (0 + j) (by omega)).2)]
    rw [setCells_row g _ _ _ _ W h (by rw [List.length_replicate, row_size]; omega)]
    congr 2
    apply Array.ext'
    simp [row, hl]

set_option maxHeartbeats 1000000 in
set_option maxRecDepth 100000 in
theorem hsum_any (w : World) (b : Nat) (m : List Nat) (hm : Bytes m) (hl : m.length < 2305843009213693952) (hT : Tab w) (h : Holds w b m) :
    Calls Tryz.prog 143 #[.pointer (some ⟨b, 0, none⟩)] w fun e w' => e = .returned (.string (bytesOf (digest m))) ∧ Below w.heap.size w w' := by
  obtain ⟨wt, hA, htl, hbt⟩ := h
  obtain ⟨A, eA⟩ : ∃ A, A = (st m).list.map fun (x : Nat) => Value.int .u32 (x : Int) := ⟨_, rfl⟩
  obtain ⟨B, eB⟩ : ∃ B, B = wt.map fun (x : Nat) => Value.int .u8 (x : Int) := ⟨_, rfl⟩
  have HELD : HeldS b A B w.drew := by rw [eA, eB]; exact HeldS.drew ⟨hA.state, hA.wait, hA.lt⟩
  have hs8 : (Tryz.prog.info? 161).map (·.size) = some A.length := by rw [eA, List.length_map]; kernel_rfl
  have hs64 : (Tryz.prog.info? 119).map (·.size) = some B.length := by rw [eB, List.length_map, hA.2]; kernel_rfl
  have HAL : Hid (A.length = 8) := Lib.hid (by rw [eA, List.length_map]; rfl)
  have HBL : Hid (B.length = 64) := Lib.hid (by rw [eB, List.length_map, hA.2])
  have HS8 := Lib.hid hs8
  have HS64 := Lib.hid hs64
  have HA := Lib.hid hA
  have HTL := Lib.hid htl
  have HBT := Lib.hid hbt
  have HM := Lib.hid hm
  have HT := Lib.hid hT
  have HL := Lib.hid hl
  have EA := Lib.hid eA
  have EB := Lib.hid eB
  clear hm hT hl hA htl hbt eA eB hs8 hs64
  go_enter Tryz.func143, Tryz.ntmps143
  go_upto_region 3 with fail
  go_cut [3, 4] from 10 to 17 (fun p3 p4 wx => ∃ g3 g4, p3 = .pointer (some ⟨g3, 0, none⟩) ∧ p4 = .pointer (some ⟨g4, 0, none⟩) ∧ Hid (wx.heap[g3]? = some (.cells A.toArray 161 (0, 0))) ∧ Hid (wx.heap[g4]? = some (.cells B.toArray 119 (0, 0))) ∧ Hid (g3 ≠ g4) ∧ Hid (w.heap.size ≤ g3) ∧ Hid (w.heap.size ≤ g4) ∧ Hid (Below w.heap.size w wx))
  case first =>
    refine wp_region_held_drew (S := HeldS b A B) (by kernel_rfl) HELD (fun hHeld => ?_)
    refine wpAnyH_take (i := 0) (oi := { dst := some 10, op := Op.move (Operand.tmp 0), type := 123, pos := "sha.go:68", after := #[], guard := none }) (v := .pointer (some ⟨b, 0, none⟩)) rfl (by kernel_rfl) (by kernel_rfl) (by kernel_rfl) (fun _ _ _ h => h) (.inl ⟨by rfl, fun w _ => by go_simp⟩) hHeld ?_
    refine wpAnyH_take (i := 1) (oi := { dst := some 11, op := Op.nilCheck (Operand.tmp 10), type := 0, pos := "sha.go:68", after := #[{ on := 0, ground := Ground.data }], guard := none }) (v := .pointer (some ⟨b, 0, none⟩)) rfl (by kernel_rfl) (by kernel_rfl) (by kernel_rfl) (fun _ _ _ h => h) (.inl ⟨by rfl, fun w _ => by go_simp⟩) hHeld ?_
    refine wpAnyH_take (i := 2) (oi := { dst := some 12, op := Op.fieldAddr 163 (Operand.tmp 11) 0, type := 0, pos := "sha.go:68", after := #[{ on := 1, ground := Ground.data }], guard := none }) (v := .pointer (some ⟨b, 0, none⟩)) rfl (by kernel_rfl) (by kernel_rfl) (by kernel_rfl) (fun _ _ _ h => h) (.inl ⟨by rfl, fun w _ => by go_simp⟩) hHeld ?_
    refine wpAnyH_take (i := 4) (oi := { dst := some 14, op := Op.move (Operand.tmp 0), type := 123, pos := "sha.go:68", after := #[{ on := 10, ground := Ground.gcOnly Departure.lateStores }], guard := none }) (v := .pointer (some ⟨b, 0, none⟩)) rfl (by kernel_rfl) (by kernel_rfl) (by kernel_rfl) (fun _ _ _ h => h) (.inl ⟨by rfl, fun w _ => by go_simp⟩) hHeld ?_
    refine wpAnyH_take (i := 5) (oi := { dst := some 15, op := Op.nilCheck (Operand.tmp 14), type := 0, pos := "sha.go:68", after := #[{ on := 4, ground := Ground.data }, { on := 10, ground := Ground.gcOnly Departure.lateStores }], guard := none }) (v := .pointer (some ⟨b, 0, none⟩)) rfl (by kernel_rfl) (by kernel_rfl) (by kernel_rfl) (fun _ _ _ h => h) (.inl ⟨by rfl, fun w _ => by go_simp⟩) hHeld ?_
    refine wpAnyH_take (i := 6) (oi := { dst := some 16, op := Op.fieldAddr 163 (Operand.tmp 15) 1, type := 0, pos := "sha.go:68", after := #[{ on := 5, ground := Ground.data }, { on := 10, ground := Ground.gcOnly Departure.lateStores }], guard := none }) (v := .pointer (some ⟨b, 8, none⟩)) rfl (by kernel_rfl) (by kernel_rfl) (by kernel_rfl) (fun _ _ _ h => h) (.inl ⟨by rfl, fun w _ => by go_simp⟩) hHeld ?_
    (try simp only [Act.put, List.setIfInBounds_toArray, List.set_cons_zero, List.set_cons_succ])
    refine wpAnyH_take (i := 3) (oi := { dst := some 13, op := Op.load 161 (Operand.tmp 12), type := 161, pos := "sha.go:68", after := #[{ on := 2, ground := Ground.data }], guard := none }) (v := .agg (A).toArray) rfl (by kernel_rfl) (by kernel_rfl) (by kernel_rfl) (fun _ _ _ h => h) (yieldsIf_load_mid (by rfl) 161 _ rfl b 0 rfl A _ (fun _ hs => hs.1) Tryz.underlying161 rfl HS8.out) hHeld ?_
    refine wpAnyH_take (i := 7) (oi := { dst := some 17, op := Op.load 119 (Operand.tmp 16), type := 119, pos := "sha.go:68", after := #[{ on := 6, ground := Ground.data }, { on := 10, ground := Ground.gcOnly Departure.lateStores }], guard := none }) (v := .agg (B).toArray) rfl (by kernel_rfl) (by kernel_rfl) (by kernel_rfl) (fun _ _ _ h => h) (yieldsIf_load_mid (by rfl) 119 _ rfl b 8 rfl B _ (fun _ hs => hs.2.1) Tryz.underlying119 rfl HS64.out) hHeld ?_
    (try simp only [Act.put, List.setIfInBounds_toArray, List.set_cons_zero, List.set_cons_succ])
    refine wpAnyH_ready (rs := [8, 9]) (by kernel_rfl) (by simp) ?_
    refine AllReadyH.cons (o := { dst := some 3, op := Op.alloc 161, type := 0, pos := "sha.go:68", after := #[], guard := none }) rfl (fun K hK => ?_) ?_
    · go_simp
      refine hK.out _ _ (hHeld.alloc _) (fun hHeld => ?_)
      clear hK K
      (try simp only [Act.put, List.setIfInBounds_toArray, List.set_cons_zero, List.set_cons_succ])
      refine wpAnyH_ready (rs := [9]) (by kernel_rfl) (by simp) ?_
      refine AllReadyH.cons (o := { dst := some 4, op := Op.alloc 119, type := 0, pos := "sha.go:68", after := #[], guard := none }) rfl (fun K hK => ?_) AllReadyH.nil
      go_simp
      refine hK.out _ _ (hHeld.alloc _) (fun hHeld => ?_)
      clear hK K
      (try simp only [Act.put, List.setIfInBounds_toArray, List.set_cons_zero, List.set_cons_succ])
      have k3 := heap2_0 w (.cells (row .u32 (List.replicate 8 0)) 161) (.cells (row .u8 (List.replicate 64 0)) 119)
      have k4 := heap2_1 w (.cells (row .u32 (List.replicate 8 0)) 161) (.cells (row .u8 (List.replicate 64 0)) 119)
      have kb := below2 w (.cells (row .u32 (List.replicate 8 0)) 161) (.cells (row .u8 (List.replicate 64 0)) 119)
      have K3 := Lib.hid k3
      have K4 := Lib.hid k4
      have KB := Lib.hid kb
      clear k3 k4 kb
      refine wpAnyH_ready (rs := [10]) (by kernel_rfl) (by simp) ?_
      refine AllReadyH.cons (o := { dst := none, op := Op.store 161 (Operand.tmp 3) (Operand.tmp 13), type := 0, pos := "sha.go:68", after := #[{ on := 8, ground := Ground.data }, { on := 3, ground := Ground.data }, { on := 0, ground := Ground.phase }, { on := 1, ground := Ground.phase }, { on := 2, ground := Ground.phase }, { on := 3, ground := Ground.phase }, { on := 4, ground := Ground.textOnly Departure.lateStores }, { on := 5, ground := Ground.textOnly Departure.lateStores }, { on := 6, ground := Ground.textOnly Departure.lateStores }, { on := 7, ground := Ground.textOnly Departure.lateStores }, { on := 8, ground := Ground.phase }, { on := 9, ground := Ground.phase }], guard := none }) rfl (fun K hK => ?_) AllReadyH.nil
      rw [if_pos (by rfl)]
      refine wp_store_row 161 _ _ rfl w.heap.size A.toArray rfl rfl 161 (row .u32 (List.replicate 8 0)) K3.out (by rw [List.size_toArray]; exact HS8.out) (by rw [row_size, List.size_toArray, HAL.out, List.length_replicate]) (by rw [EA.out]; exact row_one _ _) ?_
      refine hK.out _ _ (hHeld.setRow (by have := HA.out.lt; omega) _) (fun hHeld => ?_)
      clear hK K
      simp only [Act.put]
      refine wpAnyH_ready (rs := [11]) (by kernel_rfl) (by simp) ?_
      refine AllReadyH.cons (o := { dst := none, op := Op.store 119 (Operand.tmp 4) (Operand.tmp 17), type := 0, pos := "sha.go:68", after := #[{ on := 9, ground := Ground.data }, { on := 7, ground := Ground.data }, { on := 10, ground := Ground.chain }, { on := 0, ground := Ground.phase }, { on := 1, ground := Ground.phase }, { on := 2, ground := Ground.phase }, { on := 3, ground := Ground.phase }, { on := 4, ground := Ground.phase }, { on := 5, ground := Ground.phase }, { on := 6, ground := Ground.phase }, { on := 7, ground := Ground.phase }, { on := 8, ground := Ground.phase }, { on := 9, ground := Ground.phase }, { on := 10, ground := Ground.phase }], guard := none }) rfl (fun K hK => ?_) AllReadyH.nil
      rw [if_pos (by rfl)]
      refine wp_store_row 119 _ _ rfl (w.heap.size + 1) B.toArray rfl rfl 119 (row .u8 (List.replicate 64 0)) (heap_setRow K4.out (by omega) _) (by rw [List.size_toArray]; exact HS64.out) (by rw [row_size, List.size_toArray, HBL.out, List.length_replicate]) (by rw [EB.out]; exact row_one _ _) ?_
      refine hK.out _ _ (hHeld.setRow (by have := HA.out.lt; omega) _) (fun hHeld => ?_)
      clear hK K
      simp only [Act.put]
      refine wpAnyH_done (by kernel_rfl) ?_ _
      go_wp2_with fail
      go_meet
      exact ⟨w.heap.size, (w.heap.size + 1), rfl, rfl, Lib.hid (heap_setRow (setRow_heap _ _ _ _ _ _ K3.out) (by omega) _), Lib.hid (setRow_heap _ _ _ _ _ _ (heap_setRow K4.out (by omega) _)), Lib.hid (by omega), Lib.hid (by omega), Lib.hid (by omega), Lib.hid (below_setRow (below_setRow KB.out.drew (by omega) _) (by omega) _)⟩
    · refine AllReadyH.cons (o := { dst := some 4, op := Op.alloc 119, type := 0, pos := "sha.go:68", after := #[], guard := none }) rfl (fun K hK => ?_) AllReadyH.nil
      go_simp
      refine hK.out _ _ (hHeld.alloc _) (fun hHeld => ?_)
      clear hK K
      (try simp only [Act.put, List.setIfInBounds_toArray, List.set_cons_zero, List.set_cons_succ])
      refine wpAnyH_ready (rs := [8]) (by kernel_rfl) (by simp) ?_
      refine AllReadyH.cons (o := { dst := some 3, op := Op.alloc 161, type := 0, pos := "sha.go:68", after := #[], guard := none }) rfl (fun K hK => ?_) AllReadyH.nil
      go_simp
      refine hK.out _ _ (hHeld.alloc _) (fun hHeld => ?_)
      clear hK K
      (try simp only [Act.put, List.setIfInBounds_toArray, List.set_cons_zero, List.set_cons_succ])
      have k3 := heap2_1 w (.cells (row .u8 (List.replicate 64 0)) 119) (.cells (row .u32 (List.replicate 8 0)) 161)
      have k4 := heap2_0 w (.cells (row .u8 (List.replicate 64 0)) 119) (.cells (row .u32 (List.replicate 8 0)) 161)
      have kb := below2 w (.cells (row .u8 (List.replicate 64 0)) 119) (.cells (row .u32 (List.replicate 8 0)) 161)
      have K3 := Lib.hid k3
      have K4 := Lib.hid k4
      have KB := Lib.hid kb
      clear k3 k4 kb
      refine wpAnyH_ready (rs := [10]) (by kernel_rfl) (by simp) ?_
      refine AllReadyH.cons (o := { dst := none, op := Op.store 161 (Operand.tmp 3) (Operand.tmp 13), type := 0, pos := "sha.go:68", after := #[{ on := 8, ground := Ground.data }, { on := 3, ground := Ground.data }, { on := 0, ground := Ground.phase }, { on := 1, ground := Ground.phase }, { on := 2, ground := Ground.phase }, { on := 3, ground := Ground.phase }, { on := 4, ground := Ground.textOnly Departure.lateStores }, { on := 5, ground := Ground.textOnly Departure.lateStores }, { on := 6, ground := Ground.textOnly Departure.lateStores }, { on := 7, ground := Ground.textOnly Departure.lateStores }, { on := 8, ground := Ground.phase }, { on := 9, ground := Ground.phase }], guard := none }) rfl (fun K hK => ?_) AllReadyH.nil
      rw [if_pos (by rfl)]
      refine wp_store_row 161 _ _ rfl (w.heap.size + 1) A.toArray rfl rfl 161 (row .u32 (List.replicate 8 0)) K3.out (by rw [List.size_toArray]; exact HS8.out) (by rw [row_size, List.size_toArray, HAL.out, List.length_replicate]) (by rw [EA.out]; exact row_one _ _) ?_
      refine hK.out _ _ (hHeld.setRow (by have := HA.out.lt; omega) _) (fun hHeld => ?_)
      clear hK K
      simp only [Act.put]
      refine wpAnyH_ready (rs := [11]) (by kernel_rfl) (by simp) ?_
      refine AllReadyH.cons (o := { dst := none, op := Op.store 119 (Operand.tmp 4) (Operand.tmp 17), type := 0, pos := "sha.go:68", after := #[{ on := 9, ground := Ground.data }, { on := 7, ground := Ground.data }, { on := 10, ground := Ground.chain }, { on := 0, ground := Ground.phase }, { on := 1, ground := Ground.phase }, { on := 2, ground := Ground.phase }, { on := 3, ground := Ground.phase }, { on := 4, ground := Ground.phase }, { on := 5, ground := Ground.phase }, { on := 6, ground := Ground.phase }, { on := 7, ground := Ground.phase }, { on := 8, ground := Ground.phase }, { on := 9, ground := Ground.phase }, { on := 10, ground := Ground.phase }], guard := none }) rfl (fun K hK => ?_) AllReadyH.nil
      rw [if_pos (by rfl)]
      refine wp_store_row 119 _ _ rfl w.heap.size B.toArray rfl rfl 119 (row .u8 (List.replicate 64 0)) (heap_setRow K4.out (by omega) _) (by rw [List.size_toArray]; exact HS64.out) (by rw [row_size, List.size_toArray, HBL.out, List.length_replicate]) (by rw [EB.out]; exact row_one _ _) ?_
      refine hK.out _ _ (hHeld.setRow (by have := HA.out.lt; omega) _) (fun hHeld => ?_)
      clear hK K
      simp only [Act.put]
      refine wpAnyH_done (by kernel_rfl) ?_ _
      go_wp2_with fail
      go_meet
      exact ⟨(w.heap.size + 1), w.heap.size, rfl, rfl, Lib.hid (heap_setRow (setRow_heap _ _ _ _ _ _ K3.out) (by omega) _), Lib.hid (setRow_heap _ _ _ _ _ _ (heap_setRow K4.out (by omega) _)), Lib.hid (by omega), Lib.hid (by omega), Lib.hid (by omega), Lib.hid (below_setRow (below_setRow KB.out.drew (by omega) _) (by omega) _)⟩
  case rest =>
    obtain ⟨g3, g4, rfl, rfl, k3, k4, hne, hg3, hg4, hbw⟩ := hcut
    have K3 : wc.heap[g3]? = some (.cells (row .u32 (st m).list) 161 (0, 0)) := by rw [k3.out, EA.out]; rfl
    have K4 : wc.heap[g4]? = some (.cells (row .u8 wt) 119 (0, 0)) := by rw [k4.out, EB.out]; rfl
    have HW := Lib.hid (HA.out.below hbw.out)
    obtain ⟨r, hr⟩ : ∃ r, r = m.length % 64 := ⟨_, rfl⟩
    have HR := Lib.hid hr
    have hr64 : r < 64 := by omega
    obtain ⟨n, hn⟩ : ∃ n, n = m.length := ⟨_, rfl⟩
    have HN := Lib.hid hn
    obtain ⟨c72, _⟩ := HW.out.size
    rw [← hn] at c72
    obtain ⟨c4, f4⟩ := at_row K4 r (by rw [HA.out.2]; omega)
    have hmod : Int.tmod (n : Int) 64 = (r : Int) := by rw [Int.tmod_eq_emod_of_nonneg (by omega)]; omega
    have hmod2 : (n : Int) % 64 = (r : Int) := by omega
    have L3 : (wc.setCell ⟨g4, r, none⟩ (.int .u8 128)).heap[g3]? = some (.cells (row .u32 (st m).list) 161 (0, 0)) := heap_keep K3 hne.out
    have L4 : (wc.setCell ⟨g4, r, none⟩ (.int .u8 128)).heap[g4]? = some (.cells (row .u8 (wt.set r 128)) 119 (0, 0)) := heap_step K4 128
    have hb5 : Below w.heap.size w (wc.setCell ⟨g4, r, none⟩ (.int .u8 128)) := hbw.out.setCell hg4.out _
    obtain ⟨sv, hsv, hcl⟩ := clear_rest g4 r hr64 _ (wt.set r 128) (by rw [List.length_set]; exact HA.out.2) L4
    have hbase : (wt.set r 128).take (r + 1) ++ List.replicate (63 - r) 0 = base m := by
      rw [base, ← HR.out, ← HTL.out, ← HR.out, List.take_set, List.take_succ_eq_append_getElem (by rw [HA.out.2]; omega), List.set_append]
      simp [HA.out.2, show min r 64 = r by omega]
    rw [hbase] at hcl
    have M4 := setRow_heap _ _ _ (row .u8 (base m)) _ _ L4
    have M3 := heap_setRow L3 hne.out (row .u8 (base m))
    have MB := below_setRow hb5 hg4.out (row .u8 (base m))
    have LL3 := Lib.hid M3
    have LL4 := Lib.hid M4
    have LB := Lib.hid MB
    have k5 := Lib.hid K3
    have k6 := Lib.hid K4
    clear L3 L4 hb5 M3 M4 MB hr hn K3 K4 hbase
    go_upto_if 29 with fail
    go_cut [] from 28 to 33 (fun wx => ∃ (s : S8) (l : List Nat), Hid (s.fits) ∧ Hid (l.length = 64) ∧ Hid (Bytes l) ∧ Hid (wx.heap[g3]? = some (.cells (row .u32 s.list) 161 (0, 0))) ∧ Hid (wx.heap[g4]? = some (.cells (row .u8 l) 119 (0, 0))) ∧ Hid (fin m = proc s (l.take 56 ++ lenB m.length)) ∧ Hid (Below w.heap.size w wx))
    case first =>
      obtain ⟨W6, hW6⟩ : ∃ W6, W6 = (wc.setCell ⟨g4, r, none⟩ (.int .u8 128)).setRow g4 (row .u8 (base m)) := ⟨_, rfl⟩
      rw [← hW6] at LL3 LL4 LB
      rw [← hW6]
      have HW6 := Lib.hid hW6
      have hs35 : (Tryz.prog.info? 161).map (·.size) = some (row .u32 (st m).list).size := by rw [row_size]; kernel_rfl
      have hs39 : (Tryz.prog.info? 119).map (·.size) = some (row .u8 (base m)).size := by rw [row_size, base_length]; kernel_rfl
      have hs36 : (Tryz.prog.info? 161).map (·.size) = some (row .u32 (proc (st m) (base m)).list).size := by rw [row_size]; kernel_rfl
      have HS35 := Lib.hid hs35
      have HS39 := Lib.hid hs39
      have HS36 := Lib.hid hs36
      clear hW6 hcl hsv hs35 hs39 hs36 c72 c4 f4 hmod hmod2
      by_cases h56 : 56 ≤ r
      · have hd : decide (56 ≤ (r : Int)) = true := by simp; omega
        go_wp2_with (first
          | (refine wpList_load_row rfl 161 _ rfl g3 rfl 161 _ _ _ LL3.out Tryz.underlying161 rfl HS35.out ?_)
          | (refine wpList_load_row rfl 119 _ rfl g4 rfl 119 _ _ _ LL4.out Tryz.underlying119 rfl HS39.out ?_))
        refine (process_any (st m) (ab_fits _ _) (base m) (base_length m) (fun j => HM.out.base.at j) W6 (HT.out.below LB.out)).mono ?_; rintro e w6 ⟨rfl, hb6⟩
        have N3 := Lib.hid (heap_below hb6 LL3.out)
        have n4 := heap_below hb6 LL4.out
        have NB := Lib.hid (LB.out.trans (hb6.mono LB.out.size))
        have P3 := Lib.hid (setRow_heap _ _ _ (row .u32 (proc (st m) (base m)).list) _ _ N3.out)
        have P4 := heap_setRow n4 (fun e => hne.out e.symm) (row .u32 (proc (st m) (base m)).list)
        have PB := Lib.hid (below_setRow NB.out hg3.out (row .u32 (proc (st m) (base m)).list))
        obtain ⟨hsl, hcl⟩ := clear_all g4 _ (base m) (base_length m) P4
        have HP4 := Lib.hid P4
        clear hb6 n4 P4
        go_wp2_with (refine wpList_store_row rfl 161 _ _ rfl g3 _ rfl rfl 161 _ N3.out HS36.out (by rw [row_size, row_size]; rfl) (row_one _ _) ?_)
        go_meet
        refine ⟨proc (st m) (base m), List.replicate 64 0, Lib.hid (proc_fits _ _), Lib.hid (by simp), Lib.hid ?_, Lib.hid (heap_setRow P3.out hne.out _), Lib.hid (setRow_heap _ _ _ _ _ _ HP4.out), Lib.hid ?_, Lib.hid (below_setRow PB.out hg4.out _)⟩
        · intro x hx; rw [List.eq_of_mem_replicate hx]; decide
        · rw [fin, if_pos (by rw [← HR.out]; exact h56)]
          simp
      · have hd : decide (56 ≤ (r : Int)) = false := by simp; omega
        go_wp2_with fail
        go_meet
        exact ⟨st m, base m, Lib.hid (ab_fits _ _), Lib.hid (base_length m), Lib.hid HM.out.base, LL3, LL4, Lib.hid (by rw [fin, if_neg (by rw [← HR.out]; exact h56)]), LB⟩
    case rest =>
      obtain ⟨q, l, hq, hll, hbl, h3, h4, hfin, hbb⟩ := hcut
      obtain ⟨d72, _⟩ := (HA.out.below hbb.out).size
      rw [← HN.out] at d72
      obtain ⟨cnt, hcnt⟩ : ∃ cnt, cnt = n * 8 := ⟨_, rfl⟩
      have hw8 : IntKind.u64.wrap ((n : Int) * 8) = (cnt : Int) := by
        have h1 := HL.out
        have h2 := HN.out
        rw [IntKind.wrap_u64, hcnt]; omega
      have HCNT := Lib.hid hcnt
      clear hcnt hcl hsv c72 c4 f4 hmod hmod2
      go_wp2_with fail
      go_loopw [39] (fun i wr => ∃ (k : Nat) (p : List Nat), k ≤ 8 ∧ i = .int .i64 k ∧ Hid (p.length = 64) ∧ Hid (∀ j, j < 64 → p.getD j 0 = if 64 - k ≤ j then lenAt n (j - 56) else l.getD j 0) ∧ Hid (wr.heap[g3]? = some (.cells (row .u32 q.list) 161 (0, 0))) ∧ Hid (wr.heap[g4]? = some (.cells (row .u8 p) 119 (0, 0))) ∧ Hid (Below w.heap.size w wr)) (fun i _ => 8 - (intOf i).toNat)
      case atStart => exact ⟨0, l, by omega, rfl, hll, Lib.hid (fun j hj => by rw [if_neg (by omega)]), h3, h4, hbb⟩
      case round =>
        clear h3 h4 hbb d72
        obtain ⟨k, p, hk, rfl, hpl, hag, h3, h4, hbb⟩ := hrel
        by_cases hlt : k < 8
        · obtain ⟨c1, f1⟩ := at_row h4.out (63 - k) (by rw [hpl.out]; omega)
          have q1 : (63 - (k : Int)).toNat = 63 - k := by omega
          have q3 : (8 * (k : Int)).toNat = 8 * k := by omega
          have q5 : min (8 * k) 64 = 8 * k := by omega
          obtain ⟨v, HV⟩ : ∃ v, Hid (v = lenAt n (7 - k)) := ⟨_, Lib.hid rfl⟩
          have hv : (cnt : Int) / 2 ^ (8 * k) % 256 = (v : Int) := by
            rw [HV.out, lenAt, HCNT.out, show 7 - (7 - k) = k by omega, Int.natCast_emod, Int.natCast_ediv, Int.natCast_pow]; rfl
          go_wp2_with fail
          go_roundw
          case rel =>
            refine ⟨k + 1, p.set (63 - k) v, by omega, by go_num, Lib.hid (by rw [List.length_set]; exact hpl.out), Lib.hid ?_, Lib.hid (heap_keep h3.out hne.out), Lib.hid (heap_step h4.out v), Lib.hid (hbb.out.setCell hg4.out _)⟩
            intro j hj
            rw [getD_set _ _ _ _ (by rw [hpl.out]; omega)]
            by_cases e : j = 63 - k
            · rw [if_pos e, if_pos (by omega), HV.out, e, show 63 - k - 56 = 7 - k by omega]
            · rw [if_neg e, hag.out j hj]
              by_cases h : 64 - k ≤ j
              · rw [if_pos h, if_pos (by omega)]
              · rw [if_neg h, if_neg (by omega)]
          case measure => simp [intOf]; omega
        · obtain rfl : k = 8 := by omega
          have e : p = l.take 56 ++ lenB m.length := getD_ext (by rw [hpl.out, List.length_append, List.length_take, hll.out, lenB_length]; rfl) (fun j hj => by
            rw [hag.out j (by rw [hpl.out] at hj; exact hj), ← HN.out]
            by_cases h : j < 56
            · rw [if_neg (by omega), getD_append_left (by rw [List.length_take, hll.out]; omega)]
              simp [List.getD_eq_getElem?_getD, h]
            · rw [if_pos (by omega), List.getD_eq_getElem?_getD, List.getElem?_append_right (by rw [List.length_take, hll.out]; omega), ← List.getD_eq_getElem?_getD, List.length_take, hll.out, show min 56 64 = 56 by omega, lenB_at _ _ (by rw [hpl.out] at hj; omega)])
          subst e
          have hbp : Bytes (l.take 56 ++ lenB m.length) := (hbl.out.take 56).append (by
            intro x hx
            obtain ⟨i, hi, rfl⟩ := List.mem_map.1 hx
            exact lenAt_lt _ _)
          have HBP := Lib.hid hbp
          have hs35 : (Tryz.prog.info? 161).map (·.size) = some (row .u32 q.list).size := by rw [row_size]; kernel_rfl
          have hs39 : (Tryz.prog.info? 119).map (·.size) = some (row .u8 (l.take 56 ++ lenB m.length)).size := by rw [row_size, hpl.out]; kernel_rfl
          have HS35 := Lib.hid hs35
          have HS39 := Lib.hid hs39
          clear hs35 hs39 hbp hlt hk
          go_wp2_with (first
            | (refine wpList_load_row rfl 161 _ rfl g3 rfl 161 _ _ _ h3.out Tryz.underlying161 rfl HS35.out ?_)
            | (refine wpList_load_row rfl 119 _ rfl g4 rfl 119 _ _ _ h4.out Tryz.underlying119 rfl HS39.out ?_))
          refine (process_any q hq.out _ hpl.out (fun j => HBP.out.at j) wr (HT.out.below hbb.out)).mono ?_; rintro e w6 ⟨rfl, hb6⟩
          rw [← hfin.out]
          have HB6 := Lib.hid hb6
          clear hb6
          go_wp2_with fail
          refine (joined_any (fin m) w6).mono ?_; rintro e w7 ⟨rfl, hb7⟩
          go_wp2_with fail
          go_ret
          have k1 := hbb.out.trans (HB6.out.mono hbb.out.size)
          exact ⟨rfl, k1.trans (hb7.mono k1.size)⟩
end Go.Proofs.YtbdlegjklfkdmaaGreatDoor.Pl

namespace Go.Proofs.YtbdlegjklfkdmaaGreatDoor.Pl
open Go.RowKit

theorem holds_new {w : World} {b : Nat} (h : HashAt w b S0 (List.replicate 64 0) 0) : Holds w b [] :=
  ⟨List.replicate 64 0, h, rfl, fun x hx => by rw [List.eq_of_mem_replicate hx]; decide⟩
theorem new_holds (w : World) : Calls Tryz.prog 127 #[] w fun e w' => e = .returned (.pointer (some ⟨w.heap.size, 0, none⟩)) ∧ Holds w' w.heap.size [] ∧ w.heap.size < w'.heap.size ∧ Below w.heap.size w w' :=
  (new_any w).mono fun _ _ ⟨h1, h2, h3, h4⟩ => ⟨h1, holds_new h2, h3, h4⟩
theorem Holds.below {w w' : World} {b : Nat} {m : List Nat} (h : Holds w b m) (hb : Below w.heap.size w w') : Holds w' b m := by
  obtain ⟨wt, h1, h2, h3⟩ := h
  exact ⟨wt, h1.below hb, h2, h3⟩
theorem Holds.but {w w' : World} {b c : Nat} {m : List Nat} (h : Holds w c m) (hb : But b w w') (hne : c ≠ b) : Holds w' c m := by
  obtain ⟨wt, h1, h2, h3⟩ := h
  exact ⟨wt, ⟨by rw [hb.block c h1.lt hne]; exact h1.1, h1.2⟩, h2, h3⟩
theorem Holds.lt {w : World} {b : Nat} {m : List Nat} (h : Holds w b m) : b < w.heap.size := by
  obtain ⟨wt, h1, _, _⟩ := h
  exact h1.lt
theorem nums_nil : Bytes [] := fun x hx => by cases hx

set_option maxRecDepth 100000 in
theorem sum_any (s : ByteArray) (hl : s.size < 2305843009213693952) (w : World) (hT : Tab w) :
    Calls Tryz.prog 126 #[.string s] w fun e w' => e = .returned (.string (bytesOf (digest (nums s)))) ∧ Below w.heap.size w w' := by
  have HT := Lib.hid hT
  have HL := Lib.hid hl
  clear hT hl
  go_enter Tryz.func126, Tryz.ntmps126
  go_wp2_with fail
  refine (new_holds w).mono ?_; rintro e w1 ⟨rfl, h1, hz1, hb1⟩
  have HH := Lib.hid h1
  have HB1 := Lib.hid hb1
  have H0 := Lib.hid HT.out.1
  clear h1 hb1
  go_wp2_with fail
  refine (write_any w1 w.heap.size H0.out [] nums_nil s (by have := HL.out; simp; omega) (HT.out.below HB1.out) HH.out).mono ?_; rintro e w2 ⟨rfl, h2, hb2⟩
  rw [List.nil_append] at h2
  have HH2 := Lib.hid h2
  have HB2 := Lib.hid hb2
  have HT2 := Lib.hid (hb2.tab H0.out (HT.out.below HB1.out))
  clear h2 hb2
  go_wp2_with fail
  refine (hsum_any w2 w.heap.size (nums s) (nums_bytes s) (by rw [nums_length]; exact HL.out) HT2.out HH2.out).mono ?_; rintro e w3 ⟨rfl, hb3⟩
  have k2 := HB2.out.below HB1.out (Nat.le_refl _) (by omega)
  have k3 := Lib.hid (k2.trans (hb3.mono k2.size))
  clear hb3 k2
  go_wp2_with fail
  go_ret
  exact ⟨rfl, k3.out⟩

/-! At no Hash. -/
end Go.Proofs.YtbdlegjklfkdmaaGreatDoor.Pl

namespace Go.Proofs.YtbdlegjklfkdmaaGreatDoor.Pl
open Go.RowKit

theorem nums_bytesOf {l : List Nat} (h : Bytes l) : nums (bytesOf l) = l := by
  simp only [nums, bytesOf, List.map_map]
  conv => rhs; rw [← List.map_id l]
  apply List.map_congr_left
  intro x hx
  have := h x hx
  simp only [Function.comp, id, UInt8.toNat_ofNat']
  omega
theorem bytesOf_size (l : List Nat) : (bytesOf l).size = l.length := by simp [bytesOf, ByteArray.size]
theorem digest_bytes (m : List Nat) : Bytes (digest m) := by
  intro x hx
  obtain ⟨i, _, rfl⟩ := List.mem_map.1 hx
  exact outAt_lt _ _
theorem digest_length (m : List Nat) : (digest m).length = 32 := outs_length _
theorem nums_append (s t : ByteArray) : nums (s ++ t) = nums s ++ nums t := by simp [nums]
theorem copy_holds (w : World) (b : Nat) (m : List Nat) (h : Holds w b m) :
    Calls Tryz.prog 199 #[.pointer (some ⟨b, 0, none⟩)] w fun e w' => e = .returned (.pointer (some ⟨w.heap.size, 0, none⟩)) ∧ Holds w' w.heap.size m ∧ w.heap.size < w'.heap.size ∧ Below w.heap.size w w' := by
  obtain ⟨wt, h1, h2, h3⟩ := h
  exact (copy_any w b (st m) wt m.length h1).mono fun _ _ ⟨k1, k2, k3, k4⟩ => ⟨k1, ⟨wt, k2, h2, h3⟩, k3, k4⟩
end Go.Proofs.YtbdlegjklfkdmaaGreatDoor.Pl

namespace Go.Proofs.YtbdlegjklfkdmaaGreatDoor.Pl

/-- A key, or its hash if it is long. -/
noncomputable def kshort (k : List Nat) : List Nat := if 64 < k.length then digest k else k
/-- The block of a key. -/
noncomputable def kblock (k : List Nat) : List Nat := kshort k ++ List.replicate (64 - (kshort k).length) 0
def xorb (n : Nat) (l : List Nat) : List Nat := l.map fun x => x ^^^ n
/-- The tag. -/
noncomputable def tagOf (k m : List Nat) : List Nat := digest (xorb 92 (kblock k) ++ digest (xorb 54 (kblock k) ++ m))
theorem kshort_length (k : List Nat) : (kshort k).length ≤ 64 := by
  unfold kshort; split
  · rw [digest_length]; decide
  · omega
theorem kblock_length (k : List Nat) : (kblock k).length = 64 := by
  have := kshort_length k
  rw [kblock, List.length_append, List.length_replicate]; omega
theorem kblock_bytes {k : List Nat} (h : Bytes k) : Bytes (kblock k) := by
  refine Bytes.append ?_ ?_
  · unfold kshort; split
    · exact digest_bytes _
    · exact h
  · intro x hx; rw [List.eq_of_mem_replicate hx]; decide
theorem xorb_length (n : Nat) (l : List Nat) : (xorb n l).length = l.length := by simp [xorb]
theorem xorb_bytes {n : Nat} (hn : n < 256) {l : List Nat} (h : Bytes l) : Bytes (xorb n l) := by
  intro x hx
  obtain ⟨y, hy, rfl⟩ := List.mem_map.1 hx
  exact Nat.xor_lt_two_pow (n := 8) (h y hy) hn
theorem tagOf_length (k m : List Nat) : (tagOf k m).length = 32 := digest_length _
theorem tagOf_bytes (k m : List Nat) : Bytes (tagOf k m) := digest_bytes _
end Go.Proofs.YtbdlegjklfkdmaaGreatDoor.Pl

namespace Go.Proofs.YtbdlegjklfkdmaaGreatDoor.Pl

def streamL : List Nat := [115, 116, 114, 101, 97, 109]
def tagL : List Nat := [116, 97, 103]
/-- The key of the stream, and that of the tag. -/
noncomputable def skey (k : List Nat) : List Nat := tagOf k streamL
noncomputable def tkey (k : List Nat) : List Nat := tagOf k tagL
/-- A number as four bytes. -/
def be4 (i : Nat) : List Nat := [i / 16777216 % 256, i / 65536 % 256, i / 256 % 256, i % 256]
/-- A part of the stream. -/
noncomputable def partL (sk nonce : List Nat) (i : Nat) : List Nat := tagOf sk (nonce ++ be4 i)
/-- The stream's byte j. -/
noncomputable def ksAt (sk nonce : List Nat) (j : Nat) : Nat := (partL sk nonce (j / 32)).getD (j % 32) 0
/-- Two rows of numbers, xor each other, as far as the first goes, by what f says. -/
def xorf (l : List Nat) (f : Nat → Nat) : List Nat := (List.range l.length).map fun j => l.getD j 0 ^^^ f j
noncomputable def hide (sk nonce l : List Nat) : List Nat := xorf l (ksAt sk nonce)
/-- What is hidden, with its nonce ahead; with its tag. -/
noncomputable def hiddenL (k nonce s : List Nat) : List Nat := nonce ++ hide (skey k) nonce s
noncomputable def sealedL (k nonce s : List Nat) : List Nat := hiddenL k nonce s ++ tagOf (tkey k) (hiddenL k nonce s)

theorem partL_bytes (sk nonce : List Nat) (i : Nat) : Bytes (partL sk nonce i) := tagOf_bytes _ _
theorem ksAt_lt (sk nonce : List Nat) (j : Nat) : ksAt sk nonce j < 256 := (partL_bytes sk nonce (j / 32)).at _
theorem xorf_length (l : List Nat) (f : Nat → Nat) : (xorf l f).length = l.length := by simp [xorf]
theorem xorf_at (l : List Nat) (f : Nat → Nat) (j : Nat) (h : j < l.length) : (xorf l f).getD j 0 = l.getD j 0 ^^^ f j := by
  simp [xorf, List.getD_eq_getElem?_getD, h]
theorem xorf_bytes {l : List Nat} {f : Nat → Nat} (h : Bytes l) (hf : ∀ j, f j < 256) : Bytes (xorf l f) := by
  intro x hx
  obtain ⟨j, _, rfl⟩ := List.mem_map.1 hx
  exact Nat.xor_lt_two_pow (n := 8) (h.at j) (hf j)
theorem listD_ext {l m : List Nat} (h : l.length = m.length) (k : ∀ i, i < l.length → l.getD i 0 = m.getD i 0) : l = m := by
  apply List.ext_getElem h
  intro i h1 h2
  have := k i h1
  rwa [List.getD_eq_getElem?_getD, List.getD_eq_getElem?_getD, List.getElem?_eq_getElem h1, List.getElem?_eq_getElem h2, Option.getD_some, Option.getD_some] at this
theorem xorf_xorf (l : List Nat) (f : Nat → Nat) : xorf (xorf l f) f = l := by
  apply listD_ext (by rw [xorf_length, xorf_length])
  intro i hi
  rw [xorf_length, xorf_length] at hi
  rw [xorf_at _ _ _ (by rw [xorf_length]; exact hi), xorf_at _ _ _ hi, Nat.xor_assoc, Nat.xor_self, Nat.xor_zero]
theorem hide_length (sk nonce l : List Nat) : (hide sk nonce l).length = l.length := xorf_length _ _
theorem hide_bytes (sk nonce : List Nat) {l : List Nat} (h : Bytes l) : Bytes (hide sk nonce l) := xorf_bytes h (ksAt_lt sk nonce)
theorem hide_hide (sk nonce l : List Nat) : hide sk nonce (hide sk nonce l) = l := xorf_xorf _ _
theorem hiddenL_length (k nonce s : List Nat) : (hiddenL k nonce s).length = nonce.length + s.length := by rw [hiddenL, List.length_append, hide_length]
theorem hiddenL_bytes (k : List Nat) {nonce s : List Nat} (hn : Bytes nonce) (hs : Bytes s) : Bytes (hiddenL k nonce s) := hn.append (hide_bytes _ _ hs)
theorem sealedL_length (k nonce s : List Nat) : (sealedL k nonce s).length = nonce.length + s.length + 32 := by rw [sealedL, List.length_append, hiddenL_length, tagOf_length]
theorem sealedL_bytes (k : List Nat) {nonce s : List Nat} (hn : Bytes nonce) (hs : Bytes s) : Bytes (sealedL k nonce s) := (hiddenL_bytes k hn hs).append (tagOf_bytes _ _)
theorem set_getD (l : List Nat) (k x j : Nat) (h : k < l.length) : (l.set k x).getD j 0 = if j = k then x else l.getD j 0 := by
  rw [List.getD_eq_getElem?_getD, List.getD_eq_getElem?_getD, List.getElem?_set]
  by_cases e : j = k
  · rw [if_pos e.symm, if_pos h, if_pos e, Option.getD_some]
  · rw [if_neg (fun e' => e e'.symm), if_neg e]
end Go.Proofs.YtbdlegjklfkdmaaGreatDoor.Pl

namespace Go.Proofs.YtbdlegjklfkdmaaGreatDoor.Pl
open Go.RowKit

set_option maxRecDepth 100000 in
theorem zeros_made (n : Nat) (hn : n ≤ 1000) (V : World) :
    (Instr.makeSlice 121 (.int .i64 (n : Int)) (.int .i64 (n : Int))).run Tryz.prog V = .ok (.slice (some ⟨V.heap.size, 0, none⟩) n n) (V.alloc (.cells (row .u8 (List.replicate n 0)) 5)) := by
  obtain ⟨i0, hi, hz0, hz1, hz2⟩ := info_parts info_u8
  have h := run_make (P := Tryz.prog) V 121 5 i0 (.int .u8 0) Tryz.underlying121 hi hz0 .i64 .i64 (n : Int) (n : Int) (by omega) (Int.le_refl _) (by rw [hz2]; omega) (by omega)
  rw [h, hz1, Int.toNat_natCast, Nat.mul_one]
  congr 3
  apply Array.ext'
  rw [show (Value.int .u8 0).cells = #[Value.int .u8 0] from rfl, toList_madeCells_one]
  simp [row]
theorem zeros_string (n : Nat) (V : World) :
    (convert 121 9 (.slice (some ⟨V.heap.size, 0, none⟩) n n)).run Tryz.prog (V.alloc (.cells (row .u8 (List.replicate n 0)) 5)) = .ok (.string (bytesOf (List.replicate n 0))) (V.alloc (.cells (row .u8 (List.replicate n 0)) 5)) := by
  have hb : Bytes (List.replicate n 0) := fun x hx => by rw [List.eq_of_mem_replicate hx]; decide
  have h := back_string (V.alloc (.cells (row .u8 (List.replicate n 0)) 5)) V.heap.size 0 n (List.replicate n 0) (fun j => hb.at j) (fun j hj => by
    rw [Nat.zero_add]; exact (at_row (Go.heap_alloc_new V _) j hj).1)
  rwa [List.length_replicate] at h
theorem bytesOf_append (l m : List Nat) : bytesOf (l ++ m) = bytesOf l ++ bytesOf m := by
  apply ByteArray.ext
  simp [bytesOf]
theorem bytesOf_nums (s : ByteArray) : bytesOf (nums s) = s := by
  apply ByteArray.ext
  apply Array.ext'
  simp only [bytesOf, nums, List.map_map]
  conv => rhs; rw [← List.map_id s.data.toList]
  apply List.map_congr_left
  intro x _
  simp
theorem zeros_size (n : Nat) : (bytesOf (List.replicate n 0)).size = n := by rw [bytesOf_size, List.length_replicate]
end Go.Proofs.YtbdlegjklfkdmaaGreatDoor.Pl

namespace Go.Proofs.YtbdlegjklfkdmaaGreatDoor.Pl
open Go.RowKit

theorem zero_begun (w : World) : (zeroValue 125).run Tryz.prog w = .ok (.agg #[.pointer none]) w := by kernel_rfl
theorem But.heap {b c : Nat} {w w' : World} {o : Obj} (hb : But b w w') (h : w.heap[c]? = some o) (hc : c ≠ b) : w'.heap[c]? = some o := by
  rw [hb.block c (Array.getElem?_eq_some_iff.1 h).1 hc]; exact h
set_option maxRecDepth 100000 in
theorem begin_any (s : ByteArray) (hl : s.size < 2305843009213693952) (w : World) (hT : Tab w) :
    Calls Tryz.prog 95 #[.string s] w fun e w' => e = .returned (.agg #[.pointer (some ⟨w.heap.size + 1, 0, none⟩)]) ∧ Holds w' (w.heap.size + 1) (nums s) ∧ Below w.heap.size w w' := by
  have HL := Lib.hid hl
  have hz := zero_begun
  have B1 : Hid (Below w.heap.size w (w.alloc (.cells #[.pointer none] 125))) := Lib.hid ((Below.refl _ _).alloc (Nat.le_refl _) _)
  have T1 := Lib.hid (hT.below B1.out)
  have S1 := Lib.hid (size_alloc' w (.cells #[.pointer none] 125))
  have C1 := Lib.hid (Go.heap_alloc_new w (.cells #[.pointer none] 125))
  clear hT hl
  go_enter Tryz.func95, Tryz.ntmps95
  go_wp2_with fail
  generalize w.alloc (.cells #[.pointer none] 125) = W at *
  refine (new_holds W).mono ?_; rintro e w1 ⟨rfl, h1, hz1, hb1⟩
  rw [S1.out] at h1 hz1 ⊢
  have B2 := Lib.hid (B1.out.trans (hb1.mono B1.out.size))
  have T2 := Lib.hid (T1.out.below hb1)
  have C2 := Lib.hid (heap_below hb1 C1.out)
  have H2 := Lib.hid h1
  have Z2 := Lib.hid hz1
  clear h1 hb1 hz1
  go_wp2_with fail
  refine (write_any w1 (w.heap.size + 1) (by have := T1.out.1; have := S1.out; omega) [] nums_nil s (by have := HL.out; simp; omega) T2.out H2.out).mono ?_; rintro e w2 ⟨rfl, h2, hb2⟩
  rw [List.nil_append] at h2
  have C3 := hb2.heap C2.out (by omega)
  obtain ⟨c3, f3⟩ : w2.cell? ⟨w.heap.size, 0, none⟩ = some (.pointer none) ∧ w2.frozen? ⟨w.heap.size, 0, none⟩ = false := ⟨cell_of_row _ _ _ _ _ _ C3, frozen_of_row _ _ _ _ _ C3⟩
  have B3 := Lib.hid (hb2.below B2.out (by omega) B2.out.size)
  have H3 := Lib.hid h2
  have C4 := Lib.hid C3
  have HS : Hid ((Tryz.prog.info? 125).map (·.size) = some (#[Value.pointer (some ⟨w.heap.size + 1, 0, none⟩)].size)) := Lib.hid (by kernel_rfl)
  clear C3 hb2 h2
  go_wp2_with fail
  refine bodyPost_ret (v := .agg #[.pointer (some ⟨w.heap.size + 1, 0, none⟩)]) ?_ rfl ⟨rfl, H3.out.but (But.setCell (But.refl _ _) _ _) (by omega), B3.out.setCell (Nat.le_refl _) _⟩
  exact results_cell_row rfl _ _ w.heap.size 125 _ (0, 0) _ rfl (heap_setCell_same _ _ _ _ _ _ C4.out) Tryz.underlying125 rfl HS.out
set_option maxRecDepth 100000 in
theorem over_any (h : Nat) (m : List Nat) (hm : Bytes m) (s : ByteArray) (hl : m.length + s.size < 2305843009213693952) (w : World) (hT : Tab w) (hh : Holds w h m) :
    Calls Tryz.prog 195 #[.agg #[.pointer (some ⟨h, 0, none⟩)], .string s] w fun e w' => e = .returned (.string (bytesOf (digest (m ++ nums s)))) ∧ Below w.heap.size w w' := by
  have HL := Lib.hid hl
  have B1 : Hid (Below w.heap.size w (w.alloc (.cells #[.pointer (some ⟨h, 0, none⟩)] 125))) := Lib.hid ((Below.refl _ _).alloc (Nat.le_refl _) _)
  have T1 := Lib.hid (hT.below B1.out)
  have H1 := Lib.hid (hh.below B1.out)
  have HM := Lib.hid hm
  clear hT hl hh hm
  go_enter Tryz.func195, Tryz.ntmps195
  go_wp2_with fail
  generalize w.alloc (.cells #[.pointer (some ⟨h, 0, none⟩)] 125) = W at *
  refine (copy_holds W h m H1.out).mono ?_; rintro e w1 ⟨rfl, h1, hz1, hb1⟩
  have B2 := Lib.hid (B1.out.trans (hb1.mono B1.out.size))
  have T2 := Lib.hid (T1.out.below hb1)
  have H2 := Lib.hid h1
  have Z2 := Lib.hid T1.out.1
  clear h1 hb1 hz1
  go_wp2_with fail
  refine (write_any w1 W.heap.size Z2.out m HM.out s HL.out T2.out H2.out).mono ?_; rintro e w2 ⟨rfl, h2, hb2⟩
  have B3 := Lib.hid (hb2.below B2.out B1.out.size B2.out.size)
  have T3 := Lib.hid (hb2.tab Z2.out T2.out)
  have H3 := Lib.hid h2
  clear h2 hb2
  go_wp2_with fail
  refine (hsum_any w2 W.heap.size (m ++ nums s) (HM.out.append (nums_bytes s)) (by rw [List.length_append, nums_length]; exact HL.out) T3.out H3.out).mono ?_; rintro e w3 ⟨rfl, hb3⟩
  have B4 := Lib.hid (B3.out.trans (hb3.mono B3.out.size))
  clear hb3
  go_wp2_with fail
  go_ret
  exact ⟨rfl, B4.out⟩
end Go.Proofs.YtbdlegjklfkdmaaGreatDoor.Pl

namespace Go.Proofs.YtbdlegjklfkdmaaGreatDoor.Pl
open Go.RowKit

theorem zero64 (w : World) : (zeroValue 119).run Tryz.prog w = .ok (.agg (row .u8 (List.replicate 64 0))) w := by kernel_rfl
theorem all64 (g : Nat) (V : World) : (Instr.sliceAt 119 (.pointer (some ⟨g, 0, none⟩)) none none none).run Tryz.prog V = .ok (.slice (some ⟨g, 0, none⟩) 64 64) V := by
  have ha : Tryz.prog.arrayLen 119 = 64 := by simp [Program.arrayLen, Tryz.underlying119]
  have he : Tryz.prog.elem 119 = 5 := by simp [Program.elem, Tryz.underlying119]
  rw [run_sliceAt_array_all V 119 ⟨g, 0, none⟩ (by rw [ha, he]; exact Tryz.underlying119), ha, he]
  have hs : (sizeOf 5).run Tryz.prog V = .ok 1 V := by kernel_rfl
  rw [hs]
  simp only [Result.andThen, slicedAt]
  rw [if_neg (by omega), add_none]
theorem copy_row (g : Nat) (W : World) (h : W.heap[g]? = some (.cells (row .u8 (List.replicate 64 0)) 119 (0, 0))) (x : ByteArray) (hx : x.size ≤ 64) :
    (Builtin.copy_ #[121, 9] 3 #[.slice (some ⟨g, 0, none⟩) 64 64, .string x]).run Tryz.prog W = .ok (goInt x.size) (W.setRow g (row .u8 (nums x ++ List.replicate (64 - x.size) 0))) := by
  have hu : (u8s (nums x)).length = x.size := by rw [u8s, List.length_map, nums_length]
  have hst := run_storeCells_at Tryz.prog g 0 _ (u8s (nums x)) 0 _ W h (by rw [hu, row_size, List.length_replicate]; omega) (by
    intro v hv
    obtain ⟨_, _, rfl⟩ := List.mem_map.1 hv
    rfl)
  rw [hu] at hst
  simp only [Nat.add_zero, Nat.zero_add, List.take_zero, List.nil_append] at hst
  have hs : (sizeOf 5).run Tryz.prog W = .ok 1 W := by kernel_rfl
  have hmin : Nat.min x.size 64 = x.size := Nat.min_eq_left hx
  have htk : List.map (fun (c : UInt8) => Value.int .u8 (c.toNat : Int)) x.data.toList = u8s (nums x) := by simp only [u8s, nums, List.map_map]; rfl
  have htk2 : List.take x.size (List.map (fun (c : UInt8) => Value.int .u8 (c.toNat : Int)) x.data.toList) = u8s (nums x) := by
    rw [htk, List.take_of_length_le (by rw [hu]; exact Nat.le_refl _)]
  simp [Builtin.copy_, run_underlying Tryz.underlying121, Builtin.lenOf, Builtin.firstCells, hs, hmin]
  rw [htk2, hst]
  simp only [row, u8s, List.map_append, List.map_replicate, List.drop_replicate, List.toList_toArray]
  rfl
theorem kblock_short (k : List Nat) (h : k.length ≤ 64) : kblock k = k ++ List.replicate (64 - k.length) 0 := by
  rw [kblock, kshort, if_neg (by omega)]
theorem kblock_of_long (k : List Nat) (h : 64 < k.length) : kblock k = digest k ++ List.replicate (64 - (digest k).length) 0 := by
  rw [kblock, kshort, if_pos h]

set_option maxHeartbeats 1000000 in
set_option maxRecDepth 100000 in
theorem block_any (key : ByteArray) (hl : key.size < 2305843009213693952) (w : World) (hT : Tab w) :
    Calls Tryz.prog 93 #[.string key] w fun e w' => e = .returned (.agg (row .u8 (kblock (nums key)))) ∧ Below w.heap.size w w' := by
  have hz := zero64
  have HS : Hid ((Tryz.prog.info? 119).map (·.size) = some (row .u8 (kblock (nums key))).size) := Lib.hid (by rw [row_size, kblock_length]; kernel_rfl)
  by_cases hk : key.size ≤ 64
  · have hlen : ¬ (64 : Int) < (key.size : Int) := by omega
    have e : nums key ++ List.replicate (64 - key.size) 0 = kblock (nums key) := by rw [kblock_short _ (by rw [nums_length]; exact hk), nums_length]
    have h2 := heap2_1 w (.cells (row .u8 (List.replicate 64 0)) 119) (.cells (row .u8 (List.replicate 64 0)) 119)
    have h1 := heap2_0 w (.cells (row .u8 (List.replicate 64 0)) 119) (.cells (row .u8 (List.replicate 64 0)) 119)
    have hsl := all64 (w.heap.size + 1)
    have hcp := copy_row (w.heap.size + 1) _ h2 key hk
    rw [e] at hcp
    have HZ : Hid ((row .u8 (List.replicate 64 0)).size = (row .u8 (kblock (nums key))).size) := Lib.hid (by rw [row_size, row_size, kblock_length, List.length_replicate])
    have H1 := Lib.hid (heap_setRow h1 (g := w.heap.size + 1) (by omega) (row .u8 (kblock (nums key))))
    have H2 := Lib.hid (setRow_heap _ _ _ (row .u8 (kblock (nums key))) _ _ h2)
    have HB := Lib.hid (below_setRow (below2 w (.cells (row .u8 (List.replicate 64 0)) 119) (.cells (row .u8 (List.replicate 64 0)) 119)) (g := w.heap.size + 1) (by omega) (row .u8 (kblock (nums key))))
    generalize kblock (nums key) = kb at *
    generalize eW : (((w.alloc (.cells (row .u8 (List.replicate 64 0)) 119)).alloc (.cells (row .u8 (List.replicate 64 0)) 119)).setRow (w.heap.size + 1) (row .u8 (kb))) = W at *
    clear eW h1 h2 hl hT e
    generalize List.replicate 64 0 = Z at *
    go_enter Tryz.func93, Tryz.ntmps93
    go_wp2_with (first
      | (refine wpList_load_row rfl 119 _ rfl (w.heap.size + 1) rfl 119 _ _ _ H2.out Tryz.underlying119 rfl HS.out ?_)
      | (refine wpList_store_row rfl 119 _ _ rfl w.heap.size (row .u8 (kb)) rfl rfl 119 (row .u8 Z) H1.out HS.out HZ.out (row_one _ _) ?_))
    refine bodyPost_ret (v := .agg (row .u8 (kb))) ?_ rfl ⟨rfl, below_setRow HB.out (Nat.le_refl _) _⟩
    exact results_cell_row rfl _ _ w.heap.size 119 _ (0, 0) _ rfl (setRow_heap _ _ _ _ _ _ H1.out) Tryz.underlying119 rfl HS.out
  · have hlen : (64 : Int) < (key.size : Int) := by omega
    have hgt : 64 < (nums key).length := by rw [nums_length]; exact Nat.lt_of_not_le hk
    have hd : nums (bytesOf (digest (nums key))) = digest (nums key) := nums_bytesOf (digest_bytes _)
    have hx : (bytesOf (digest (nums key))).size = 32 := by rw [bytesOf_size, digest_length]
    have e : nums (bytesOf (digest (nums key))) ++ List.replicate (64 - (bytesOf (digest (nums key))).size) 0 = kblock (nums key) := by
      rw [kblock_of_long _ hgt, hd, hx, digest_length]
    have HZ : Hid ((row .u8 (List.replicate 64 0)).size = (row .u8 (kblock (nums key))).size) := Lib.hid (by rw [row_size, row_size, kblock_length, List.length_replicate])
    have h1 := Go.heap_alloc_new w (.cells (row .u8 (List.replicate 64 0)) 119)
    have HCP : Hid (∀ g W, W.heap[g]? = some (.cells (row .u8 (List.replicate 64 0)) 119 (0, 0)) → (Builtin.copy_ #[121, 9] 3 #[.slice (some ⟨g, 0, none⟩) 64 64, .string (bytesOf (digest (nums key)))]).run Tryz.prog W = .ok (goInt 32) (W.setRow g (row .u8 (kblock (nums key))))) := Lib.hid (fun g W h => by
      have := copy_row g W h (bytesOf (digest (nums key))) (by rw [hx]; decide)
      rw [e, hx] at this
      exact this)
    have B1 : Hid (Below w.heap.size w (w.alloc (.cells (row .u8 (List.replicate 64 0)) 119))) := Lib.hid ((Below.refl _ _).alloc (Nat.le_refl _) _)
    have H1 := Lib.hid h1
    have T1 := Lib.hid (hT.below B1.out)
    have HK := Lib.hid (fun W => sum_any key hl W)
    clear h1 hT hl e hx hd hgt
    generalize kblock (nums key) = kb at *
    generalize List.replicate 64 0 = Z at *
    generalize bytesOf (digest (nums key)) = X at *
    go_enter Tryz.func93, Tryz.ntmps93
    go_wp2_with fail
    generalize w.alloc (.cells (row .u8 Z) 119) = W at *
    refine (HK.out W T1.out).mono ?_; rintro e w1 ⟨rfl, hb1⟩
    have B2 := Lib.hid (B1.out.trans (hb1.mono B1.out.size))
    have hne : Hid (w.heap.size ≠ w1.heap.size) := Lib.hid (by have := (Array.getElem?_eq_some_iff.1 H1.out).1; have := hb1.size; omega)
    have h3 := Go.heap_alloc_new w1 (.cells (row .u8 Z) 119)
    have hsl := all64 w1.heap.size
    have hcp := HCP.out w1.heap.size _ h3
    have C1 := Lib.hid (heap_setRow (heap_alloc (heap_below hb1 H1.out) (.cells (row .u8 Z) 119)) hne.out (row .u8 (kb)))
    have C2 := Lib.hid (setRow_heap _ _ _ (row .u8 (kb)) _ _ h3)
    have C3 := Lib.hid (below_setRow (B2.out.alloc B2.out.size (.cells (row .u8 Z) 119)) B2.out.size (row .u8 (kb)))
    generalize eW : (w1.alloc (.cells (row .u8 Z) 119)).setRow w1.heap.size (row .u8 (kb)) = V at *
    clear eW h3 hb1
    go_wp2_with (first
      | (refine wpList_load_row rfl 119 _ rfl w1.heap.size rfl 119 _ _ _ C2.out Tryz.underlying119 rfl HS.out ?_)
      | (refine wpList_store_row rfl 119 _ _ rfl w.heap.size (row .u8 (kb)) rfl rfl 119 (row .u8 Z) C1.out HS.out HZ.out (row_one _ _) ?_))
    refine bodyPost_ret (v := .agg (row .u8 (kb))) ?_ rfl ⟨rfl, below_setRow C3.out (Nat.le_refl _) _⟩
    exact results_cell_row rfl _ _ w.heap.size 119 _ (0, 0) _ rfl (setRow_heap _ _ _ _ _ _ C1.out) Tryz.underlying119 rfl HS.out
end Go.Proofs.YtbdlegjklfkdmaaGreatDoor.Pl
