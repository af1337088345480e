/- What the document's head, read, Read, Check and May of layer 6 answer. What the document's read, Read, Check and May of layer 6 answer: read calls itself. What the document's Data, Atom, Num, Kind, Text, and what makes a term of parts, answer. What the document's made answers, of whatever parts; Row, Hash, Mac, Seal. What the document's parts of a term answers: a row of texts that the call owns. What the document's Places, Parts, Size, depth, Depth, In and Has of layer 6 answer: Places and depth call themselves. What the document's Parts, Size, depth, Depth, In and Has of layer 6 answer. The places of a text of terms, one behind the other: where each begins, how deep it is, where its head ends, how many parts it has; plain mathematics alone. What term's need, textSize and rowHead answer, and what they throw. What term.isName answers. What the document's Row, Hash, Mac, Seal, Text and ReadNum of layer 6 answer. What the document's ReadNum of layer 6 answers: the number in a datum. What the document's Subs of layer 6 answers: what stands at the places, each once, in order. What the document's Same of layer 6 answers: are two rows of texts alike? What Long of layer 6 tells of a row of texts. -/
import Derived.Test.YthemopejebioaaaGreatWireY1
import Derived.Laws.OwnMore
import Derived.OwnWalk
import Derived.Maps.AppendAt
import Derived.WalkLawsBesides
import Derived.Laws.RangeString
import Derived.Laws.RangeAny
import Derived.Lib.RuneBytes
import Derived.Laws.Cover4
import Derived.Lib.OthersKept
import Derived.Lib.Hide
namespace Go.Proofs.YthemopejebioaaaGreat.Pl
open Go.RowKit

def hd3 (h : Nat × Nat × Nat) : Value := .tuple #[.int .i64 h.1, .int .i64 h.2.1, .int .i64 h.2.2]
set_option maxHeartbeats 2000000 in
set_option maxRecDepth 100000 in
theorem rhead_any (s : ByteArray) (hs : s.size ≤ 281474976710656) (w : World) :
    Calls Tryz.prog 114 #[.string s] w fun e w' => e = .returned (hd3 (headP (bl s))) ∧ Below w.heap.size w w' := by
  by_cases h0 : s.size = 0
  · have HZ : Hid (headP (bl s) = (0, 0, 6)) := Lib.hid (by rw [bl_nil h0]; rfl)
    obtain rfl : s = ⟨#[]⟩ := bl_inj (bl_nil h0)
    clear h0 hs
    go_enter Tryz.func114, Tryz.ntmps114
    go_wp2_with fail
    go_ret3
    exact ⟨by rw [HZ.out]; rfl, Below.refl _ _⟩
  · have hpos : 0 < s.size := by omega
    have q0 : ((s.size : Int) == 0) = false := by rw [beq_eq_false_iff_ne]; omega
    obtain ⟨b, hb⟩ : ∃ b : UInt8, b = (bl s).getD 0 0 := ⟨_, rfl⟩
    have i1 : ∀ V : World, (Instr.index 9 (.string s) (.int .i64 0)).run Tryz.prog V = .ok (.int .u8 (b.toNat : Int)) V := tstr_index s 0 b hpos hb
    have sl : ∀ V : World, (Instr.sliceAt 9 (.string s) (some (.int .i64 1)) none none).run Tryz.prog V = .ok (.string (s.extract 1 s.size)) V := tslice_from s 1 (by omega)
    have hc : bl s = b :: (bl s).drop 1 := by rw [hb]; exact bl_cons hpos
    have hx : bl (s.extract 1 s.size) = (bl s).drop 1 := bl_from s 1
    have hxs : (s.extract 1 s.size).size ≤ 281474976710656 := by rw [size_bl, hx, List.length_drop, bl_length]; omega
    rw [← hx] at hc
    obtain ⟨z, hz⟩ : ∃ z, z = headP (bl s) := ⟨_, rfl⟩
    rw [← hz]
    rw [hc] at hz
    generalize s.extract 1 s.size = x at *
    have HT := Lib.hid (fun (m : Int) (m1 : -9223372036854775808 ≤ m) (m2 : m ≤ 9223372036854775807) V => refreadtext_any x m V (by omega) m1 m2)
    have HR := Lib.hid (fun V => refreadnum_any x (by omega) V)
    have HXS := Lib.hid hxs
    obtain ⟨n, hn⟩ : ∃ n, n = b.toNat := ⟨_, rfl⟩
    have b_of : ∀ c : UInt8, b = c ↔ n = c.toNat := fun c => by rw [hn]; exact ⟨fun e => by rw [e], fun e => UInt8.toNat_inj.1 e⟩
    rw [← hn] at i1
    simp only [headP] at hz
    have hbl : x.data.toList = bl x := rfl
    have ef : ∀ m : Nat, n ≠ m → ((n : Int) == (m : Int)) = false := fun m h => by rw [beq_eq_false_iff_ne]; omega
    by_cases e100 : n = 100
    · rw [if_pos ((b_of 100).2 e100)] at hz
      obtain ⟨r, hr⟩ : ∃ r, r = rdt (bl x) 1024 := ⟨_, rfl⟩
      have hsz := rdt_size (bl x) 1024
      rw [← hr] at hz hsz
      have hT := HT.out 1024 (by decide) (by decide)
      rw [hbl, ← hr] at hT
      have HTT := Lib.hid hT
      have HZ := Lib.hid hz
      obtain ⟨t, k, f⟩ := r
      have hk : k ≤ 281474976710656 := by rw [bl_length] at hsz; have := HXS.out; simp only at hsz; omega
      subst e100
      clear hb hc hx hxs hz hr hsz hn b_of HT HR hT hs h0 ef
      go_enter Tryz.func114, Tryz.ntmps114
      go_wp2_with fail
      refine (HTT.out w).mono ?_; rintro e w1 ⟨rfl, b1⟩
      have B1 := Lib.hid b1
      clear b1
      go_wp2_with fail
      go_ret3
      exact ⟨by rw [HZ.out]; simp [hd3], B1.out⟩
    · rw [if_neg (fun e => e100 ((b_of 100).1 e))] at hz
      have q100 := ef 100 e100
      by_cases e97 : n = 97
      · rw [if_pos ((b_of 97).2 e97)] at hz
        obtain ⟨r, hr⟩ : ∃ r, r = rdt (bl x) 32 := ⟨_, rfl⟩
        have hsz := rdt_size (bl x) 32
        have hsd : ∀ t k, r = (t, k, 0) → t.length ≤ 32 := fun t k e => by have := (rdt_sound (hr.symm.trans e)).2.2.1; omega
        rw [← hr] at hz hsz
        have hT := HT.out 32 (by decide) (by decide)
        rw [hbl, ← hr] at hT
        have HTT := Lib.hid hT
        have HZ := Lib.hid hz
        obtain ⟨t, k, f⟩ := r
        have hk : k ≤ 281474976710656 := by rw [bl_length] at hsz; have := HXS.out; simp only at hsz; omega
        have HSD := Lib.hid (fun e : f = 0 => hsd t k (by rw [e]))
        subst e97
        clear hb hc hx hxs hz hr hsz hn b_of HT HR hT hs h0 ef hsd e100
        by_cases hf : f = 0
        · have HN := Lib.hid (fun V => rname_any ⟨t.toArray⟩ (by have := HSD.out hf; simp only [size_lit]; omega) V)
          rw [bl_mk] at HN
          subst hf
          cases hno : nameOK t with
          | true =>
            rw [hno] at HN
            have HQ : Hid (z = (1 + k, 0, 0)) := Lib.hid (by rw [HZ.out]; simp only [hno]; simp)
            clear hno
            go_enter Tryz.func114, Tryz.ntmps114
            go_wp2_with fail
            refine (HTT.out w).mono ?_; rintro e w1 ⟨rfl, b1⟩
            have B1 := Lib.hid b1
            clear b1
            go_wp2_with fail
            refine (HN.out _).mono ?_; rintro e w2 ⟨rfl, b2⟩
            have B2 := Lib.hid (below_step B1.out b2)
            clear b2
            go_wp2_with fail
            go_ret3
            exact ⟨by rw [HQ.out]; simp [hd3], B2.out⟩
          | false =>
            rw [hno] at HN
            have HQ : Hid (z = (0, 0, 7)) := Lib.hid (by rw [HZ.out]; simp only [hno]; simp)
            clear hno
            go_enter Tryz.func114, Tryz.ntmps114
            go_wp2_with fail
            refine (HTT.out w).mono ?_; rintro e w1 ⟨rfl, b1⟩
            have B1 := Lib.hid b1
            clear b1
            go_wp2_with fail
            refine (HN.out _).mono ?_; rintro e w2 ⟨rfl, b2⟩
            have B2 := Lib.hid (below_step B1.out b2)
            clear b2
            go_wp2_with fail
            go_ret3
            exact ⟨by rw [HQ.out]; simp [hd3], B2.out⟩
        · have qf : ((f : Int) == 0) = false := by rw [beq_eq_false_iff_ne]; omega
          have HQ : Hid (z = (1 + k, 0, f)) := Lib.hid (by rw [HZ.out, if_neg (fun h => hf h.1)])
          clear hf
          go_enter Tryz.func114, Tryz.ntmps114
          go_wp2_with fail
          refine (HTT.out w).mono ?_; rintro e w1 ⟨rfl, b1⟩
          have B1 := Lib.hid b1
          clear b1
          go_wp2_with fail
          go_ret3
          exact ⟨by rw [HQ.out]; simp [hd3], B1.out⟩
      · rw [if_neg (fun e => e97 ((b_of 97).1 e))] at hz
        have q97 := ef 97 e97
        by_cases e114 : n = 114
        · rw [if_pos ((b_of 114).2 e114)] at hz
          obtain ⟨r, hr⟩ : ∃ r, r = rdn (bl x) := ⟨_, rfl⟩
          have hT := HR.out
          rw [hbl, ← hr] at hT
          have HTT := Lib.hid hT
          rw [← hr] at hz
          have HZ := Lib.hid hz
          obtain ⟨v, k, f⟩ := r
          have hk : k ≤ 281474976710656 ∧ v < 18446744073709551616 := by
            rcases rdn_err hr.symm with e | ⟨e1, e2, _⟩
            · subst e
              have h1 := rdn_sound hr.symm
              have h2 := h1.2.1
              have h3 := h1.2.2.2
              rw [bl_length] at h2
              rw [two64] at h3
              have := HXS.out
              exact ⟨by omega, h3⟩
            · exact ⟨by omega, by omega⟩
          obtain ⟨hk, hv⟩ := hk
          have HVK : Hid (f ≠ 0 → v = 0 ∧ k = 0) := Lib.hid (fun h => (rdn_err hr.symm).elim (fun e => absurd e h) (fun e => ⟨e.1, e.2.1⟩))
          subst e114
          clear hb hc hx hxs hz hr hn b_of HT HR hT hs h0 ef e100 e97
          by_cases hf : f = 0
          · subst hf
            by_cases h32 : 32 < v
            · have HQ : Hid (z = (0, 0, 5)) := Lib.hid (by rw [HZ.out]; simp [h32])
              have h32' : (32 : Int) < (v : Int) := by omega
              clear h32
              go_enter Tryz.func114, Tryz.ntmps114
              go_wp2_with fail
              refine (HTT.out w).mono ?_; rintro e w1 ⟨rfl, b1⟩
              have B1 := Lib.hid b1
              clear b1
              go_wp2_with fail
              go_ret3
              exact ⟨by rw [HQ.out]; simp [hd3], B1.out⟩
            · have HQ : Hid (z = (1 + k, v, 0)) := Lib.hid (by rw [HZ.out]; simp [h32])
              have h32' : ¬ (32 : Int) < (v : Int) := by omega
              have hcv : ∀ V : World, (convert 99 3 (.int .u64 (v : Int))).run Tryz.prog V = .ok (.int .i64 (v : Int)) V := fun V => by
                have hw : IntKind.i64.wrap (v : Int) = (v : Int) := IntWalk.i64_in _ (by omega)
                go_simp
              clear h32
              go_enter Tryz.func114, Tryz.ntmps114
              go_wp2_with fail
              refine (HTT.out w).mono ?_; rintro e w1 ⟨rfl, b1⟩
              have B1 := Lib.hid b1
              clear b1
              go_wp2_with fail
              go_ret3
              exact ⟨by rw [HQ.out]; simp [hd3], B1.out⟩
          · have qf : ((f : Int) == 0) = false := by rw [beq_eq_false_iff_ne]; omega
            have HQ : Hid (z = (1 + k, v, f)) := Lib.hid (by rw [HZ.out, if_neg (fun h => hf h.1)])
            obtain ⟨rfl, rfl⟩ := HVK.out hf
            have hcv : ∀ V : World, (convert 99 3 (.int .u64 0)).run Tryz.prog V = .ok (.int .i64 0) V := fun V => by
              have hw : IntKind.i64.wrap 0 = 0 := by decide
              go_simp
            clear hf
            go_enter Tryz.func114, Tryz.ntmps114
            go_wp2_with fail
            refine (HTT.out w).mono ?_; rintro e w1 ⟨rfl, b1⟩
            have B1 := Lib.hid b1
            clear b1
            go_wp2_with fail
            go_ret3
            exact ⟨by rw [HQ.out]; simp [hd3], B1.out⟩
        · rw [if_neg (fun e => e114 ((b_of 114).1 e))] at hz
          have q114 := ef 114 e114
          by_cases e104 : n = 104
          · rw [if_pos ((b_of 104).2 e104)] at hz
            have HZ := Lib.hid hz
            subst e104
            clear hb hc hx hxs hz hn b_of HT HR hs h0 ef e100 e97 e114
            go_enter Tryz.func114, Tryz.ntmps114
            go_wp2_with fail
            go_ret3
            exact ⟨by rw [HZ.out]; rfl, Below.refl _ _⟩
          · rw [if_neg (fun e => e104 ((b_of 104).1 e))] at hz
            have q104 := ef 104 e104
            by_cases e109 : n = 109
            · rw [if_pos ((b_of 109).2 e109)] at hz
              have HZ := Lib.hid hz
              subst e109
              clear hb hc hx hxs hz hn b_of HT HR hs h0 ef e100 e97 e114 e104
              go_enter Tryz.func114, Tryz.ntmps114
              go_wp2_with fail
              go_ret3
              exact ⟨by rw [HZ.out]; rfl, Below.refl _ _⟩
            · rw [if_neg (fun e => e109 ((b_of 109).1 e))] at hz
              have q109 := ef 109 e109
              by_cases e115 : n = 115
              · rw [if_pos ((b_of 115).2 e115)] at hz
                have HZ := Lib.hid hz
                subst e115
                clear hb hc hx hxs hz hn b_of HT HR hs h0 ef e100 e97 e114 e104 e109
                go_enter Tryz.func114, Tryz.ntmps114
                go_wp2_with fail
                go_ret3
                exact ⟨by rw [HZ.out]; rfl, Below.refl _ _⟩
              · rw [if_neg (fun e => e115 ((b_of 115).1 e))] at hz
                have q115 := ef 115 e115
                have HZ := Lib.hid hz
                clear hb hc hx hxs hz hn b_of HT HR hs h0 ef e100 e97 e114 e104 e109 e115
                go_enter Tryz.func114, Tryz.ntmps114
                go_wp2_with fail
                go_ret3
                exact ⟨by rw [HZ.out]; rfl, Below.refl _ _⟩
def rd2 (h : Nat × Nat) : Value := .tuple #[.int .i64 h.1, .int .i64 h.2]
/-- Of k terms and the rest: as far as the first goes, then the others. -/
theorem loopP_add (rd : List UInt8 → Nat × Nat) : ∀ (i k : Nat) (s : List UInt8) (m : Nat), loopP rd i s = (m, 0) → loopP rd (i + k) s = if (loopP rd k (s.drop m)).2 = 0 then (m + (loopP rd k (s.drop m)).1, 0) else (0, (loopP rd k (s.drop m)).2)
  | 0, k, s, m, h => by
    simp only [loopP, Prod.mk.injEq, and_true] at h
    subst h
    rw [Nat.zero_add, List.drop_zero, Nat.zero_add]
    split
    · rename_i h; exact Prod.ext rfl h
    · rename_i h
      -- what is wrong bears no length
      cases k with
      | zero => exact absurd rfl h
      | succ k =>
        simp only [loopP] at h ⊢
        split at h
        · rename_i h1
          split at h
          · exact absurd rfl h
          · rename_i h2
            rw [if_pos h1, if_neg h2]
        · rename_i h1
          rw [if_neg h1]
  | i + 1, k, s, m, h => by
    rw [loopP] at h
    split at h
    · rename_i h1
      split at h
      · rename_i h2
        simp only [Prod.mk.injEq, and_true] at h
        have ih := loopP_add rd i k (s.drop (rd s).1) (loopP rd i (s.drop (rd s).1)).1 (Prod.ext rfl h2)
        rw [List.drop_drop, h] at ih
        rw [show i + 1 + k = (i + k) + 1 by omega, loopP, if_pos h1, ih]
        split
        · rename_i h3
          rw [if_pos rfl, ← h, Nat.add_assoc]
        · rfl
      · rename_i h2
        simp only [Prod.mk.injEq] at h
        exact absurd h.2 h2
    · rename_i h1
      simp only [Prod.mk.injEq] at h
      exact absurd h.2 h1
theorem loopP_one (rd : List UInt8 → Nat × Nat) (s : List UInt8) : loopP rd 1 s = if (rd s).2 = 0 then ((rd s).1, 0) else (0, (rd s).2) := by
  simp [loopP]
end Go.Proofs.YthemopejebioaaaGreat.Pl

namespace Go.Proofs.YthemopejebioaaaGreat.Pl
open Go.RowKit

theorem head_err {s : List UInt8} (h : (headP s).2.2 ≠ 0) : (headP s).2.1 = 0 := by
  cases s with
  | nil => rfl
  | cons b r =>
    simp only [headP] at h ⊢
    split
    · rfl
    · rename_i h100
      rw [if_neg h100] at h
      split
      · rename_i h97
        rw [if_pos h97] at h
        split <;> rfl
      · rename_i h97
        rw [if_neg h97] at h
        split
        · rename_i h114
          rw [if_pos h114] at h
          split
          · rfl
          · rename_i hno
            rw [if_neg hno] at h
            simp only at h ⊢
            rcases rdn_err (l := r) (v := (rdn r).1) (n := (rdn r).2.1) (e := (rdn r).2.2) rfl with e | e
            · exact absurd e h
            · exact e.1
        · rename_i h114
          rw [if_neg h114] at h
          split
          · rename_i h104; rw [if_pos h104] at h; exact absurd rfl h
          · rename_i h104
            rw [if_neg h104] at h
            split
            · rename_i h109; rw [if_pos h109] at h; exact absurd rfl h
            · rename_i h109
              rw [if_neg h109] at h
              split
              · rename_i h115; rw [if_pos h115] at h; exact absurd rfl h
              · rfl
theorem head_parts {s : List UInt8} {n p : Nat} (h : headP s = (n, p, 0)) : p ≤ 32 := by
  obtain ⟨c, hk⟩ := head_kind (head_front h).2
  cases hk <;> omega
theorem loopP_good {rd : List UInt8 → Nat × Nat} {i : Nat} {s : List UInt8} {m : Nat} (h : loopP rd i s = (m, 0)) (k : (rd (s.drop m)).2 = 0) : loopP rd (i + 1) s = (m + (rd (s.drop m)).1, 0) := by
  have e := loopP_add rd i 1 s m h
  rw [loopP_one, if_pos k] at e
  rw [e]; rfl
theorem loopP_bad {rd : List UInt8 → Nat × Nat} {i p : Nat} {s : List UInt8} {m : Nat} (h : loopP rd i s = (m, 0)) (hi : i < p) (k : (rd (s.drop m)).2 ≠ 0) : (loopP rd p s).2 = (rd (s.drop m)).2 := by
  obtain ⟨q, rfl⟩ : ∃ q, p = i + (q + 1) := ⟨p - i - 1, by omega⟩
  have e1 : loopP rd (q + 1) (s.drop m) = (0, (rd (s.drop m)).2) := by rw [loopP, if_neg k]
  have e := loopP_add rd i (q + 1) s m h
  rw [e1] at e
  rw [e, if_neg k]
theorem readP_len (d : Nat) (s : List UInt8) (n : Nat) (h : readP d s = (n, 0)) : n ≤ s.length := by
  obtain ⟨t, _, _, e1, e2⟩ := read_sound d s n h
  have := congrArg List.length e2
  rw [List.length_append, ← e1] at this
  omega
theorem readP_err (d : Nat) (s : List UInt8) (h : (readP d s).2 ≠ 0) : (readP d s).1 = 0 := by
  cases d with
  | zero => rfl
  | succ d =>
    simp only [readP] at h ⊢
    split
    · rename_i h1
      rw [if_pos h1] at h
      split
      · rename_i h2
        rw [if_pos h2] at h
        exact absurd rfl h
      · rfl
    · rfl

set_option maxHeartbeats 4000000 in
set_option maxRecDepth 100000 in
theorem rread_any (d : Nat) : ∀ (s : ByteArray) (w : World), d ≤ 16 → s.size ≤ 281474976710656 →
    Calls Tryz.prog 115 #[.string s, .int .i64 (17 - (d : Int))] w fun e w' => e = .returned (rd2 (readP d (bl s))) ∧ Below w.heap.size w w' := by
  induction d with
  | zero =>
    intro s w _ _
    obtain ⟨D, hD⟩ : ∃ D : Int, D = 17 - ((0 : Nat) : Int) := ⟨_, rfl⟩
    rw [← hD]
    have hD' : D = 17 := by omega
    subst hD'
    clear hD
    go_enter Tryz.func115, Tryz.ntmps115
    go_wp2_with fail
    go_ret2
    exact ⟨rfl, Below.refl _ _⟩
  | succ d ih =>
    intro s w hd hs
    obtain ⟨D, hD⟩ : ∃ D : Int, D = 17 - ((d + 1 : Nat) : Int) := ⟨_, rfl⟩
    have IH : Hid (∀ (x : ByteArray) (V : World), x.size ≤ 281474976710656 → Calls Tryz.prog 115 #[.string x, .int .i64 (D + 1)] V fun e w' => e = .returned (rd2 (readP d (bl x))) ∧ Below V.heap.size V w') := Lib.hid (fun x V hx => by
      have h := ih x V (by omega) hx
      rw [show (17 - (d : Int)) = D + 1 by omega] at h
      exact h)
    rw [← hD]
    have hD1 : D ≤ 16 := by omega
    have hD0 : 0 ≤ D := by omega
    have HH := Lib.hid (rhead_any s hs w)
    obtain ⟨z, hz⟩ : ∃ z, z = readP (d + 1) (bl s) := ⟨_, rfl⟩
    rw [← hz]
    simp only [readP] at hz
    have HE := Lib.hid (head_err (s := bl s))
    have HF := Lib.hid (fun n p (e : headP (bl s) = (n, p, 0)) => And.intro (head_front e).1 (head_parts e))
    generalize headP (bl s) = hd at *
    obtain ⟨h, p, e⟩ := hd
    simp only at hz HE HF
    have HSZ := Lib.hid hs
    clear ih hd hD hs
    by_cases he : e = 0
    · subst he
      rw [if_pos rfl] at hz
      have hle : h ≤ s.size := by rw [← bl_length]; exact (HF.out h p rfl).1
      have hp : p ≤ 32 := (HF.out h p rfl).2
      have HZ := Lib.hid hz
      have HLE := Lib.hid hle
      clear hz hle HE HF
      go_enter Tryz.func115, Tryz.ntmps115
      go_wp2_with fail
      refine HH.out.mono ?_; rintro e w1 ⟨rfl, b1⟩
      have B1 := Lib.hid b1
      clear b1
      unfold hd3
      go_wp2_with fail
      go_loopw [6, 8, 9] (fun nv ev iv wr => ∃ i n e : Nat, nv = .int .i64 n ∧ ev = .int .i64 e ∧ iv = .int .i64 i ∧ i ≤ p ∧ n ≤ 281474976710656 ∧ Hid (e = 0 → loopP (readP d) i ((bl s).drop h) = (n - h, 0) ∧ h ≤ n ∧ n ≤ s.size) ∧ Hid (e ≠ 0 → (loopP (readP d) p ((bl s).drop h)).2 = e) ∧ Hid (Below w.heap.size w wr)) (fun _ _ iv _ => p - (intOf iv).toNat)
      case atStart => exact ⟨0, h, 0, rfl, rfl, rfl, Nat.zero_le _, by have := HLE.out; have := HSZ.out; omega, Lib.hid (fun _ => ⟨by rw [Nat.sub_self]; rfl, Nat.le_refl _, HLE.out⟩), Lib.hid (fun h => absurd rfl h), B1⟩
      case round =>
        obtain ⟨i, n, e, rfl, rfl, rfl, hip, hn, hok, hbad, hb⟩ := hrel
        by_cases he : e = 0
        · subst he
          obtain ⟨l1, l2, l3⟩ := hok.out rfl
          by_cases hi : i < p
          · have hi' : (i : Int) < (p : Int) := by omega
            have sl : ∀ V : World, (Instr.sliceAt 9 (.string s) (some (.int .i64 (n : Int))) none none).run Tryz.prog V = .ok (.string (s.extract n s.size)) V := tslice_from s n l3
            have hx : bl (s.extract n s.size) = ((bl s).drop h).drop (n - h) := by rw [bl_from, List.drop_drop, show h + (n - h) = n by omega]
            have hxs : (s.extract n s.size).size ≤ 281474976710656 := by rw [size_bl, bl_from, List.length_drop, bl_length]; have := HSZ.out; omega
            have hC := IH.out (s.extract n s.size) wr hxs
            have hadd1 := loopP_good l1 (rd := readP d)
            have haddp := loopP_bad l1 hi (rd := readP d)
            rw [← hx] at hadd1 haddp
            have hlen := readP_len d (bl (s.extract n s.size)) (readP d (bl (s.extract n s.size))).1
            have herr := readP_err d (bl (s.extract n s.size))
            have hxl : (bl (s.extract n s.size)).length = s.size - n := by rw [bl_from, List.length_drop, bl_length]
            generalize s.extract n s.size = x at *
            obtain ⟨r, hr⟩ : ∃ r, r = readP d (bl x) := ⟨_, rfl⟩
            rw [← hr] at hadd1 haddp hC hlen herr
            obtain ⟨m, f⟩ := r
            simp only at hadd1 haddp hlen herr
            have hm : n + m ≤ 281474976710656 := by
              by_cases hf : f = 0
              · have := hlen (by rw [hf]); rw [hxl] at this; have := HSZ.out; omega
              · rw [herr hf]; omega
            have HNEW : Hid (f = 0 → loopP (readP d) (i + 1) ((bl s).drop h) = (n + m - h, 0) ∧ h ≤ n + m ∧ n + m ≤ s.size) := Lib.hid (fun hf => by
              have e1 := hlen (by rw [hf])
              rw [hxl] at e1
              exact ⟨by rw [hadd1 hf, show n + m - h = n - h + m by omega], by omega, by omega⟩)
            have HBAD : Hid (f ≠ 0 → (loopP (readP d) p ((bl s).drop h)).2 = f) := Lib.hid (fun hf => haddp hf)
            have HC := Lib.hid hC
            clear l1 l2 l3 hx hxs hC hadd1 haddp hlen herr hxl hok hbad hr
            go_wp2_with fail
            refine HC.out.mono ?_; rintro e w2 ⟨rfl, b2⟩
            have B2 := Lib.hid (below_step hb.out b2)
            clear b2
            unfold rd2
            go_wp2_with fail
            go_roundw
            case rel => exact ⟨i + 1, n + m, f, by go_num, rfl, by go_num, by omega, hm, HNEW, HBAD, B2⟩
            case measure => simp [intOf]; omega
          · obtain rfl : i = p := by omega
            have HQ : Hid (z = (n, 0)) := Lib.hid (by rw [HZ.out, l1, if_pos rfl]; simp only; rw [show h + (n - h) = n by omega])
            clear hi l1 l2 l3
            go_wp2_with fail
            go_ret2
            exact ⟨by rw [HQ.out]; rfl, hb.out⟩
        · have HQ : Hid (z = (0, e)) := Lib.hid (by
            have e1 := hbad.out he
            rw [HZ.out, if_neg (by rw [e1]; exact he), e1])
          have qe : ((e : Int) == 0) = false := by rw [beq_eq_false_iff_ne]; omega
          have qe2 : ((e : Int) != 0) = true := by rw [bne_iff_ne]; omega
          clear he
          by_cases hi : i < p
          · have hi' : (i : Int) < (p : Int) := by omega
            go_wp2_with fail
            go_ret2
            exact ⟨by rw [HQ.out]; rfl, hb.out⟩
          · have hi' : ¬ (i : Int) < (p : Int) := by omega
            go_wp2_with fail
            go_ret2
            exact ⟨by rw [HQ.out]; rfl, hb.out⟩
    · have hp : p = 0 := HE.out he
      subst hp
      rw [if_neg he] at hz
      have HZ := Lib.hid hz
      have qe : ((e : Int) == 0) = false := by rw [beq_eq_false_iff_ne]; omega
      have qe2 : ((e : Int) != 0) = true := by rw [bne_iff_ne]; omega
      clear hz HE HF he
      go_enter Tryz.func115, Tryz.ntmps115
      go_wp2_with fail
      refine HH.out.mono ?_; rintro e w1 ⟨rfl, b1⟩
      have B1 := Lib.hid b1
      clear b1
      unfold hd3
      go_wp2_with fail
      refine wp_loop_rounds 1 ?_; rw [rounds_succ]; go_wp2_with fail
      go_ret2
      exact ⟨by rw [HZ.out]; rfl, B1.out⟩

set_option maxRecDepth 100000 in
theorem rfront_any (s : ByteArray) (hs : s.size ≤ 281474976710656) (w : World) :
    Calls Tryz.prog 111 #[.string s] w fun e w' => e = .returned (rd2 (frontP (bl s))) ∧ Below w.heap.size w w' := by
  have HC := Lib.hid (rread_any 16 s w (Nat.le_refl _) hs)
  rw [show (17 - ((16 : Nat) : Int)) = 1 by decide] at HC
  obtain ⟨z, hz⟩ : ∃ z, z = frontP (bl s) := ⟨_, rfl⟩
  rw [← hz]
  unfold frontP at hz
  have HL := Lib.hid (fun n e => readP_len 16 (bl s) n e)
  generalize readP 16 (bl s) = r at *
  obtain ⟨m, f⟩ := r
  simp only at hz
  by_cases hf : f = 0
  · subst hf
    rw [if_pos rfl] at hz
    have hm := HL.out m rfl
    rw [bl_length] at hm
    by_cases h16 : 16384 < m
    · have HZ := Lib.hid (hz.trans (if_pos h16))
      have h16' : (16384 : Int) < (m : Int) := by omega
      clear hz h16 hs hm
      go_enter Tryz.func111, Tryz.ntmps111
      go_wp2_with fail
      refine HC.out.mono ?_; rintro e w1 ⟨rfl, b1⟩
      have B1 := Lib.hid b1
      clear b1
      unfold rd2
      go_wp2_with fail
      go_ret2
      exact ⟨by rw [HZ.out]; rfl, B1.out⟩
    · have HZ := Lib.hid (hz.trans (if_neg h16))
      have h16' : ¬ (16384 : Int) < (m : Int) := by omega
      clear hz h16 hs hm
      go_enter Tryz.func111, Tryz.ntmps111
      go_wp2_with fail
      refine HC.out.mono ?_; rintro e w1 ⟨rfl, b1⟩
      have B1 := Lib.hid b1
      clear b1
      unfold rd2
      go_wp2_with fail
      go_ret2
      exact ⟨by rw [HZ.out]; rfl, B1.out⟩
  · have HZ := Lib.hid (hz.trans (if_neg hf))
    have qf : ((f : Int) != 0) = true := by rw [bne_iff_ne]; omega
    clear hz hf hs
    go_enter Tryz.func111, Tryz.ntmps111
    go_wp2_with fail
    refine HC.out.mono ?_; rintro e w1 ⟨rfl, b1⟩
    have B1 := Lib.hid b1
    clear b1
    unfold rd2
    go_wp2_with fail
    go_ret2
    exact ⟨by rw [HZ.out]; rfl, B1.out⟩

set_option maxRecDepth 100000 in
theorem rcheck6_any (s : ByteArray) (hs : s.size ≤ 281474976710656) (w : World) :
    Calls Tryz.prog 88 #[.string s] w fun e w' => e = .returned (.int .i64 (checkP (bl s))) ∧ Below w.heap.size w w' := by
  have HC := Lib.hid (rfront_any s hs w)
  obtain ⟨z, hz⟩ : ∃ z, z = checkP (bl s) := ⟨_, rfl⟩
  rw [← hz]
  unfold checkP at hz
  rw [bl_length] at hz
  generalize frontP (bl s) = r at *
  obtain ⟨m, f⟩ := r
  simp only at hz
  by_cases hf : f = 0
  · subst hf
    rw [if_pos rfl] at hz
    by_cases hm : m = s.size
    · have HZ := Lib.hid (hz.trans (if_pos hm))
      have q : ((m : Int) != (s.size : Int)) = false := by rw [hm]; simp
      clear hz hm hs
      go_enter Tryz.func88, Tryz.ntmps88
      go_wp2_with fail
      refine HC.out.mono ?_; rintro e w1 ⟨rfl, b1⟩
      have B1 := Lib.hid b1
      clear b1
      unfold rd2
      go_wp2_with fail
      go_ret
      exact ⟨by rw [HZ.out]; rfl, B1.out⟩
    · have HZ := Lib.hid (hz.trans (if_neg hm))
      have q : ((m : Int) != (s.size : Int)) = true := by rw [bne_iff_ne]; omega
      clear hz hm hs
      go_enter Tryz.func88, Tryz.ntmps88
      go_wp2_with fail
      refine HC.out.mono ?_; rintro e w1 ⟨rfl, b1⟩
      have B1 := Lib.hid b1
      clear b1
      unfold rd2
      go_wp2_with fail
      go_ret
      exact ⟨by rw [HZ.out]; rfl, B1.out⟩
  · have HZ := Lib.hid (hz.trans (if_neg hf))
    have qf : ((f : Int) != 0) = true := by rw [bne_iff_ne]; omega
    clear hz hf hs
    go_enter Tryz.func88, Tryz.ntmps88
    go_wp2_with fail
    refine HC.out.mono ?_; rintro e w1 ⟨rfl, b1⟩
    have B1 := Lib.hid b1
    clear b1
    unfold rd2
    go_wp2_with fail
    go_ret
    exact ⟨by rw [HZ.out]; rfl, B1.out⟩
theorem rmay_any (s : ByteArray) (hs : s.size ≤ 281474976710656) (w : World) :
    Calls Tryz.prog 43 #[.string s] w fun e w' => e = .returned (.bool (checkP (bl s) == 0)) ∧ Below w.heap.size w w' := by
  have HC := Lib.hid (rcheck6_any s hs w)
  have q : (((checkP (bl s) : Nat) : Int) == 0) = (checkP (bl s) == 0) := by
    cases e : checkP (bl s) == 0 with
    | true => rw [beq_iff_eq] at e ⊢; omega
    | false => rw [beq_eq_false_iff_ne] at e ⊢; omega
  generalize checkP (bl s) = c at *
  go_enter Tryz.func43, Tryz.ntmps43
  go_wp2_with fail
  refine HC.out.mono ?_; rintro e w1 ⟨rfl, b1⟩
  have B1 := Lib.hid b1
  clear b1
  go_wp2_with fail
  go_ret
  exact ⟨rfl, B1.out⟩
end Go.Proofs.YthemopejebioaaaGreat.Pl

namespace Go.Proofs.YthemopejebioaaaGreat.Pl
open Go.RowKit

def st2 (h : List UInt8 × Nat) : Value := .tuple #[.string ⟨h.1.toArray⟩, .int .i64 h.2]
theorem cat_front (b : UInt8) (l : List UInt8) : (⟨#[b]⟩ ++ ⟨l.toArray⟩ : ByteArray) = ⟨(b :: l).toArray⟩ := by
  apply bl_inj
  unfold bl
  rw [ByteArray.data_append]
  simp
theorem txt_le (t : List UInt8) : (txt t).length ≤ 9 + t.length := by rw [txt_len]; have := enc_len t.length; omega

set_option maxRecDepth 100000 in
theorem rdata_any (s : ByteArray) (hs : s.size ≤ 281474976710656) (w : World) :
    Calls Tryz.prog 37 #[.string s] w fun e w' => e = .returned (st2 (dataP (bl s))) ∧ Below w.heap.size w w' := by
  have HT := Lib.hid (fun V => reftext_any s V (by omega))
  by_cases h : 1024 < s.size
  · have HZ : Hid (dataP (bl s) = ([], 5)) := Lib.hid (by unfold dataP; rw [bl_length]; exact if_pos h)
    have h' : (1024 : Int) < (s.size : Int) := by omega
    clear h hs
    go_enter Tryz.func37, Tryz.ntmps37
    go_wp2_with fail
    go_ret2
    exact ⟨by rw [HZ.out]; rfl, Below.refl _ _⟩
  · have HZ : Hid (dataP (bl s) = (100 :: txt (bl s), 0)) := Lib.hid (by unfold dataP; rw [bl_length]; exact if_neg h)
    have h' : ¬ (1024 : Int) < (s.size : Int) := by omega
    have hcat : (⟨#[100]⟩ : ByteArray).size + (⟨(txt s.data.toList).toArray⟩ : ByteArray).size ≤ 9223372036854775807 := by
      have h4 : (⟨(txt s.data.toList).toArray⟩ : ByteArray).size = (txt s.data.toList).length := size_lit _
      have := txt_le s.data.toList
      have h2 : s.data.toList.length = s.size := bl_length s
      have h3 : (⟨#[100]⟩ : ByteArray).size = 1 := rfl
      omega
    have HC : Hid ((⟨#[100]⟩ ++ ⟨(txt s.data.toList).toArray⟩ : ByteArray) = ⟨(100 :: txt (bl s)).toArray⟩) := Lib.hid (cat_front _ _)
    generalize (⟨(txt s.data.toList).toArray⟩ : ByteArray) = t at *
    clear h hs
    go_enter Tryz.func37, Tryz.ntmps37
    go_wp2_with fail
    refine (HT.out w).mono ?_; rintro e w1 ⟨rfl, b1⟩
    have B1 := Lib.hid b1
    clear b1
    go_wp2_with fail
    go_ret2
    exact ⟨by rw [HZ.out, st2, ← HC.out]; rfl, B1.out⟩

/-- The term of a number. -/
def numP (v : Int) : List UInt8 × Nat := if 0 ≤ v ∧ v ≤ 2147483647 then (100 :: txt (enc v.toNat), 0) else ([], 2)
theorem dataP_enc (v : Nat) : dataP (enc v) = (100 :: txt (enc v), 0) := by
  unfold dataP
  exact if_neg (by have := enc_len v; omega)
set_option maxRecDepth 100000 in
theorem rnum6_any (v : Int) (h0 : -9223372036854775808 ≤ v) (h1 : v ≤ 9223372036854775807) (w : World) :
    Calls Tryz.prog 85 #[.int .i64 v] w fun e w' => e = .returned (st2 (numP v)) ∧ Below w.heap.size w w' := by
  by_cases hn : v < 0
  · have HZ : Hid (numP v = ([], 2)) := Lib.hid (if_neg (by omega))
    go_enter Tryz.func85, Tryz.ntmps85
    go_wp2_with fail
    go_ret2
    exact ⟨by rw [HZ.out]; rfl, Below.refl _ _⟩
  · by_cases hm : 2147483647 < v
    · have HZ : Hid (numP v = ([], 2)) := Lib.hid (if_neg (by omega))
      go_enter Tryz.func85, Tryz.ntmps85
      go_wp2_with fail
      go_ret2
      exact ⟨by rw [HZ.out]; rfl, Below.refl _ _⟩
    · obtain ⟨n, rfl⟩ := Int.eq_ofNat_of_zero_le (show 0 ≤ v by omega)
      have HZ : Hid (numP (n : Int) = dataP (enc n)) := Lib.hid (by rw [dataP_enc]; exact if_pos ⟨by omega, by omega⟩)
      have hcv : ∀ V : World, (convert 3 99 (.int .i64 (n : Int))).run Tryz.prog V = .ok (.int .u64 (n : Int)) V := fun V => by
        have hw : IntKind.u64.wrap (n : Int) = (n : Int) := IntWalk.u64_in _ (by omega)
        go_simp
      have HN := Lib.hid (fun V => refnum_any n (by rw [two64]; omega) V)
      have HD := Lib.hid (fun V => rdata_any ⟨(enc n).toArray⟩ (by rw [size_lit]; have := enc_len n; omega) V)
      rw [bl_mk] at HD
      generalize (⟨(enc n).toArray⟩ : ByteArray) = t at *
      clear h0 h1
      go_enter Tryz.func85, Tryz.ntmps85
      go_wp2_with fail
      refine (HN.out w).mono ?_; rintro e w1 ⟨rfl, b1⟩
      have B1 := Lib.hid b1
      clear b1
      go_wp2_with fail
      refine (HD.out w1).mono ?_; rintro e w2 ⟨rfl, b2⟩
      have B2 := Lib.hid (below_step B1.out b2)
      clear b2
      unfold st2
      go_wp2_with fail
      go_ret2
      exact ⟨by rw [HZ.out]; rfl, B2.out⟩

set_option maxHeartbeats 1000000 in
set_option maxRecDepth 100000 in
theorem rkind_any (s : ByteArray) (hs : s.size ≤ 281474976710656) (w : World) :
    Calls Tryz.prog 50 #[.string s] w fun e w' => e = .returned (.int .u8 (kindP (bl s))) ∧ Below w.heap.size w w' := by
  have HM := Lib.hid (rmay_any s hs w)
  obtain ⟨z, hz⟩ : ∃ z, z = kindP (bl s) := ⟨_, rfl⟩
  rw [← hz]
  unfold kindP at hz
  by_cases hc : checkP (bl s) = 0
  · rw [if_pos hc] at hz
    rw [show (checkP (bl s) == 0) = true by rw [hc]; rfl] at HM
    have hpos : 0 < s.size := by
      rcases Nat.eq_zero_or_pos s.size with h | h
      · rw [bl_nil h] at hc; exact absurd hc (by decide)
      · exact h
    obtain ⟨b, hb⟩ : ∃ b : UInt8, b = (bl s).getD 0 0 := ⟨_, rfl⟩
    have i1 : ∀ V : World, (Instr.index 9 (.string s) (.int .i64 0)).run Tryz.prog V = .ok (.int .u8 (b.toNat : Int)) V := tstr_index s 0 b hpos hb
    have hq := bl_cons hpos
    rw [← hb] at hq
    rw [hq] at hz
    simp only at hz
    obtain ⟨n, hn⟩ : ∃ n, n = b.toNat := ⟨_, rfl⟩
    have b_of : ∀ c : UInt8, b = c ↔ n = c.toNat := fun c => by rw [hn]; exact ⟨fun e => by rw [e], fun e => UInt8.toNat_inj.1 e⟩
    rw [← hn] at i1
    have ef : ∀ m : Nat, n ≠ m → ((n : Int) == (m : Int)) = false := fun m h => by rw [beq_eq_false_iff_ne]; omega
    clear hq hb hn hc hs
    have hcs : n = 100 ∨ n = 97 ∨ n = 114 ∨ n = 104 ∨ n = 109 ∨ (n ≠ 100 ∧ n ≠ 97 ∧ n ≠ 114 ∧ n ≠ 104 ∧ n ≠ 109) := by omega
    have q1 : n ≠ 100 → ((n : Int) == 100) = false := ef 100
    have q2 : n ≠ 97 → ((n : Int) == 97) = false := ef 97
    have q3 : n ≠ 114 → ((n : Int) == 114) = false := ef 114
    have q4 : n ≠ 104 → ((n : Int) == 104) = false := ef 104
    have q5 : n ≠ 109 → ((n : Int) == 109) = false := ef 109
    simp only [b_of] at hz
    clear ef b_of
    rcases hcs with h | h | h | h | h | ⟨g1, g2, g3, g4, g5⟩
    · subst h
      have HZ : Hid (z = 1) := Lib.hid hz
      clear hz q1 q2 q3 q4 q5
      go_enter Tryz.func50, Tryz.ntmps50
      go_wp2_with fail
      refine HM.out.mono ?_; rintro e w1 ⟨rfl, b1⟩
      have B1 := Lib.hid b1
      clear b1
      go_wp2_with fail
      go_ret
      exact ⟨by rw [HZ.out]; rfl, B1.out⟩
    · subst h
      have HZ : Hid (z = 2) := Lib.hid hz
      clear hz q1 q2 q3 q4 q5
      go_enter Tryz.func50, Tryz.ntmps50
      go_wp2_with fail
      refine HM.out.mono ?_; rintro e w1 ⟨rfl, b1⟩
      have B1 := Lib.hid b1
      clear b1
      go_wp2_with fail
      go_ret
      exact ⟨by rw [HZ.out]; rfl, B1.out⟩
    · subst h
      have HZ : Hid (z = 3) := Lib.hid hz
      clear hz q1 q2 q3 q4 q5
      go_enter Tryz.func50, Tryz.ntmps50
      go_wp2_with fail
      refine HM.out.mono ?_; rintro e w1 ⟨rfl, b1⟩
      have B1 := Lib.hid b1
      clear b1
      go_wp2_with fail
      go_ret
      exact ⟨by rw [HZ.out]; rfl, B1.out⟩
    · subst h
      have HZ : Hid (z = 4) := Lib.hid hz
      clear hz q1 q2 q3 q4 q5
      go_enter Tryz.func50, Tryz.ntmps50
      go_wp2_with fail
      refine HM.out.mono ?_; rintro e w1 ⟨rfl, b1⟩
      have B1 := Lib.hid b1
      clear b1
      go_wp2_with fail
      go_ret
      exact ⟨by rw [HZ.out]; rfl, B1.out⟩
    · subst h
      have HZ : Hid (z = 5) := Lib.hid hz
      clear hz q1 q2 q3 q4 q5
      go_enter Tryz.func50, Tryz.ntmps50
      go_wp2_with fail
      refine HM.out.mono ?_; rintro e w1 ⟨rfl, b1⟩
      have B1 := Lib.hid b1
      clear b1
      go_wp2_with fail
      go_ret
      exact ⟨by rw [HZ.out]; rfl, B1.out⟩
    · have HZ : Hid (z = 6) := Lib.hid (by rw [hz, if_neg (show ¬ n = UInt8.toNat 100 from g1), if_neg (show ¬ n = UInt8.toNat 97 from g2), if_neg (show ¬ n = UInt8.toNat 114 from g3), if_neg (show ¬ n = UInt8.toNat 104 from g4), if_neg (show ¬ n = UInt8.toNat 109 from g5)])
      have p1 := q1 g1
      have p2 := q2 g2
      have p3 := q3 g3
      have p4 := q4 g4
      have p5 := q5 g5
      clear hz q1 q2 q3 q4 q5 g1 g2 g3 g4 g5
      go_enter Tryz.func50, Tryz.ntmps50
      go_wp2_with fail
      refine HM.out.mono ?_; rintro e w1 ⟨rfl, b1⟩
      have B1 := Lib.hid b1
      clear b1
      go_wp2_with fail
      go_ret
      exact ⟨by rw [HZ.out]; rfl, B1.out⟩
  · rw [if_neg hc] at hz
    rw [show (checkP (bl s) == 0) = false by rw [beq_eq_false_iff_ne]; exact hc] at HM
    have HZ := Lib.hid hz
    clear hz hc hs
    go_enter Tryz.func50, Tryz.ntmps50
    go_wp2_with fail
    refine HM.out.mono ?_; rintro e w1 ⟨rfl, b1⟩
    have B1 := Lib.hid b1
    clear b1
    go_wp2_with fail
    go_ret
    exact ⟨by rw [HZ.out]; rfl, B1.out⟩
end Go.Proofs.YthemopejebioaaaGreat.Pl

namespace Go.Proofs.YthemopejebioaaaGreat.Pl
open Go.RowKit

/-- A row of texts in memory, to read. -/
def TxtRow (w : World) (ao : Option Addr) (l : List ByteArray) : Prop := l = [] ∨ ∃ b off, ao = some ⟨b, off, none⟩ ∧ b < w.heap.size ∧ ∀ j, j < l.length → w.cell? ⟨b, off + j, none⟩ = some (.string (l.getD j ByteArray.empty))
theorem TxtRow.below {w w' : World} {ao : Option Addr} {l : List ByteArray} (h : TxtRow w ao l) (hb : Below w.heap.size w w') : TxtRow w' ao l := by
  rcases h with h | ⟨b, off, hg, hlt, hc⟩
  · exact .inl h
  · exact .inr ⟨b, off, hg, Nat.lt_of_lt_of_le hlt hb.size, fun j hj => (hb.cell (p := ⟨b, off + j, none⟩) hlt).trans (hc j hj)⟩
/-- The parts' bytes, one behind the other. -/
def catL (l : List ByteArray) (k : Nat) : List UInt8 := ((l.take k).map bl).flatten
theorem catL_zero (l : List ByteArray) : catL l 0 = [] := by simp [catL]
theorem catL_succ (l : List ByteArray) (k : Nat) (h : k < l.length) : catL l (k + 1) = catL l k ++ bl (l.getD k ByteArray.empty) := by
  unfold catL
  rw [List.take_succ_eq_append_getElem h, List.map_append, List.flatten_append]
  simp [List.getD_eq_getElem?_getD, h]
theorem catL_all (l : List ByteArray) (k : Nat) (h : l.length ≤ k) : catL l k = (l.map bl).flatten := by
  unfold catL; rw [List.take_of_length_le h]
theorem catL_le (l : List ByteArray) (k : Nat) : (catL l k).length ≤ ((l.map bl).flatten).length := by
  have e : (l.map bl).flatten = catL l k ++ ((l.drop k).map bl).flatten := by
    unfold catL
    rw [← List.flatten_append, ← List.map_append, List.take_append_drop]
  rw [e, List.length_append]; omega
theorem cat_bytes (a b : ByteArray) : bl (a ++ b) = bl a ++ bl b := by
  unfold bl
  rw [ByteArray.data_append, Array.toList_append]
theorem mem_getD6 {l : List ByteArray} {x : ByteArray} (h : x ∈ l) : ∃ k, k < l.length ∧ l.getD k ByteArray.empty = x := by
  obtain ⟨k, hk, rfl⟩ := List.getElem_of_mem h
  exact ⟨k, hk, by simp [List.getD_eq_getElem?_getD, hk]⟩
theorem getD_mem6 (l : List ByteArray) (k : Nat) (h : k < l.length) : l.getD k ByteArray.empty ∈ l := by
  rw [List.getD_eq_getElem?_getD, List.getElem?_eq_getElem h]; exact List.getElem_mem h

set_option maxHeartbeats 4000000 in
set_option maxRecDepth 100000 in
theorem made_any (front : ByteArray) (l : List ByteArray) (ao : Option Addr) (cap : Nat) (hf : front.size ≤ 100) (hl : l.length ≤ 1000) (hx : ∀ x ∈ l, x.size ≤ 100000) (w : World) (hrow : TxtRow w ao l) :
    Calls Tryz.prog 86 #[.string front, .slice ao l.length cap] w fun e w' => e = .returned (st2 (madeP (bl front) (l.map bl))) ∧ Below w.heap.size w w' := by
  have HROW := Lib.hid hrow
  obtain ⟨z, hz⟩ : ∃ z, z = madeP (bl front) (l.map bl) := ⟨_, rfl⟩
  rw [← hz]
  unfold madeP at hz
  have HBAD : Hid (∀ k, k < l.length → checkP (bl (l.getD k ByteArray.empty)) ≠ 0 → z = ([], 2)) := Lib.hid (fun k hk hc => by
    rw [hz, if_neg]
    intro h
    exact hc (h _ (List.mem_map.2 ⟨_, getD_mem6 l k hk, rfl⟩)))
  have HOK : Hid ((∀ k, k < l.length → checkP (bl (l.getD k ByteArray.empty)) = 0) → z = if checkP (bl front ++ (l.map bl).flatten) = 0 then (bl front ++ (l.map bl).flatten, 0) else ([], 5)) := Lib.hid (fun h => by
    rw [hz, if_pos]
    intro x hx
    obtain ⟨y, hy, rfl⟩ := List.mem_map.1 hx
    obtain ⟨k, hk, rfl⟩ := mem_getD6 hy
    exact h k hk)
  have HX : Hid (∀ k, k < l.length → (l.getD k ByteArray.empty).size ≤ 100000) := Lib.hid (fun k hk => hx _ (getD_mem6 l k hk))
  obtain ⟨n, hn⟩ : ∃ n, n = l.length := ⟨_, rfl⟩
  have HN := Lib.hid hn
  have HFR := Lib.hid hf
  rw [← hn] at hl ⊢
  clear hz hx hrow hn hf
  go_enter Tryz.func86, Tryz.ntmps86
  go_wp2_with fail
  go_loopw [7] (fun i wr => ∃ k : Nat, i = .int .i64 k ∧ k ≤ n ∧ Hid (∀ j, j < k → checkP (bl (l.getD j ByteArray.empty)) = 0) ∧ Hid (Below w.heap.size w wr)) (fun i _ => n - (intOf i).toNat)
  case atStart => exact ⟨0, rfl, Nat.zero_le _, Lib.hid (fun j hj => absurd hj (Nat.not_lt_zero j)), Lib.hid (Below.refl _ _)⟩
  case round =>
    obtain ⟨k, rfl, hkn, hch, hb⟩ := hrel
    by_cases hk : k < n
    · have hk' : (k : Int) < (n : Int) := by omega
      rcases HROW.out.below hb.out with e | ⟨b, off, rfl, hlt, hc⟩
      · exfalso; have := HN.out; rw [e] at this; simp at this; omega
      have ck := hc k (by have := HN.out; omega)
      have HM := Lib.hid (rmay_any (l.getD k ByteArray.empty) (Nat.le_trans (HX.out k (by have := HN.out; omega)) (by decide)) wr)
      have HBK := Lib.hid (HBAD.out k (by have := HN.out; omega))
      have HNX : Hid (checkP (bl (l.getD k ByteArray.empty)) = 0 → ∀ j, j < k + 1 → checkP (bl (l.getD j ByteArray.empty)) = 0) := Lib.hid (fun h j hj => by
        by_cases e : j = k
        · rw [e]; exact h
        · exact hch.out j (by omega))
      generalize l.getD k ByteArray.empty = t at *
      clear hc hlt
      cases hq : (checkP (bl t) == 0) with
      | true =>
        rw [hq] at HM
        have HNN := Lib.hid (HNX.out (by simpa using hq))
        clear hq
        go_wp2_with fail
        refine HM.out.mono ?_; rintro e w2 ⟨rfl, b2⟩
        have B2 := Lib.hid (below_step hb.out b2)
        clear b2
        go_wp2_with fail
        go_roundw
        case rel => exact ⟨k + 1, by go_num, by omega, HNN, B2⟩
        case measure => simp [intOf]; omega
      | false =>
        rw [hq] at HM
        have HQ := Lib.hid (HBK.out (by simpa using hq))
        clear hq
        go_wp2_with fail
        refine HM.out.mono ?_; rintro e w2 ⟨rfl, b2⟩
        have B2 := Lib.hid (below_step hb.out b2)
        clear b2
        go_wp2_with fail
        go_ret2
        exact ⟨by rw [HQ.out]; rfl, B2.out⟩
    · obtain rfl : k = n := by omega
      have HZ := Lib.hid (HOK.out (fun j hj => hch.out j (by have := HN.out; omega)))
      clear hk hkn
      go_wp2_with fail
      go_loopw [6, 8] (fun sv i wr => ∃ (j : Nat) (t : ByteArray), sv = .string t ∧ i = .int .i64 j ∧ j ≤ k ∧ t.size ≤ 200000 ∧ Hid (bl t = bl front ++ catL l j) ∧ Hid (Below w.heap.size w wr)) (fun _ i _ => k - (intOf i).toNat)
      case atStart => exact ⟨0, front, rfl, rfl, Nat.zero_le _, by have := HFR.out; omega, Lib.hid (by rw [catL_zero, List.append_nil]), hb⟩
      case round =>
        obtain ⟨j, t, rfl, rfl, hjk, hts, ht, hb2⟩ := hrel
        by_cases hj : j < k
        · have hj' : (j : Int) < (k : Int) := by omega
          by_cases hsz : t.size ≤ 16384
          · have hsz' : (t.size : Int) ≤ 16384 := by omega
            rcases HROW.out.below hb2.out with e | ⟨b, off, rfl, hlt, hc⟩
            · exfalso; have := HN.out; rw [e] at this; simp at this; omega
            have ck := hc j (by have := HN.out; omega)
            have hxs := HX.out j (by have := HN.out; omega)
            have HS : Hid (bl front ++ catL l (j + 1) = bl front ++ catL l j ++ bl (l.getD j ByteArray.empty)) := Lib.hid (by rw [catL_succ l j (by have := HN.out; omega), List.append_assoc])
            generalize l.getD j ByteArray.empty = y at *
            have hcat : t.size + y.size ≤ 9223372036854775807 := by omega
            have HC : Hid (bl (t ++ y) = bl front ++ catL l (j + 1) ∧ (t ++ y).size ≤ 200000) := Lib.hid ⟨by rw [cat_bytes, ht.out, HS.out], by rw [ByteArray.size_append]; omega⟩
            clear hc hlt
            go_wp2_with fail
            go_roundw
            case rel => exact ⟨j + 1, t ++ y, rfl, by go_num, by omega, HC.out.2, Lib.hid HC.out.1, hb2⟩
            case measure => simp [intOf]; omega
          · have hsz' : decide ((t.size : Int) ≤ 16384) = false := decide_eq_false (by omega)
            have HM := Lib.hid (rmay_any t (by omega) wr)
            rw [show (checkP (bl t) == 0) = false by
              rw [beq_eq_false_iff_ne]
              intro h
              have := check_len h
              rw [bl_length] at this
              omega] at HM
            have HQ : Hid (z = ([], 5)) := Lib.hid (by
              rw [HZ.out, if_neg]
              intro h
              have h1 := check_len h
              have h2 := catL_le l j
              have h3 := congrArg List.length ht.out
              rw [bl_length, List.length_append] at h3
              rw [List.length_append] at h1
              omega)
            clear hsz
            go_wp2_with fail
            refine HM.out.mono ?_; rintro e w2 ⟨rfl, b2⟩
            have B2 := Lib.hid (below_step hb2.out b2)
            clear b2
            go_wp2_with fail
            go_ret2
            exact ⟨by rw [HQ.out]; rfl, B2.out⟩
        · obtain rfl : j = k := by omega
          have HE : Hid (bl t = bl front ++ (l.map bl).flatten) := Lib.hid (by rw [ht.out, catL_all l j (by have := HN.out; omega)])
          have HM := Lib.hid (rmay_any t (by omega) wr)
          rw [← HE.out] at HZ
          clear hj hjk
          cases hq : (checkP (bl t) == 0) with
          | true =>
            rw [hq] at HM
            have HQ : Hid (z = (bl t, 0)) := Lib.hid (HZ.out.trans (if_pos (by simpa using hq)))
            clear hq
            go_wp2_with fail
            refine HM.out.mono ?_; rintro e w2 ⟨rfl, b2⟩
            have B2 := Lib.hid (below_step hb2.out b2)
            clear b2
            go_wp2_with fail
            go_ret2
            exact ⟨by rw [HQ.out, st2, ← bl_eq]; rfl, B2.out⟩
          | false =>
            rw [hq] at HM
            have HQ : Hid (z = ([], 5)) := Lib.hid (HZ.out.trans (if_neg (by simpa using hq)))
            clear hq
            go_wp2_with fail
            refine HM.out.mono ?_; rintro e w2 ⟨rfl, b2⟩
            have B2 := Lib.hid (below_step hb2.out b2)
            clear b2
            go_wp2_with fail
            go_ret2
            exact ⟨by rw [HQ.out]; rfl, B2.out⟩
end Go.Proofs.YthemopejebioaaaGreat.Pl

namespace Go.Proofs.YthemopejebioaaaGreat.Pl
open Go.RowKit

theorem encs_append (a b : List Tm) : encs (a ++ b) = encs a ++ encs b := by
  rw [encs_flat, encs_flat, encs_flat, List.map_append, List.flatten_append]
theorem encs_one (t : Tm) : encs [t] = t.enc := by simp [encs]
theorem encs_at (l : List Tm) (k : Nat) (hk : k < l.length) : encs l = encs (l.take k) ++ (l[k].enc ++ encs (l.drop (k + 1))) := by
  have e : l = l.take k ++ (l[k] :: l.drop (k + 1)) := by rw [← List.drop_eq_getElem_cons hk, List.take_append_drop]
  have e2 : encs (l.take k ++ (l[k] :: l.drop (k + 1))) = encs (l.take k) ++ (l[k].enc ++ encs (l.drop (k + 1))) := by rw [encs_append]; simp [encs]
  rw [← e2, ← e]
theorem encs_take (l : List Tm) (k : Nat) (hk : k < l.length) : (encs (l.take (k + 1))).length = (encs (l.take k)).length + l[k].enc.length := by
  rw [List.take_succ_eq_append_getElem hk, encs_append, encs_one, List.length_append]
def txts (l : List ByteArray) : List Value := l.map Value.string
theorem txts_length (l : List ByteArray) : (txts l).length = l.length := by simp [txts]
theorem txts_at (l : List ByteArray) (j : Nat) (h : j < l.length) : (txts l)[j]? = some (.string (l.getD j ByteArray.empty)) := by
  simp [txts, List.getD_eq_getElem?_getD, h]
/-- v is a row of these texts that the call owns, from block B on. -/
def OwnT (w : World) (B : Nat) (v : Value) (l : List ByteArray) : Prop := w.ownsRow B 9 1 v l.length (txts l)
theorem ownT_nil (w : World) (B : Nat) : OwnT w B (.slice none 0 0) [] := World.ownsRow_nil _ _ _ _
theorem ownT_below {w w' : World} {B : Nat} {v : Value} {l : List ByteArray} (h : OwnT w B v l) (hb : Below w.heap.size w w') : OwnT w' B v l := by
  refine ⟨h.1, ?_⟩
  rcases h.2 with hn | ⟨g, cap, cur, hv, hbg, hg, rest⟩
  · exact .inl hn
  · exact .inr ⟨g, cap, cur, hv, hbg, (hb.block g (Array.getElem?_eq_some_iff.1 hg).1).trans hg, rest⟩
theorem ownT_row {w : World} {B : Nat} {v : Value} {l : List ByteArray} (h : OwnT w B v l) : ∃ ao cap, v = .slice ao l.length cap ∧ TxtRow w ao l := by
  rcases h.2 with ⟨hv, h0⟩ | ⟨g, cap, cur, hv, hbg, hg, rest⟩
  · exact ⟨none, 0, by rw [hv, h0], .inl (List.length_eq_zero_iff.1 h0)⟩
  · have h' := h
    unfold OwnT at h'
    rw [hv] at h'
    exact ⟨_, cap, hv, .inr ⟨g, 0, rfl, (Array.getElem?_eq_some_iff.1 hg).1, fun j hj => by rw [Nat.zero_add, h'.cellAt j (by omega), txts_at l j hj]⟩⟩
theorem ownT_row2 {w : World} {B : Nat} {v : Value} {l : List ByteArray} (h : OwnT w B v l) : ∃ ao cap, v = .slice ao l.length cap ∧ TxtRow w ao l ∧ ∀ b off, ao = some ⟨b, off, none⟩ → B ≤ b := by
  rcases h.2 with ⟨hv, h0⟩ | ⟨g, cap, cur, hv, hbg, hg, rest⟩
  · exact ⟨none, 0, by rw [hv, h0], .inl (List.length_eq_zero_iff.1 h0), fun b off e => by cases e⟩
  · have h' := h
    unfold OwnT at h'
    rw [hv] at h'
    exact ⟨_, cap, hv, .inr ⟨g, 0, rfl, (Array.getElem?_eq_some_iff.1 hg).1, fun j hj => by rw [Nat.zero_add, h'.cellAt j (by omega), txts_at l j hj]⟩, fun b off e => by cases e; exact hbg⟩
theorem TxtRow.grown {w w' : World} {ao : Option Addr} {l : List ByteArray} {row : Option Nat} (h : TxtRow w ao l) (hg : w.grownBy w' row) (hne : ∀ b off, ao = some ⟨b, off, none⟩ → row ≠ some b) : TxtRow w' ao l := by
  rcases h with h | ⟨b, off, e, hlt, hc⟩
  · exact .inl h
  · exact .inr ⟨b, off, e, Nat.lt_of_lt_of_le hlt hg.size, fun j hj => hg.cell (hc j hj) (fun e2 => hne b off e e2.symm)⟩
theorem infoStr : (Tryz.prog.info? 9).map (fun i => (i.zero, i.size, i.bytes)) = some (some (.string ⟨#[]⟩), 1, 16) := by kernel_rfl
/-- A tree's parts as texts. -/
def tx (t : Tm) : ByteArray := ⟨t.enc.toArray⟩
theorem bl_tx (t : Tm) : bl (tx t) = t.enc := rfl
set_option maxHeartbeats 4000000 in
set_option maxRecDepth 100000 in
theorem parts_any (h : List UInt8) (l : List Tm) (hv : (Tm.node h l).valid) (s : ByteArray) (hs : bl s = (Tm.node h l).enc) (w : World) :
    Calls Tryz.prog 92 #[.string s] w fun e w' => ∃ v, e = .returned v ∧ OwnT w' w.heap.size v (l.map tx) ∧ Below w.heap.size w w' := by
  obtain ⟨i0, hi, hz0, hz1, hz2⟩ := info_parts infoStr
  have HI := Lib.hid hi
  have hg := hv.1
  simp only [Tm.good] at hg
  obtain ⟨c, hkd⟩ := head_kind hg.1
  have hl32 : l.length ≤ 32 := by cases hkd <;> omega
  have hsz : s.size = (Tm.node h l).enc.length := by rw [size_bl, hs]
  have hsz2 : s.size ≤ 16384 := by rw [hsz]; exact hv.2.2
  have hbl : bl s = h ++ encs l := by rw [hs, Tm.enc_node]
  have hhead : headP (bl s) = (h.length, l.length, 0) := by rw [hbl]; exact hg.1 _
  have HH := Lib.hid (rhead_any s (by omega) w)
  rw [hhead] at HH
  -- where the k-th part lies
  have HP : Hid (∀ k, k < l.length → ∃ t : Tm, l[k]? = some t ∧ t.valid ∧ (bl s).drop (h.length + (encs (l.take k)).length) = t.enc ++ encs (l.drop (k + 1)) ∧ (encs (l.take (k + 1))).length = (encs (l.take k)).length + t.enc.length ∧ h.length + (encs (l.take (k + 1))).length ≤ s.size) := Lib.hid (fun k hk => by
    refine ⟨l[k], List.getElem?_eq_getElem hk, node_valid_parts hv _ (List.getElem_mem hk), ?_, ?_, ?_⟩
    · rw [hbl, encs_at l k hk, ← List.append_assoc, ← List.length_append, List.drop_left]
    · exact encs_take l k hk
    · have e : encs l = encs (l.take (k + 1)) ++ encs (l.drop (k + 1)) := by
        rw [encs_flat, encs_flat, encs_flat, ← List.flatten_append, ← List.map_append, List.take_append_drop]
      have h2 := congrArg List.length hbl
      rw [bl_length, List.length_append, e, List.length_append] at h2
      omega)
  have HALL : Hid (h.length ≤ s.size) := Lib.hid (by
    have h2 := congrArg List.length hbl
    rw [bl_length, List.length_append] at h2
    omega)
  obtain ⟨n, hn⟩ : ∃ n, n = l.length := ⟨_, rfl⟩
  rw [← hn] at HH HP hl32
  have HN := Lib.hid hn
  clear hv hg hkd hsz hbl hhead hs hn hi
  obtain ⟨hl, hhl⟩ : ∃ q, q = h.length := ⟨_, rfl⟩
  rw [← hhl] at HH HP HALL
  clear hhl
  go_enter Tryz.func92, Tryz.ntmps92
  go_wp2_with fail
  refine HH.out.mono ?_; rintro e w1 ⟨rfl, b1⟩
  have B1 := Lib.hid b1
  clear b1
  unfold hd3
  go_wp2_with fail
  go_loopw [3, 6, 7] (fun nv v iv wr => ∃ k m : Nat, iv = .int .i64 k ∧ nv = .int .i64 m ∧ k ≤ n ∧ m ≤ 16384 ∧ Hid (m = hl + (encs (l.take k)).length) ∧ Hid (m ≤ s.size) ∧ Hid (OwnT wr w.heap.size v ((l.take k).map tx)) ∧ Hid (Below w.heap.size w wr)) (fun _ _ iv _ => n - (intOf iv).toNat)
  case atStart => exact ⟨0, hl, rfl, rfl, Nat.zero_le _, by have := HALL.out; omega, Lib.hid (by simp [encs]), HALL, Lib.hid (ownT_nil _ _), B1⟩
  case round =>
    obtain ⟨k, m, rfl, rfl, hkn, hm, hme, hms, hown, hb⟩ := hrel
    by_cases hk : k < n
    · have hk' : (k : Int) < (n : Int) := by omega
      obtain ⟨t, ht, tv, td, tl, te⟩ := HP.out k hk
      have sl : ∀ V : World, (Instr.sliceAt 9 (.string s) (some (.int .i64 (m : Int))) none none).run Tryz.prog V = .ok (.string (s.extract m s.size)) V := tslice_from s m hms.out
      have hx : bl (s.extract m s.size) = t.enc ++ encs (l.drop (k + 1)) := by rw [bl_from, hme.out, td]
      have hxs : (s.extract m s.size).size ≤ 281474976710656 := by rw [size_bl, bl_from, List.length_drop, bl_length]; omega
      have hC := rread_any 16 (s.extract m s.size) wr (Nat.le_refl _) hxs
      rw [hx, read_enc t tv.1 16 tv.2.1, show (17 - ((16 : Nat) : Int)) = 1 by decide] at hC
      have HC := Lib.hid hC
      generalize s.extract m s.size = x at *
      obtain ⟨q, hq⟩ : ∃ q, q = t.enc.length := ⟨_, rfl⟩
      rw [← hq] at HC tl
      have hq1 : m + q ≤ s.size := by rw [hme.out, Nat.add_assoc, ← tl]; exact te
      have sm : ∀ V : World, (Instr.sliceAt 9 (.string s) (some (.int .i64 (m : Int))) (some (.int .i64 (((m + q : Nat)) : Int))) none).run Tryz.prog V = .ok (.string (s.extract m (m + q))) V := tslice_mid s m (m + q) (by omega) hq1
      have hpart : s.extract m (m + q) = tx t := by
        apply bl_inj
        rw [bl_extract, bl_tx, List.drop_take, hme.out, td, show hl + (encs (l.take k)).length + q - (hl + (encs (l.take k)).length) = q by omega, hq, List.take_left]
      rw [hpart] at sm
      have sm' : ∀ V : World, (Instr.sliceAt 9 (.string s) (some (.int .i64 (m : Int))) (some (.int .i64 ((m : Int) + (q : Int)))) none).run Tryz.prog V = .ok (.string (tx t)) V := fun V => by
        have h := sm V
        rw [show (((m + q : Nat)) : Int) = (m : Int) + (q : Int) by omega] at h
        exact h
      have HTK : Hid ((l.take (k + 1)).map tx = (l.take k).map tx ++ [tx t]) := Lib.hid (by
        have hkl : k < l.length := by rw [← HN.out]; exact hk
        rw [List.take_succ_eq_append_getElem hkl, List.map_append]
        have : l[k] = t := by rw [List.getElem?_eq_getElem hkl] at ht; exact Option.some.inj ht
        rw [this]; rfl)
      have HME : Hid (m + q = hl + (encs (l.take (k + 1))).length) := Lib.hid (by rw [tl, hme.out]; omega)
      have HLN : Hid (((l.take k).map tx).length ≤ 32) := Lib.hid (by rw [List.length_map, List.length_take]; omega)
      obtain ⟨L, hL⟩ : ∃ L, L = (l.take k).map tx := ⟨_, rfl⟩
      rw [← hL] at HTK HLN hown
      clear hL
      have HQ1 := Lib.hid hq1
      have hq2 : m + q ≤ 16384 := by omega
      clear ht tv td tl te hx hxs hC hq sm hpart hme hms
      generalize tx t = y at *
      go_wp2_with fail
      refine HC.out.mono ?_; rintro e w2 ⟨rfl, b2⟩
      have B2 := Lib.hid (below_step hb.out b2)
      have O2 := Lib.hid (ownT_below hown.out b2)
      have HSZ := Lib.hid (Nat.le_trans hb.out.size b2.size)
      clear b2
      unfold rd2
      go_wp2_with (at_builtin; refine wpList_append_own _ rfl _ _ 53 rfl w.heap.size 9 i0 (.string ⟨#[]⟩) 1 16 Tryz.underlying53 HI.out hz0 hz1 hz2 rfl (by decide) _ _ _ rfl (World.ownsRow.alloc O2.out _) ⟨w2.heap.size, 0, none⟩ 1 1 [.string y] rfl rfl ?c1 ?c2 ?c3 ?c4 ?c5 ?_)
      case c1 =>
        intro j u hj
        match j, hj with
        | 0, hj => simp at hj; subst hj; simp [Addr.add]
        | (j + 1), hj => simp at hj
      case c2 => intro u hu; simp at hu; subst hu; rfl
      case c3 => have := HLN.out; unfold maxLen; omega
      case c4 => have := HLN.out; omega
      case c5 => have := HSZ.out; simp; omega
      intro v' w3 hown' hgrow _
      have HO : Hid (OwnT w3 w.heap.size v' ((l.take (k + 1)).map tx)) := Lib.hid (by
        rw [HTK.out]
        have h := hown'
        unfold OwnT
        rw [show txts (L ++ [y]) = txts L ++ [.string y] by simp [txts], List.length_append, List.length_singleton]
        exact h)
      have B3 : Hid (Below w.heap.size w w3) := Lib.hid ((B2.out.alloc (by have := HSZ.out; omega) _).grown hgrow (by have := HSZ.out; simp; omega) (fun j hj => (O2.out.lt _ hj).1))
      clear hown' hgrow
      go_wp2_with fail
      go_roundw
      case rel => exact ⟨k + 1, m + q, by go_num, by go_num, by omega, hq2, HME, HQ1, HO, B3⟩
      case measure => simp [intOf]; omega
    · obtain rfl : k = n := by omega
      have HE : Hid ((l.take k).map tx = l.map tx) := Lib.hid (by rw [List.take_of_length_le (by have := HN.out; omega)])
      obtain ⟨ao, cap, rfl, _⟩ := ownT_row hown.out
      clear hk hkn
      go_wp2_with fail
      go_ret
      exact ⟨_, rfl, by rw [← HE.out]; exact hown.out, hb.out⟩
end Go.Proofs.YthemopejebioaaaGreat.Pl

namespace Go.Proofs.YthemopejebioaaaGreat.Pl
open Go.RowKit

theorem placess_len {l : List Tm} (h : ∀ t ∈ l, t.places.length ≤ t.enc.length) : (placess l).length ≤ (encs l).length := by
  induction l with
  | nil => simp [placess]
  | cons t l ih =>
    simp only [placess, encs, List.length_append]
    have h1 := h t (List.mem_cons_self ..)
    have h2 := ih (fun u hu => h u (List.mem_cons_of_mem _ hu))
    omega
theorem places_count : ∀ t : Tm, t.good → t.places.length ≤ t.enc.length := by
  refine Tm.ind ?_
  intro h l ih hg
  simp only [Tm.good] at hg
  have h1 := List.length_pos_iff.2 hg.1.pos
  have h2 := placess_len (l := l) (fun t ht => ih t ht (goods_mem hg.2 t ht))
  simp only [Tm.places, Tm.enc, List.length_cons, List.length_append]
  omega
theorem ownT_one (w : World) (s : ByteArray) : OwnT (w.alloc (.cells #[.string s] 9)) w.heap.size (.slice (some ⟨w.heap.size, 0, none⟩) 1 1) [s] :=
  World.ownsRow_lit w #[.string s] 1 (Nat.le_refl _) (by decide) rfl

end Go.Proofs.YthemopejebioaaaGreat.Pl

namespace Go.Proofs.YthemopejebioaaaGreat.Pl
open Go.RowKit

theorem tree_of {s : List UInt8} (h : checkP s = 0) : ∃ t : Tm, t.valid ∧ s = t.enc ∧ treeOf s = some t := by
  obtain ⟨t, h1, h2, h3⟩ := treeOf_some h
  exact ⟨t, h1, h2.symm, h3⟩
theorem may_yes {s : ByteArray} (h : checkP (bl s) = 0) : (checkP (bl s) == 0) = true := by rw [h]; rfl
theorem may_no {s : ByteArray} (h : checkP (bl s) ≠ 0) : (checkP (bl s) == 0) = false := by rw [beq_eq_false_iff_ne]; exact h
theorem valid_size {t : Tm} (h : t.valid) {s : ByteArray} (e : bl s = t.enc) : s.size ≤ 16384 := by rw [size_bl, e]; exact h.2.2

/-- Two rows of texts, by their bytes. -/
theorem map_bl_tx (l : List Tm) : (l.map tx).map bl = l.map Tm.enc := by rw [List.map_map]; rfl

set_option maxRecDepth 100000 in
theorem rparts6_any (s : ByteArray) (hs : s.size ≤ 281474976710656) (w : World) :
    Calls Tryz.prog 49 #[.string s] w fun e w' => ∃ (v : Value) (L : List ByteArray), e = .returned (.tuple #[v, .bool (partsP (bl s)).2]) ∧ OwnT w' w.heap.size v L ∧ L.map bl = (partsP (bl s)).1 ∧ Below w.heap.size w w' := by
  have HM := Lib.hid (rmay_any s hs w)
  by_cases hc : checkP (bl s) = 0
  · rw [may_yes hc] at HM
    obtain ⟨⟨h, l⟩, tv, te, tr⟩ := tree_of hc
    have HP := Lib.hid (fun V => parts_any h l tv s te V)
    have H1 : Hid ((partsP (bl s)).2 = true) := Lib.hid (by unfold partsP; rw [tr])
    have H2 : Hid ((l.map tx).map bl = (partsP (bl s)).1) := Lib.hid (by unfold partsP; rw [tr, map_bl_tx])
    generalize partsP (bl s) = q at *
    obtain ⟨q1, q2⟩ := q
    simp only at H1 H2
    have h1 := H1.out
    subst h1
    generalize l.map tx = L at *
    clear hc tv te tr hs
    go_enter Tryz.func49, Tryz.ntmps49
    go_wp2_with fail
    refine HM.out.mono ?_; rintro e w1 ⟨rfl, b1⟩
    have B1 := Lib.hid b1
    clear b1
    go_wp2_with fail
    refine (HP.out w1).mono ?_; rintro e w2 ⟨v, rfl, ho, b2⟩
    have B2 := Lib.hid (below_step B1.out b2)
    have HO : Hid (OwnT w2 w.heap.size v L) := Lib.hid (by
      refine ⟨ho.1, ho.2.elim .inl ?_⟩
      rintro ⟨g, cap, cur, e1, e2, rest⟩
      exact .inr ⟨g, cap, cur, e1, Nat.le_trans B1.out.size e2, rest⟩)
    obtain ⟨ao, cap, rfl, _⟩ := ownT_row HO.out
    clear b2 ho
    go_wp2_with fail
    go_ret2
    exact ⟨_, _, rfl, HO.out, H2.out, B2.out⟩
  · rw [may_no hc] at HM
    have H1 : Hid (partsP (bl s) = ([], false)) := Lib.hid (by unfold partsP; rw [treeOf_none hc])
    clear hc hs
    go_enter Tryz.func49, Tryz.ntmps49
    go_wp2_with fail
    refine HM.out.mono ?_; rintro e w1 ⟨rfl, b1⟩
    have B1 := Lib.hid b1
    clear b1
    go_wp2_with fail
    go_ret2
    exact ⟨_, [], by rw [H1.out]; rfl, ownT_nil _ _, by rw [H1.out]; rfl, B1.out⟩

end Go.Proofs.YthemopejebioaaaGreat.Pl

namespace Go.Proofs.YthemopejebioaaaGreat.Pl

structure Pl6 where
  at_ : Nat
  dep : Nat
  head : Nat
  parts : Nat

/-- Of so many terms, one behind the other. -/
def visL (vs : Nat → List Pl6 × Nat × Nat) : Nat → Nat → List Pl6 × Nat × Nat
  | 0, a => ([], a, 0)
  | k + 1, a => if (vs a).2.2 = 0 then ((vs a).1 ++ (visL vs k (vs a).2.1).1, (visL vs k (vs a).2.1).2) else ((vs a).1, 0, (vs a).2.2)
/-- Of the term at a place, that is no deeper than d below. -/
def visP (s : List UInt8) : Nat → Nat → List Pl6 × Nat × Nat
  | 0, _ => ([], 0, 60)
  | d + 1, a =>
    if (headP (s.drop a)).2.2 = 0 then
      (⟨a, 16 - d, a + (headP (s.drop a)).1, (headP (s.drop a)).2.1⟩ :: (visL (visP s d) (headP (s.drop a)).2.1 (a + (headP (s.drop a)).1)).1, (visL (visP s d) (headP (s.drop a)).2.1 (a + (headP (s.drop a)).1)).2)
    else ([], 0, (headP (s.drop a)).2.2)

/-- Where the places end, and what is wrong, is what reading tells. -/
theorem vis_read (s : List UInt8) : ∀ (d a : Nat), (visP s d a).2 = if (readP d (s.drop a)).2 = 0 then (a + (readP d (s.drop a)).1, 0) else (0, (readP d (s.drop a)).2) := by
  intro d
  induction d with
  | zero => intro a; simp [visP, readP]
  | succ d ih =>
    have loop : ∀ (k a : Nat), (visL (visP s d) k a).2 = if (loopP (readP d) k (s.drop a)).2 = 0 then (a + (loopP (readP d) k (s.drop a)).1, 0) else (0, (loopP (readP d) k (s.drop a)).2) := by
      intro k
      induction k with
      | zero => intro a; simp [visL, loopP]
      | succ k ihk =>
        intro a
        have h := ih a
        by_cases h0 : (readP d (s.drop a)).2 = 0
        · rw [if_pos h0] at h
          have h1 : (visP s d a).2.2 = 0 := by rw [h]
          have h2 : (visP s d a).2.1 = a + (readP d (s.drop a)).1 := by rw [h]
          rw [visL, if_pos h1, loopP, if_pos h0]
          simp only
          rw [ihk, h2, ← List.drop_drop]
          by_cases h3 : (loopP (readP d) k ((s.drop a).drop (readP d (s.drop a)).1)).2 = 0
          · rw [if_pos h3, if_pos h3]; simp [Nat.add_assoc]
          · rw [if_neg h3, if_neg h3]; exact (if_neg h3).symm
        · rw [if_neg h0] at h
          have h1 : (visP s d a).2.2 ≠ 0 := by rw [h]; exact h0
          rw [visL, if_neg h1, loopP, if_neg h0]
          simp only
          rw [if_neg h0, h]
    intro a
    by_cases h0 : (headP (s.drop a)).2.2 = 0
    · rw [visP, if_pos h0, readP, if_pos h0]
      simp only
      rw [loop, ← List.drop_drop]
      by_cases h3 : (loopP (readP d) (headP (s.drop a)).2.1 ((s.drop a).drop (headP (s.drop a)).1)).2 = 0
      · rw [if_pos h3, if_pos h3]; simp [Nat.add_assoc]
      · rw [if_neg h3, if_neg h3]; exact (if_neg h3).symm
    · rw [visP, if_neg h0, readP, if_neg h0]
      simp [h0]

theorem head_le {s : List UInt8} (h : (headP s).2.2 = 0) : (headP s).1 ≤ s.length := (head_front (s := s) (n := (headP s).1) (p := (headP s).2.1) (by rw [← h])).1
theorem head_le32 {s : List UInt8} (h : (headP s).2.2 = 0) : (headP s).2.1 ≤ 32 := by
  obtain ⟨c, hk⟩ := head_kind (head_front (s := s) (n := (headP s).1) (p := (headP s).2.1) (by rw [← h])).2
  cases hk <;> omega
/-- What every place is. -/
def okPl (s : List UInt8) (p : Pl6) : Prop := p.at_ ≤ s.length ∧ p.head ≤ s.length ∧ 1 ≤ p.dep ∧ p.dep ≤ 16 ∧ p.parts ≤ 32
theorem vis_ok (s : List UInt8) : ∀ (d a : Nat), d ≤ 16 → a ≤ s.length → (∀ p ∈ (visP s d a).1, okPl s p) ∧ ((visP s d a).2.2 = 0 → (visP s d a).2.1 ≤ s.length) := by
  intro d
  induction d with
  | zero => intro a _ _; simp [visP]
  | succ d ih =>
    intro a hd ha
    have loop : ∀ (k a : Nat), a ≤ s.length → (∀ p ∈ (visL (visP s d) k a).1, okPl s p) ∧ ((visL (visP s d) k a).2.2 = 0 → (visL (visP s d) k a).2.1 ≤ s.length) := by
      intro k
      induction k with
      | zero => intro a ha; simp [visL, ha]
      | succ k ihk =>
        intro a ha
        obtain ⟨i1, i2⟩ := ih a (by omega) ha
        rw [visL]
        split
        · rename_i h0
          obtain ⟨j1, j2⟩ := ihk (visP s d a).2.1 (i2 h0)
          refine ⟨?_, j2⟩
          intro p hp
          rcases List.mem_append.1 hp with hp | hp
          · exact i1 p hp
          · exact j1 p hp
        · rename_i h0
          exact ⟨i1, fun h => absurd h h0⟩
    rw [visP]
    split
    · rename_i h0
      have h1 := head_le h0
      have h2 := head_le32 h0
      rw [List.length_drop] at h1
      obtain ⟨j1, j2⟩ := loop (headP (s.drop a)).2.1 (a + (headP (s.drop a)).1) (by omega)
      refine ⟨?_, j2⟩
      intro p hp
      rcases List.mem_cons.1 hp with rfl | hp
      · exact ⟨ha, by show a + _ ≤ _; omega, by show 1 ≤ 16 - d; omega, by show 16 - d ≤ 16; omega, h2⟩
      · exact j1 p hp
    · rename_i h0
      exact ⟨by simp, fun h => absurd h h0⟩

/-- The last place's head is where all ends. -/
theorem vis_last (s : List UInt8) : ∀ (d a : Nat), (visP s d a).2.2 = 0 → ∃ q p, (visP s d a).1 = q ++ [p] ∧ p.head = (visP s d a).2.1 := by
  intro d
  induction d with
  | zero => intro a h; simp [visP] at h
  | succ d ih =>
    have loop : ∀ (k a : Nat), (visL (visP s d) (k + 1) a).2.2 = 0 → ∃ q p, (visL (visP s d) (k + 1) a).1 = q ++ [p] ∧ p.head = (visL (visP s d) (k + 1) a).2.1 := by
      intro k
      induction k with
      | zero =>
        intro a h
        rw [visL] at h ⊢
        split at h
        · rename_i h0
          rw [if_pos h0]
          obtain ⟨q, p, e1, e2⟩ := ih a h0
          exact ⟨q, p, by simp [visL, e1], by simp [visL, e2]⟩
        · rename_i h0
          exact absurd h h0
      | succ k ihk =>
        intro a h
        rw [visL] at h ⊢
        split at h
        · rename_i h0
          rw [if_pos h0]
          obtain ⟨q, p, e1, e2⟩ := ihk _ h
          exact ⟨(visP s d a).1 ++ q, p, by simp [e1], e2⟩
        · rename_i h0
          exact absurd h h0
    intro a h
    rw [visP] at h ⊢
    split at h
    · rename_i h0
      rw [if_pos h0]
      cases hk : (headP (s.drop a)).2.1 with
      | zero => exact ⟨[], ⟨a, 16 - d, a + (headP (s.drop a)).1, 0⟩, by simp [visL], by simp [visL]⟩
      | succ k =>
        rw [hk] at h
        obtain ⟨q, p, e1, e2⟩ := loop k _ h
        exact ⟨_ :: q, p, by simp [e1]; rfl, e2⟩
    · rename_i h0
      exact absurd h h0

/- The places of a tree, each with what stands there. -/
mutual
def offT : Nat → Nat → Tm → List (Pl6 × Tm)
  | a, D, .node h l => (⟨a, D, a + h.length, l.length⟩, .node h l) :: offs (a + h.length) (D + 1) l
def offs : Nat → Nat → List Tm → List (Pl6 × Tm)
  | _, _, [] => []
  | a, D, t :: l => offT a D t ++ offs (a + t.enc.length) D l
end
theorem offs_snd : ∀ t : Tm, ∀ a D, (offT a D t).map Prod.snd = t.places := by
  refine Tm.ind ?_
  intro h l ih a D
  have loop : ∀ m : List Tm, (∀ t ∈ m, t ∈ l) → ∀ a D, (offs a D m).map Prod.snd = placess m := by
    intro m
    induction m with
    | nil => intro _ a D; rfl
    | cons t m ihm =>
      intro hm a D
      rw [offs, List.map_append, ih t (hm t (List.mem_cons_self ..)), ihm (fun u hu => hm u (List.mem_cons_of_mem _ hu)), placess]
  rw [offT, List.map_cons, loop l (fun _ h => h), Tm.places]
/-- What reading a tree's bytes goes over. -/
theorem vis_tree (s : List UInt8) : ∀ t : Tm, t.good → ∀ d, t.deep ≤ d → d ≤ 16 → ∀ a rest, s.drop a = t.enc ++ rest → visP s d a = ((offT a (17 - d) t).map Prod.fst, a + t.enc.length, 0) := by
  refine Tm.ind ?_
  intro h l ih hg d hd hd16 a rest e
  simp only [Tm.good] at hg
  simp only [Tm.deep] at hd
  obtain ⟨d, rfl⟩ : ∃ k, d = k + 1 := ⟨d - 1, by omega⟩
  have loop : ∀ m : List Tm, (∀ t ∈ m, t ∈ l) → ∀ a rest, s.drop a = encs m ++ rest → visL (visP s d) m.length a = ((offs a (17 - d) m).map Prod.fst, a + (encs m).length, 0) := by
    intro m
    induction m with
    | nil => intro _ a rest _; simp [visL, offs, encs]
    | cons t m ihm =>
      intro hm a rest e
      have ht := hm t (List.mem_cons_self ..)
      rw [encs, List.append_assoc] at e
      have h1 := ih t ht (goods_mem hg.2 t ht) d (by have := deeps_mem ht; omega) (by omega) a _ e
      have e2 : s.drop (a + t.enc.length) = encs m ++ rest := by rw [← List.drop_drop, e, List.drop_left]
      have h2 := ihm (fun u hu => hm u (List.mem_cons_of_mem _ hu)) _ _ e2
      rw [List.length_cons, visL, h1, if_pos rfl]
      simp only
      rw [h2, offs, encs, List.map_append]
      simp [Nat.add_assoc]
  rw [Tm.enc_node, List.append_assoc] at e
  have e1 := hg.1 (encs l ++ rest)
  have e2 : s.drop (a + h.length) = encs l ++ rest := by rw [← List.drop_drop, e, List.drop_left]
  rw [visP, e, e1, if_pos rfl]
  simp only
  rw [loop l (fun _ h => h) _ _ e2, offT, Tm.enc_node]
  have hD : 17 - (d + 1) = 16 - d := by omega
  have hD2 : 17 - (d + 1) + 1 = 17 - d := by omega
  rw [hD2, hD, List.map_cons]
  simp [Nat.add_assoc]
/-- What stands at a place. -/
theorem offs_at (s : List UInt8) : ∀ t : Tm, ∀ a D rest, s.drop a = t.enc ++ rest → ∀ x ∈ offT a D t, ∃ r, s.drop x.1.at_ = x.2.enc ++ r := by
  refine Tm.ind ?_
  intro h l ih a D rest e
  have loop : ∀ m : List Tm, (∀ t ∈ m, t ∈ l) → ∀ a D rest, s.drop a = encs m ++ rest → ∀ x ∈ offs a D m, ∃ r, s.drop x.1.at_ = x.2.enc ++ r := by
    intro m
    induction m with
    | nil => intro _ a D rest _ x hx; simp [offs] at hx
    | cons t m ihm =>
      intro hm a D rest e x hx
      rw [encs, List.append_assoc] at e
      rw [offs] at hx
      rcases List.mem_append.1 hx with hx | hx
      · exact ih t (hm t (List.mem_cons_self ..)) a D _ e x hx
      · exact ihm (fun u hu => hm u (List.mem_cons_of_mem _ hu)) (a + t.enc.length) D rest (by rw [← List.drop_drop, e, List.drop_left]) x hx
  intro x hx
  rw [offT] at hx
  rcases List.mem_cons.1 hx with rfl | hx
  · exact ⟨rest, e⟩
  · rw [Tm.enc_node, List.append_assoc] at e
    exact loop l (fun _ h => h) _ _ rest (by rw [← List.drop_drop, e, List.drop_left]) x hx
theorem offs_dep : ∀ t : Tm, ∀ a D, ∀ x ∈ offT a D t, D ≤ x.1.dep := by
  refine Tm.ind ?_
  intro h l ih a D
  have loop : ∀ m : List Tm, (∀ t ∈ m, t ∈ l) → ∀ a D, ∀ x ∈ offs a D m, D ≤ x.1.dep := by
    intro m
    induction m with
    | nil => intro _ a D x hx; simp [offs] at hx
    | cons t m ihm =>
      intro hm a D x hx
      rw [offs] at hx
      rcases List.mem_append.1 hx with hx | hx
      · exact ih t (hm t (List.mem_cons_self ..)) a D x hx
      · exact ihm (fun u hu => hm u (List.mem_cons_of_mem _ hu)) _ D x hx
  intro x hx
  rw [offT] at hx
  rcases List.mem_cons.1 hx with rfl | hx
  · exact Nat.le_refl _
  · have := loop l (fun _ h => h) _ _ x hx; omega
/-- The parts are what stands one deeper. -/
theorem offs_parts (h : List UInt8) (l : List Tm) (a D : Nat) : ((offT a D (.node h l)).filter fun x => x.1.dep == D + 1).map Prod.snd = l := by
  have loop : ∀ m : List Tm, ∀ a, ((offs a (D + 1) m).filter fun x => x.1.dep == D + 1).map Prod.snd = m := by
    intro m
    induction m with
    | nil => intro a; rfl
    | cons t m ihm =>
      intro a
      obtain ⟨h', l'⟩ := t
      rw [offs, List.filter_append, List.map_append, ihm]
      rw [offT, List.filter_cons, if_pos (by simp)]
      have hz : (offs (a + h'.length) (D + 1 + 1) l').filter (fun x => x.1.dep == D + 1) = [] := by
        rw [List.filter_eq_nil_iff]
        intro x hx
        have h1 : D + 1 + 1 ≤ x.1.dep := by
          have h2 := offs_dep (.node h' l') a (D + 1) x (by rw [offT]; exact List.mem_cons_of_mem _ hx)
          have : ∀ m : List Tm, ∀ a E, ∀ x ∈ offs a E m, E ≤ x.1.dep := by
            intro m
            induction m with
            | nil => intro a E x hx; simp [offs] at hx
            | cons t m ihm =>
              intro a E x hx
              rw [offs] at hx
              rcases List.mem_append.1 hx with hx | hx
              · exact offs_dep t a E x hx
              · exact ihm _ E x hx
          exact this l' _ _ x hx
        simp <;> omega
      rw [hz]; simp
  rw [offT, List.filter_cons, if_neg (by simp), loop]
end Go.Proofs.YthemopejebioaaaGreat.Pl

namespace Go.Proofs.YthemopejebioaaaGreat.Pl
open Go.RowKit

/-- What is thrown. -/
abbrev boom (e : Nat) : Ending := .panicked [{ v := .iface 30 (.int .i64 e), recovered := false }]

theorem need_ok (w : World) : Calls Tryz.prog 132 #[.int .i64 0] w fun x w' => x = .returned (.tuple #[]) ∧ w' = w := by
  go_enter Tryz.func132, Tryz.ntmps132
  go_wp2
  go_end0
  exact ⟨rfl, rfl⟩
theorem need_bad (e : Nat) (he : e ≠ 0) (w : World) : Calls Tryz.prog 132 #[.int .i64 e] w fun x w' => x = boom e ∧ w' = w := by
  have hz : ((e : Int) != 0) = true := by rw [bne_iff_ne]; omega
  go_enter Tryz.func132, Tryz.ntmps132
  go_wp2
  exact ⟨rfl, rfl, rfl⟩

/-- A text's size, or what is wrong. -/
def Size6 (r : Nat × Nat) (w : World) (x : Ending) (w' : World) : Prop := (if r.2 = 0 then x = .returned (.int .i64 r.1) else x = boom r.2) ∧ Below w.heap.size w w'
theorem Size6.ok {k : Nat} {w w' : World} (h : Below w.heap.size w w') : Size6 (k, 0) w (.returned (.int .i64 k)) w' := ⟨by rw [if_pos rfl], h⟩
theorem Size6.bad {k f : Nat} {w w' : World} (hf : f ≠ 0) (h : Below w.heap.size w w') : Size6 (k, f) w (boom f) w' := ⟨by rw [if_neg hf], h⟩

set_option maxHeartbeats 1000000 in
set_option maxRecDepth 100000 in
theorem textsize_any (s : ByteArray) (hs : s.size ≤ 281474976710656) (w : World) :
    Calls Tryz.prog 127 #[.string s] w (Size6 ((rdt (bl s) 1024).2.1, (rdt (bl s) 1024).2.2) w) := by
  have hT := fun V => readtext_any s 1024 V hs (by decide) (by decide)
  obtain ⟨r, hr⟩ : ∃ r, r = rdt (bl s) 1024 := ⟨_, rfl⟩
  have hbl : s.data.toList = bl s := rfl
  rw [hbl, ← hr] at hT
  rw [← hr]
  obtain ⟨t, k, f⟩ := r
  clear hr hs hbl
  have HT := Lib.hid hT
  clear hT
  by_cases hf : f = 0
  · subst hf
    go_enter Tryz.func127, Tryz.ntmps127
    go_wp2_with (first | (go_at_call 113; refine (HT.out _).mono ?_; rintro e w1 ⟨rfl, b1⟩) | (go_at_call 132; refine (need_ok _).mono ?_; rintro e w2 ⟨rfl, rfl⟩))
    go_ret
    exact Size6.ok b1
  · have HF := Lib.hid hf
    go_enter Tryz.func127, Tryz.ntmps127
    go_wp2_with (first | (go_at_call 113; refine (HT.out _).mono ?_; rintro e w1 ⟨rfl, b1⟩) | (go_at_call 132; refine (need_bad f HF.out _).mono ?_; rintro e w2 ⟨rfl, rfl⟩))
    exact ⟨by first | rfl | trivial, Size6.bad HF.out b1⟩

/-- A row's parts and its head's length, or what is wrong. -/
def Size62 (r : Nat × Nat × Nat) (w : World) (x : Ending) (w' : World) : Prop := (if r.2.2 = 0 then x = .returned (.tuple #[.int .i64 r.1, .int .i64 r.2.1]) else x = boom r.2.2) ∧ Below w.heap.size w w'
theorem Size62.ok {v k : Nat} {w w' : World} (h : Below w.heap.size w w') : Size62 (v, k, 0) w (.returned (.tuple #[.int .i64 v, .int .i64 k])) w' := ⟨by rw [if_pos rfl], h⟩
theorem Size62.bad {v k f : Nat} {w w' : World} (hf : f ≠ 0) (h : Below w.heap.size w w') : Size62 (v, k, f) w (boom f) w' := ⟨by rw [if_neg hf], h⟩
def rowP6 (s : List UInt8) : Nat × Nat × Nat := if (rdn s).2.2 = 0 ∧ 32 < (rdn s).1 then (0, 0, 5) else rdn s

set_option maxHeartbeats 1000000 in
set_option maxRecDepth 100000 in
theorem rowhead_any (s : ByteArray) (hs : s.size ≤ 281474976710656) (w : World) :
    Calls Tryz.prog 129 #[.string s] w (Size62 (rowP6 (bl s)) w) := by
  have hT := fun V => readnum_any s (by omega) V
  obtain ⟨r, hr⟩ : ∃ r, r = rdn (bl s) := ⟨_, rfl⟩
  have hbl : s.data.toList = bl s := rfl
  rw [hbl, ← hr] at hT
  obtain ⟨z, hz⟩ : ∃ z, z = rowP6 (bl s) := ⟨_, rfl⟩
  rw [← hz]
  unfold rowP6 at hz
  rw [← hr] at hz
  obtain ⟨v, k, f⟩ := r
  have HZ := Lib.hid hz
  clear hr hs hbl hz
  have HT := Lib.hid hT
  clear hT
  by_cases hf : f = 0
  · subst hf
    by_cases hv : 32 < v
    · have q1 : (32 : Int) < (v : Int) := by omega
      have HV := Lib.hid hv
      clear hv
      go_enter Tryz.func129, Tryz.ntmps129
      go_wp2_with (first | (go_at_call 122; refine (HT.out _).mono ?_; rintro e w1 ⟨rfl, rfl⟩) | (go_at_call 132; refine (need_ok _).mono ?_; rintro e w2 ⟨rfl, rfl⟩))
      have hz := HZ.out
      rw [if_pos (by first | exact ⟨rfl, HV.out⟩ | exact ⟨trivial, HV.out⟩)] at hz
      exact ⟨rfl, hz ▸ Size62.bad (f := 5) (by decide) (Below.refl _ _)⟩
    · have q1 : ¬ (32 : Int) < (v : Int) := by omega
      have q2 : (v : Int) ≤ 32 := by omega
      have HV := Lib.hid hv
      clear hv
      go_enter Tryz.func129, Tryz.ntmps129
      go_wp2_with (first | (go_at_call 122; refine (HT.out _).mono ?_; rintro e w1 ⟨rfl, rfl⟩) | (go_at_call 132; refine (need_ok _).mono ?_; rintro e w2 ⟨rfl, rfl⟩))
      go_ret2
      have hz := HZ.out
      rw [if_neg (by rintro ⟨_, h⟩; exact HV.out h)] at hz
      exact hz ▸ Size62.ok (Below.refl _ _)
  · have HF := Lib.hid hf
    go_enter Tryz.func129, Tryz.ntmps129
    go_wp2_with (first | (go_at_call 122; refine (HT.out _).mono ?_; rintro e w1 ⟨rfl, rfl⟩) | (go_at_call 132; refine (need_bad f HF.out _).mono ?_; rintro e w2 ⟨rfl, rfl⟩))
    have hz := HZ.out
    rw [if_neg (by rintro ⟨h, _⟩; exact HF.out h)] at hz
    exact ⟨rfl, hz ▸ Size62.bad HF.out (Below.refl _ _)⟩
end Go.Proofs.YthemopejebioaaaGreat.Pl

namespace Go.Proofs.YthemopejebioaaaGreat.Pl
open Go.RowKit

theorem bl_at (s : ByteArray) (p : Nat) (h : p < s.size) : (bl s).getD p 0 = s[p]'h := by
  unfold bl
  rw [List.getD_eq_getElem?_getD, List.getElem?_eq_getElem (by rw [Array.length_toList]; exact h)]
  simp
  rfl

set_option maxHeartbeats 4000000 in
set_option maxRecDepth 100000 in
theorem isname_any (s : ByteArray) (hs : s.size ≤ 281474976710656) (w : World) :
    Calls Tryz.prog 133 #[.string s] w fun e w' => e = .returned (.bool (nameOK (bl s))) ∧ Below w.heap.size w w' := by
  obtain ⟨z, hz⟩ : ∃ z, z = nameOK (bl s) := ⟨_, rfl⟩
  rw [← hz]
  by_cases h0 : s.size = 0
  · have HZ : Hid (z = false) := Lib.hid (by rw [hz, bl_nil h0]; rfl)
    obtain rfl : s = ⟨#[]⟩ := bl_inj (bl_nil h0)
    clear hz h0 hs
    go_enter Tryz.func133, Tryz.ntmps133
    go_wp2_with fail
    go_loopw [] (fun wr => Hid (wr.heap[w.heap.size]? = some (.stringIter ⟨#[]⟩ 0)) ∧ Hid (Below w.heap.size w wr)) (fun _ => 0)
    case atStart => exact ⟨Lib.hid (World.iter_heap w _ 0), Lib.hid ((Below.refl _ w).alloc (Nat.le_refl _) _)⟩
    case round =>
      obtain ⟨hit, hbw⟩ := hrel
      have hnx : ∀ ty, (Instr.next (.pointer (some ⟨w.heap.size, 0, none⟩)) true ty).run Tryz.prog wr = _ := fun ty => Lib.run_next_end_at wr w.heap.size ⟨#[]⟩ 0 ty hit.out (by decide)
      go_wp2_with fail
      go_ret
      exact ⟨ret6_bool HZ.out.symm, hbw.out⟩
  · have hne : s ≠ ⟨#[]⟩ := fun e => h0 (by rw [e]; rfl)
    obtain ⟨g1, g2⟩ := str6_ne hne
    have g3 : s.toList.isEmpty = false := by
      rw [Lib.toList_data, List.isEmpty_eq_false_iff]
      intro e
      exact h0 (by rw [size_bl]; unfold bl; rw [e]; rfl)
    have HB : Hid (∀ k, k < s.size → nameB ((bl s).getD k 0) = false → z = false) := Lib.hid (fun k hk hb => by
      rw [hz]
      cases e : nameOK (bl s) with
      | false => rfl
      | true => rw [((nameOK_iff _).1 e).2 k (by rw [bl_length]; exact hk)] at hb; exact absurd hb (by decide))
    have HE : Hid ((∀ j, j < s.size → nameB ((bl s).getD j 0) = true) → z = true) := Lib.hid (fun h => by
      rw [hz, nameOK_iff]
      refine ⟨fun e => h0 (by rw [size_bl, e]; rfl), fun j hj => h j (by rw [bl_length] at hj; exact hj)⟩)
    clear hz h0 hne
    go_enter Tryz.func133, Tryz.ntmps133
    go_wp2_with fail
    go_loopw [] (fun wr => ∃ pos : Nat, Hid (pos ≤ s.size) ∧ Hid (wr.heap[w.heap.size]? = some (.stringIter s pos)) ∧ Hid (∀ j, j < pos → nameB ((bl s).getD j 0) = true) ∧ Hid (Below w.heap.size w wr)) (fun wr => s.size - wr.iterPos w.heap.size)
    case atStart => exact ⟨0, Lib.hid (Nat.zero_le _), Lib.hid (World.iter_heap w s 0), Lib.hid (fun j hj => absurd hj (Nat.not_lt_zero j)), Lib.hid ((Below.refl _ w).alloc (Nat.le_refl _) _)⟩
    case round =>
      obtain ⟨pos, hps, hit, hch, hbw⟩ := hrel
      by_cases hp : pos < s.size
      · have hd : Hid (1 ≤ (Utf8.decode s pos).2 ∧ ((nameB ((bl s).getD pos 0) = true ∧ (Utf8.decode s pos).1 = ((bl s).getD pos 0).toNat ∧ (Utf8.decode s pos).2 = 1) ∨ (nameB ((bl s).getD pos 0) = false ∧ ((Utf8.decode s pos).1 = ((bl s).getD pos 0).toNat ∨ 128 ≤ (Utf8.decode s pos).1)))) := Lib.hid (by
          rw [bl_at s pos hp]
          by_cases ha : (s[pos]'hp).toNat < 128
          · rw [decode_ascii s pos hp ha]
            cases hnb : nameB (s[pos]'hp) with
            | true => exact ⟨Nat.le_refl _, .inl ⟨rfl, rfl, rfl⟩⟩
            | false => exact ⟨Nat.le_refl _, .inr ⟨rfl, .inl rfl⟩⟩
          · have hh := decode_high s pos hp (by omega)
            refine ⟨hh.2, .inr ⟨?_, .inr hh.1⟩⟩
            unfold nameB
            exact decide_eq_false (by omega))
        have hwd : Hid (1 ≤ (Utf8.decode s pos).2) := Lib.hid hd.out.1
        have hit2 := Lib.hid (Lib.iterAt_heap wr w.heap.size s pos (pos + (Utf8.decode s pos).2) hit.out)
        have hb2 := Lib.hid (Lib.below_iterAt hbw.out (k := w.heap.size) (Nat.le_refl _) s (pos + (Utf8.decode s pos).2))
        have hnx : ∀ ty, (Instr.next (.pointer (some ⟨w.heap.size, 0, none⟩)) true ty).run Tryz.prog wr = _ := fun ty => Lib.run_next_any_at wr w.heap.size s pos ty hit.out hp
        generalize wr.iterAt w.heap.size s (pos + (Utf8.decode s pos).2) = W1 at *
        obtain ⟨c, ec⟩ : ∃ c : UInt8, c = (bl s).getD pos 0 := ⟨_, rfl⟩
        have HBK : Hid (nameB c = false → z = false) := Lib.hid (by rw [ec]; exact HB.out pos hp)
        obtain ⟨n, hn⟩ : ∃ n, n = (Utf8.decode s pos).1 := ⟨_, rfl⟩
        obtain ⟨dw, hdw⟩ : ∃ dw, dw = (Utf8.decode s pos).2 := ⟨_, rfl⟩
        have hd' := hd.out
        rw [← hn, ← hdw, ← ec] at hd'
        have HNX : Hid (((97 ≤ n ∧ n ≤ 122) ∨ (48 ≤ n ∧ n ≤ 57) ∨ n = 47 ∨ n = 46 ∨ n = 45) → pos + dw ≤ s.size ∧ ∀ j, j < pos + dw → nameB ((bl s).getD j 0) = true) := Lib.hid (fun h => by
          rcases hd'.2 with ⟨h1, h2, h3⟩ | ⟨h1, h2 | h2⟩
          · refine ⟨by omega, fun j hj => ?_⟩
            by_cases e : j = pos
            · rw [e, ← ec]; exact h1
            · exact hch.out j (by omega)
          · exfalso
            unfold nameB at h1
            rw [← h2] at h1
            exact absurd h (of_decide_eq_false h1)
          · omega)
        have HW : Hid (¬ ((97 ≤ n ∧ n ≤ 122) ∨ (48 ≤ n ∧ n ≤ 57) ∨ n = 47 ∨ n = 46 ∨ n = 45) → z = false) := Lib.hid (fun h => by
          rcases hd'.2 with ⟨h1, h2, h3⟩ | ⟨h1, _⟩
          · exfalso
            unfold nameB at h1
            rw [← h2] at h1
            exact h (of_decide_eq_true h1)
          · exact HBK.out h1)
        rw [← hn] at hnx
        rw [← hdw] at hit2 hwd
        clear ec hn hdw hd hd' HBK
        have hcs : n < 45 ∨ n = 45 ∨ n = 46 ∨ n = 47 ∨ (48 ≤ n ∧ n ≤ 57) ∨ (57 < n ∧ n < 97) ∨ (97 ≤ n ∧ n ≤ 122) ∨ 122 < n := by omega
        have ef : ∀ m : Nat, n ≠ m → ((n : Int) == (m : Int)) = false := fun m h => by rw [beq_eq_false_iff_ne]; omega
        rcases hcs with h | h | h | h | ⟨h, h'⟩ | ⟨h, h'⟩ | ⟨h, h'⟩ | h
        · have HX := Lib.hid (HW.out (by omega))
          have q1 : ((n : Int) == 47) = false := ef 47 (by omega)
          have q2 : ((n : Int) == 46) = false := ef 46 (by omega)
          have q3 : ((n : Int) == 45) = false := ef 45 (by omega)
          clear ef
          go_wp2_with fail
          go_ret
          exact ⟨ret6_bool HX.out.symm, hb2.out⟩
        · subst h
          have HP := Lib.hid (HNX.out (by omega)).1
          have HX := Lib.hid (HNX.out (by omega)).2
          clear ef
          go_wp2_with fail
          go_roundw
          case rel => exact ⟨_, HP, hit2, HX, hb2⟩
          case measure => simp only [World.iterPos, hit2.out, hit.out]; have := hwd.out; omega
        · subst h
          have HP := Lib.hid (HNX.out (by omega)).1
          have HX := Lib.hid (HNX.out (by omega)).2
          clear ef
          go_wp2_with fail
          go_roundw
          case rel => exact ⟨_, HP, hit2, HX, hb2⟩
          case measure => simp only [World.iterPos, hit2.out, hit.out]; have := hwd.out; omega
        · subst h
          have HP := Lib.hid (HNX.out (by omega)).1
          have HX := Lib.hid (HNX.out (by omega)).2
          clear ef
          go_wp2_with fail
          go_roundw
          case rel => exact ⟨_, HP, hit2, HX, hb2⟩
          case measure => simp only [World.iterPos, hit2.out, hit.out]; have := hwd.out; omega
        · have HP := Lib.hid (HNX.out (by omega)).1
          have HX := Lib.hid (HNX.out (by omega)).2
          clear ef
          go_wp2_with fail
          go_roundw
          case rel => exact ⟨_, HP, hit2, HX, hb2⟩
          case measure => simp only [World.iterPos, hit2.out, hit.out]; have := hwd.out; omega
        · have HX := Lib.hid (HW.out (by omega))
          have q1 : ((n : Int) == 47) = false := ef 47 (by omega)
          have q2 : ((n : Int) == 46) = false := ef 46 (by omega)
          have q3 : ((n : Int) == 45) = false := ef 45 (by omega)
          have q4 : decide ((n : Int) ≤ 57) = false := decide_eq_false (by omega)
          clear ef
          go_wp2_with fail
          go_ret
          exact ⟨ret6_bool HX.out.symm, hb2.out⟩
        · have HP := Lib.hid (HNX.out (by omega)).1
          have HX := Lib.hid (HNX.out (by omega)).2
          clear ef
          go_wp2_with fail
          go_roundw
          case rel => exact ⟨_, HP, hit2, HX, hb2⟩
          case measure => simp only [World.iterPos, hit2.out, hit.out]; have := hwd.out; omega
        · have HX := Lib.hid (HW.out (by omega))
          have q1 : ((n : Int) == 47) = false := ef 47 (by omega)
          have q2 : ((n : Int) == 46) = false := ef 46 (by omega)
          have q3 : ((n : Int) == 45) = false := ef 45 (by omega)
          have q4 : decide ((n : Int) ≤ 57) = false := decide_eq_false (by omega)
          have q5 : decide ((n : Int) ≤ 122) = false := decide_eq_false (by omega)
          clear ef
          go_wp2_with fail
          go_ret
          exact ⟨ret6_bool HX.out.symm, hb2.out⟩
      · have hnx : ∀ ty, (Instr.next (.pointer (some ⟨w.heap.size, 0, none⟩)) true ty).run Tryz.prog wr = _ := fun ty => Lib.run_next_end_at wr w.heap.size s pos ty hit.out hp
        have HQ := Lib.hid (HE.out (fun j hj => hch.out j (by omega)))
        clear hp
        go_wp2_with fail
        go_ret
        exact ⟨ret6_bool HQ.out.symm, hbw.out⟩
end Go.Proofs.YthemopejebioaaaGreat.Pl

namespace Go.Proofs.YthemopejebioaaaGreat.Pl
open Go.RowKit

theorem row1 (w : World) (a : ByteArray) : TxtRow (w.alloc (.cells #[.string a] 9)) (some ⟨w.heap.size, 0, none⟩) [a] :=
  .inr ⟨w.heap.size, 0, rfl, by simp, fun j hj => by
    obtain rfl : j = 0 := by simp at hj; omega
    simp⟩
set_option maxRecDepth 100000 in
theorem rrow6_any (l : List ByteArray) (ao : Option Addr) (cap : Nat) (hl : l.length ≤ 1000) (hx : ∀ x ∈ l, x.size ≤ 100000) (w : World) (hrow : TxtRow w ao l) :
    Calls Tryz.prog 40 #[.slice ao l.length cap] w fun e w' => e = .returned (st2 (rowP (l.map bl))) ∧ Below w.heap.size w w' := by
  have HN := Lib.hid (fun V => refnum_any l.length (by rw [two64]; omega) V)
  have hs : (⟨(enc l.length).toArray⟩ : ByteArray).size ≤ 9 := by rw [size_lit]; exact (enc_len _).2
  have hcat : (⟨#[114]⟩ : ByteArray).size + (⟨(enc l.length).toArray⟩ : ByteArray).size ≤ 9223372036854775807 := by
    have h3 : (⟨#[114]⟩ : ByteArray).size = 1 := rfl
    omega
  have hf : (⟨#[114]⟩ ++ ⟨(enc l.length).toArray⟩ : ByteArray).size ≤ 100 := by
    rw [ByteArray.size_append]
    have h3 : (⟨#[114]⟩ : ByteArray).size = 1 := rfl
    omega
  have HE : Hid (bl (⟨#[114]⟩ ++ ⟨(enc l.length).toArray⟩ : ByteArray) = 114 :: enc (l.map bl).length) := Lib.hid (by rw [cat_front, bl_mk, List.length_map])
  have HM := Lib.hid (fun V hV => made_any (⟨#[114]⟩ ++ ⟨(enc l.length).toArray⟩) l ao cap hf hl hx V hV)
  rw [HE.out] at HM
  have HROW := Lib.hid hrow
  have hcv : ∀ V : World, (convert 3 99 (.int .i64 ((l.length : Nat) : Int))).run Tryz.prog V = .ok (.int .u64 ((l.length : Nat) : Int)) V := fun V => by
    have hw : IntKind.u64.wrap ((l.length : Nat) : Int) = ((l.length : Nat) : Int) := IntWalk.u64_in _ (by omega)
    go_simp
  generalize (⟨(enc l.length).toArray⟩ : ByteArray) = t at *
  have HP : Hid (rowP (l.map bl) = madeP (114 :: enc (l.map bl).length) (l.map bl)) := Lib.hid rfl
  obtain ⟨n, hn⟩ : ∃ n, n = l.length := ⟨_, rfl⟩
  rw [← hn] at HN hcv HM ⊢
  clear hs hf hx hrow hn hl
  go_enter Tryz.func40, Tryz.ntmps40
  go_wp2_with fail
  refine (HN.out w).mono ?_; rintro e w1 ⟨rfl, b1⟩
  have R1 := Lib.hid (HROW.out.below b1)
  have B1 := Lib.hid b1
  clear b1
  go_wp2_with fail
  refine (HM.out w1 R1.out).mono ?_; rintro e w2 ⟨rfl, b2⟩
  have B2 := Lib.hid (below_step B1.out b2)
  clear b2
  unfold st2
  go_wp2_with fail
  go_ret2
  exact ⟨by rw [HP.out, List.length_map]; rfl, B2.out⟩

def tb2 (h : List UInt8 × Bool) : Value := .tuple #[.string ⟨h.1.toArray⟩, .bool h.2]
set_option maxHeartbeats 1000000 in
set_option maxRecDepth 100000 in
theorem rtext6_any (s : ByteArray) (hs : s.size ≤ 281474976710656) (w : World) :
    Calls Tryz.prog 51 #[.string s] w fun e w' => e = .returned (tb2 (textP (bl s))) ∧ Below w.heap.size w w' := by
  have HM := Lib.hid (rmay_any s hs w)
  obtain ⟨z, hz⟩ : ∃ z, z = textP (bl s) := ⟨_, rfl⟩
  rw [← hz]
  unfold textP at hz
  by_cases hc : checkP (bl s) = 0
  · rw [show (checkP (bl s) == 0) = true by rw [hc]; rfl] at HM
    have hpos : 0 < s.size := by
      rcases Nat.eq_zero_or_pos s.size with h | h
      · rw [bl_nil h] at hc; exact absurd hc (by decide)
      · exact h
    obtain ⟨b, hb⟩ : ∃ b : UInt8, b = (bl s).getD 0 0 := ⟨_, rfl⟩
    have i1 : ∀ V : World, (Instr.index 9 (.string s) (.int .i64 0)).run Tryz.prog V = .ok (.int .u8 (b.toNat : Int)) V := tstr_index s 0 b hpos hb
    have hq := bl_cons hpos
    rw [← hb] at hq
    have hh : (bl s).head? = some b := by rw [hq]; rfl
    obtain ⟨n, hn⟩ : ∃ n, n = b.toNat := ⟨_, rfl⟩
    have b_of : ∀ c : UInt8, b = c ↔ n = c.toNat := fun c => by rw [hn]; exact ⟨fun e => by rw [e], fun e => UInt8.toNat_inj.1 e⟩
    rw [← hn] at i1
    have sl : ∀ V : World, (Instr.sliceAt 9 (.string s) (some (.int .i64 1)) none none).run Tryz.prog V = .ok (.string (s.extract 1 s.size)) V := tslice_from s 1 (by omega)
    have hx : bl (s.extract 1 s.size) = (bl s).drop 1 := bl_from s 1
    have hxs : (s.extract 1 s.size).size ≤ 281474976710656 := by rw [size_bl, hx, List.length_drop, bl_length]; omega
    rw [← hx] at hz
    generalize s.extract 1 s.size = x at *
    have HT := Lib.hid (fun V => refreadtext_any x 1024 V (by omega) (by decide) (by decide))
    rw [show x.data.toList = bl x from rfl] at HT
    have e1 : (bl s).head? = some 100 ↔ n = 100 := by rw [hh]; exact ⟨fun e => (b_of 100).1 (Option.some.inj e), fun e => by rw [(b_of 100).2 e]⟩
    have e2 : (bl s).head? = some 97 ↔ n = 97 := by rw [hh]; exact ⟨fun e => (b_of 97).1 (Option.some.inj e), fun e => by rw [(b_of 97).2 e]⟩
    simp only [e1, e2] at hz
    by_cases h100 : n = 100
    · have HZ := Lib.hid (hz.trans (if_pos ⟨hc, .inl h100⟩))
      subst h100
      clear hz hb hq hh hn b_of hx hxs e1 e2 hc hs
      go_enter Tryz.func51, Tryz.ntmps51
      go_wp2_with fail
      refine HM.out.mono ?_; rintro e w1 ⟨rfl, b1⟩
      have B1 := Lib.hid b1
      clear b1
      go_wp2_with fail
      refine (HT.out w1).mono ?_; rintro e w2 ⟨rfl, b2⟩
      have B2 := Lib.hid (below_step B1.out b2)
      clear b2
      go_wp2_with fail
      go_ret2
      exact ⟨by rw [HZ.out]; rfl, B2.out⟩
    · have q1 : ((n : Int) != 100) = true := by rw [bne_iff_ne]; omega
      by_cases h97 : n = 97
      · have HZ := Lib.hid (hz.trans (if_pos ⟨hc, .inr h97⟩))
        subst h97
        clear hz hb hq hh hn b_of hx hxs e1 e2 hc hs h100
        go_enter Tryz.func51, Tryz.ntmps51
        go_wp2_with fail
        refine HM.out.mono ?_; rintro e w1 ⟨rfl, b1⟩
        have B1 := Lib.hid b1
        clear b1
        go_wp2_with fail
        refine (HT.out w1).mono ?_; rintro e w2 ⟨rfl, b2⟩
        have B2 := Lib.hid (below_step B1.out b2)
        clear b2
        go_wp2_with fail
        go_ret2
        exact ⟨by rw [HZ.out]; rfl, B2.out⟩
      · have q2 : ((n : Int) != 97) = true := by rw [bne_iff_ne]; omega
        have HZ := Lib.hid (hz.trans (if_neg (fun h => h.2.elim h100 h97)))
        clear hz hb hq hh hn b_of hx hxs e1 e2 hc hs h100 h97
        go_enter Tryz.func51, Tryz.ntmps51
        go_wp2_with fail
        refine HM.out.mono ?_; rintro e w1 ⟨rfl, b1⟩
        have B1 := Lib.hid b1
        clear b1
        go_wp2_with fail
        go_ret2
        exact ⟨by rw [HZ.out]; rfl, B1.out⟩
  · rw [show (checkP (bl s) == 0) = false by rw [beq_eq_false_iff_ne]; exact hc] at HM
    have HZ := Lib.hid (hz.trans (if_neg (fun h => hc h.1)))
    clear hz hc hs
    go_enter Tryz.func51, Tryz.ntmps51
    go_wp2_with fail
    refine HM.out.mono ?_; rintro e w1 ⟨rfl, b1⟩
    have B1 := Lib.hid b1
    clear b1
    go_wp2_with fail
    go_ret2
    exact ⟨by rw [HZ.out]; rfl, B1.out⟩
end Go.Proofs.YthemopejebioaaaGreat.Pl

namespace Go.Proofs.YthemopejebioaaaGreat.Pl
open Go.RowKit

noncomputable def readnumP (s : List UInt8) : Nat × Bool :=
  if (textP s).2 = true ∧ kindP s = 1 ∧ (rdn (textP s).1).2.2 = 0 ∧ (rdn (textP s).1).2.1 = (textP s).1.length ∧ (rdn (textP s).1).1 ≤ 2147483647 then ((rdn (textP s).1).1, true) else (0, false)
theorem rdt_out (l : List UInt8) (m : Int) : (rdt l m).1.length ≤ l.length := by
  unfold rdt
  by_cases h1 : (rdn l).2.2 ≠ 0
  · rw [if_pos h1]; simp
  · rw [if_neg h1]
    by_cases h2 : max m 0 < ((rdn l).1 : Int)
    · rw [if_pos h2]; simp
    · rw [if_neg h2]
      by_cases h3 : l.length - (rdn l).2.1 < (rdn l).1
      · rw [if_pos h3]; simp
      · rw [if_neg h3]; simp; omega
theorem textP_len (s : List UInt8) : (textP s).1.length ≤ s.length := by
  unfold textP
  by_cases h : checkP s = 0 ∧ (s.head? = some 100 ∨ s.head? = some 97)
  · rw [if_pos h]
    have h1 := rdt_out (s.drop 1) 1024
    rw [List.length_drop] at h1
    simp only
    omega
  · rw [if_neg h]; simp
theorem kindP_le (s : List UInt8) : kindP s ≤ 6 := by
  unfold kindP
  split
  · split
    · omega
    · repeat (split; omega)
      omega
  · omega
def nb2 (h : Nat × Bool) : Value := .tuple #[.int .i64 h.1, .bool h.2]
set_option maxHeartbeats 1000000 in
set_option maxRecDepth 100000 in
theorem rreadnum6_any (s : ByteArray) (hs : s.size ≤ 281474976710656) (w : World) :
    Calls Tryz.prog 52 #[.string s] w fun e w' => e = .returned (nb2 (readnumP (bl s))) ∧ Below w.heap.size w w' := by
  have HT := Lib.hid (rtext6_any s hs w)
  have HK := Lib.hid (fun V => rkind_any s hs V)
  obtain ⟨z, hz⟩ : ∃ z, z = readnumP (bl s) := ⟨_, rfl⟩
  rw [← hz]
  unfold readnumP at hz
  have hk6 := kindP_le (bl s)
  have hx1 : (textP (bl s)).1.length ≤ 281474976710656 := by have := textP_len (bl s); rw [bl_length] at this; omega
  generalize textP (bl s) = q at *
  obtain ⟨x, is⟩ := q
  simp only at hz hx1
  generalize kindP (bl s) = kd at *
  have HR := Lib.hid (fun V => refreadnum_any ⟨x.toArray⟩ (by rw [size_lit]; omega) V)
  have hxe : (⟨x.toArray⟩ : ByteArray).data.toList = x := rfl
  rw [hxe] at HR
  have hsz : (⟨x.toArray⟩ : ByteArray).size = x.length := size_lit x
  clear hxe
  rw [show tb2 (x, is) = .tuple #[.string ⟨x.toArray⟩, .bool is] from rfl] at HT
  generalize (⟨x.toArray⟩ : ByteArray) = X at *
  obtain ⟨v, m, er, hr⟩ : ∃ v m er, rdn x = (v, m, er) := ⟨_, _, _, rfl⟩
  have hmx : m ≤ 281474976710656 := by
    rcases rdn_err hr with h | ⟨_, h, _⟩
    · subst h
      have h1 := (rdn_sound hr).2.1
      omega
    · omega
  generalize x.length = xl at *
  rw [hr] at HR hz
  simp only at HR hz
  have HRX := Lib.hid (show (X.size : Int) = xl by rw [hsz])
  clear hr hs hx1
  cases is with
  | false =>
    have HZ : Hid (z = (0, false)) := Lib.hid (by rw [hz, if_neg]; rintro ⟨h, _⟩; cases h)
    clear hz
    go_enter Tryz.func52, Tryz.ntmps52
    go_wp2_with fail
    refine HT.out.mono ?_; rintro e w1 ⟨rfl, b1⟩
    have B1 := Lib.hid b1
    clear b1
    go_wp2_with fail
    go_ret2
    exact ⟨by rw [HZ.out]; rfl, B1.out⟩
  | true =>
    by_cases hk : kd = 1
    · subst hk
      by_cases he : er = 0
      · subst he
        by_cases hm : m = xl
        · by_cases hvm : v ≤ 2147483647
          · have HZ : Hid (z = (v, true)) := Lib.hid (by rw [hz, if_pos ⟨rfl, rfl, rfl, hm, hvm⟩])
            have hcv : ∀ V : World, (convert 99 3 (.int .u64 (v : Int))).run Tryz.prog V = .ok (.int .i64 (v : Int)) V := fun V => by
              have hw : IntKind.i64.wrap (v : Int) = (v : Int) := IntWalk.i64_in _ (by omega)
              go_simp
            subst hm
            clear hz
            go_enter Tryz.func52, Tryz.ntmps52
            go_wp2_with fail
            refine HT.out.mono ?_; rintro e w1 ⟨rfl, b1⟩
            have B1 := Lib.hid b1
            clear b1
            go_wp2_with fail
            refine (HK.out w1).mono ?_; rintro e w2 ⟨rfl, b2⟩
            have B2 := Lib.hid (below_step B1.out b2)
            clear b2
            go_wp2_with fail
            refine (HR.out w2).mono ?_; rintro e w3 ⟨rfl, b3⟩
            have B3 := Lib.hid (below_step B2.out b3)
            clear b3
            go_wp2_with fail
            go_ret2
            exact ⟨by rw [HZ.out]; rfl, B3.out⟩
          · have HZ : Hid (z = (0, false)) := Lib.hid (by rw [hz, if_neg]; rintro ⟨_, _, _, _, h⟩; exact hvm h)
            subst hm
            clear hz
            go_enter Tryz.func52, Tryz.ntmps52
            go_wp2_with fail
            refine HT.out.mono ?_; rintro e w1 ⟨rfl, b1⟩
            have B1 := Lib.hid b1
            clear b1
            go_wp2_with fail
            refine (HK.out w1).mono ?_; rintro e w2 ⟨rfl, b2⟩
            have B2 := Lib.hid (below_step B1.out b2)
            clear b2
            go_wp2_with fail
            refine (HR.out w2).mono ?_; rintro e w3 ⟨rfl, b3⟩
            have B3 := Lib.hid (below_step B2.out b3)
            clear b3
            go_wp2_with fail
            go_ret2
            exact ⟨by rw [HZ.out]; rfl, B3.out⟩
        · have HZ : Hid (z = (0, false)) := Lib.hid (by rw [hz, if_neg]; rintro ⟨_, _, _, h, _⟩; exact hm h)
          have q1 : ((m : Int) != (xl : Int)) = true := by rw [bne_iff_ne]; omega
          clear hz
          go_enter Tryz.func52, Tryz.ntmps52
          go_wp2_with fail
          refine HT.out.mono ?_; rintro e w1 ⟨rfl, b1⟩
          have B1 := Lib.hid b1
          clear b1
          go_wp2_with fail
          refine (HK.out w1).mono ?_; rintro e w2 ⟨rfl, b2⟩
          have B2 := Lib.hid (below_step B1.out b2)
          clear b2
          go_wp2_with fail
          refine (HR.out w2).mono ?_; rintro e w3 ⟨rfl, b3⟩
          have B3 := Lib.hid (below_step B2.out b3)
          clear b3
          go_wp2_with fail
          go_ret2
          exact ⟨by rw [HZ.out]; rfl, B3.out⟩
      · have HZ : Hid (z = (0, false)) := Lib.hid (by rw [hz, if_neg]; rintro ⟨_, _, h, _, _⟩; exact he h)
        have q1 : ((er : Int) != 0) = true := by rw [bne_iff_ne]; omega
        clear hz
        go_enter Tryz.func52, Tryz.ntmps52
        go_wp2_with fail
        refine HT.out.mono ?_; rintro e w1 ⟨rfl, b1⟩
        have B1 := Lib.hid b1
        clear b1
        go_wp2_with fail
        refine (HK.out w1).mono ?_; rintro e w2 ⟨rfl, b2⟩
        have B2 := Lib.hid (below_step B1.out b2)
        clear b2
        go_wp2_with fail
        refine (HR.out w2).mono ?_; rintro e w3 ⟨rfl, b3⟩
        have B3 := Lib.hid (below_step B2.out b3)
        clear b3
        go_wp2_with fail
        go_ret2
        exact ⟨by rw [HZ.out]; rfl, B3.out⟩
    · have HZ : Hid (z = (0, false)) := Lib.hid (by rw [hz, if_neg]; rintro ⟨_, h, _⟩; exact hk h)
      have q1 : ((kd : Int) != 1) = true := by rw [bne_iff_ne]; omega
      clear hz
      go_enter Tryz.func52, Tryz.ntmps52
      go_wp2_with fail
      refine HT.out.mono ?_; rintro e w1 ⟨rfl, b1⟩
      have B1 := Lib.hid b1
      clear b1
      go_wp2_with fail
      refine (HK.out w1).mono ?_; rintro e w2 ⟨rfl, b2⟩
      have B2 := Lib.hid (below_step B1.out b2)
      clear b2
      go_wp2_with fail
      go_ret2
      exact ⟨by rw [HZ.out]; rfl, B2.out⟩
end Go.Proofs.YthemopejebioaaaGreat.Pl

namespace Go.Proofs.YthemopejebioaaaGreat.Pl
open Go.RowKit

open Classical in
noncomputable def onceF (out : List ByteArray) (x : ByteArray) : List ByteArray := if x ∈ out then out else out ++ [x]
end Go.Proofs.YthemopejebioaaaGreat.Pl

namespace Go.Proofs.YthemopejebioaaaGreat.Pl
open Go.RowKit

end Go.Proofs.YthemopejebioaaaGreat.Pl

namespace Go.Proofs.YthemopejebioaaaGreat.Pl
open Go.RowKit

end Go.Proofs.YthemopejebioaaaGreat.Pl
