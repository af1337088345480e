/- What the document's Row, Hash, Mac, Seal, Text and ReadNum of layer 6 answer. -/
import Derived.Test.YtbdlegjklfkdmaaGreatDoorBallC11
namespace Go.Proofs.YtbdlegjklfkdmaaGreatDoor.Pl
open Go.RowKit

theorem row1 (w : World) (a : ByteArray) : TxtRow (w.alloc (.cells #[.string a] 9)) (some ⟨w.heap.size, 0, none⟩) [a] :=
  .inr ⟨w.heap.size, 0, rfl, by simp, fun j hj => by
    obtain rfl : j = 0 := by simp at hj; omega
    simp⟩
theorem row2 (w : World) (a b : ByteArray) : TxtRow (w.alloc (.cells #[.string a, .string b] 9)) (some ⟨w.heap.size, 0, none⟩) [a, b] :=
  .inr ⟨w.heap.size, 0, rfl, by simp, fun j hj => by
    match j, hj with
    | 0, _ => simp
    | 1, _ => simp⟩
set_option maxRecDepth 100000 in
theorem rmac_any (a b : ByteArray) (ha : a.size ≤ 100000) (hb : b.size ≤ 100000) (w : World) :
    Calls Tryz.prog 98 #[.string a, .string b] w fun e w' => e = .returned (st2 (madeP [109] [bl a, bl b])) ∧ Below w.heap.size w w' := by
  have HM := Lib.hid (made_any ⟨#[109]⟩ [a, b] (some ⟨w.heap.size, 0, none⟩) 2 (by decide) (by simp) (fun x hx => by simp at hx; rcases hx with rfl | rfl <;> assumption) _ (row2 w a b))
  have B0 := Lib.hid ((Below.refl w.heap.size w).alloc (Nat.le_refl _) (.cells #[.string a, .string b] 9))
  clear ha hb
  go_enter Tryz.func98, Tryz.ntmps98
  go_wp2_with fail
  refine HM.out.mono ?_; rintro e w1 ⟨rfl, b1⟩
  have B1 := Lib.hid (below_step B0.out b1)
  clear b1
  unfold st2
  go_wp2_with fail
  go_ret2
  exact ⟨rfl, B1.out⟩
set_option maxRecDepth 100000 in
theorem rrow6_any (l : List ByteArray) (ao : Option Addr) (cap : Nat) (hl : l.length ≤ 1000) (hx : ∀ x ∈ l, x.size ≤ 100000) (w : World) (hrow : TxtRow w ao l) :
    Calls Tryz.prog 32 #[.slice ao l.length cap] w fun e w' => e = .returned (st2 (rowP (l.map bl))) ∧ Below w.heap.size w w' := by
  have HN := Lib.hid (fun V => refnum_any l.length (by rw [two64]; omega) V)
  have hs : (⟨(enc l.length).toArray⟩ : ByteArray).size ≤ 9 := by rw [size_lit]; exact (enc_len _).2
  have hcat : (⟨#[114]⟩ : ByteArray).size + (⟨(enc l.length).toArray⟩ : ByteArray).size ≤ 9223372036854775807 := by
    have h3 : (⟨#[114]⟩ : ByteArray).size = 1 := rfl
    omega
  have hf : (⟨#[114]⟩ ++ ⟨(enc l.length).toArray⟩ : ByteArray).size ≤ 100 := by
    rw [ByteArray.size_append]
    have h3 : (⟨#[114]⟩ : ByteArray).size = 1 := rfl
    omega
  have HE : Hid (bl (⟨#[114]⟩ ++ ⟨(enc l.length).toArray⟩ : ByteArray) = 114 :: enc (l.map bl).length) := Lib.hid (by rw [cat_front, bl_mk, List.length_map])
  have HM := Lib.hid (fun V hV => made_any (⟨#[114]⟩ ++ ⟨(enc l.length).toArray⟩) l ao cap hf hl hx V hV)
  rw [HE.out] at HM
  have HROW := Lib.hid hrow
  have hcv : ∀ V : World, (convert 3 108 (.int .i64 ((l.length : Nat) : Int))).run Tryz.prog V = .ok (.int .u64 ((l.length : Nat) : Int)) V := fun V => by
    have hw : IntKind.u64.wrap ((l.length : Nat) : Int) = ((l.length : Nat) : Int) := IntWalk.u64_in _ (by omega)
    go_simp
  generalize (⟨(enc l.length).toArray⟩ : ByteArray) = t at *
  have HP : Hid (rowP (l.map bl) = madeP (114 :: enc (l.map bl).length) (l.map bl)) := Lib.hid rfl
  obtain ⟨n, hn⟩ : ∃ n, n = l.length := ⟨_, rfl⟩
  rw [← hn] at HN hcv HM ⊢
  clear hs hf hx hrow hn hl
  go_enter Tryz.func32, Tryz.ntmps32
  go_wp2_with fail
  refine (HN.out w).mono ?_; rintro e w1 ⟨rfl, b1⟩
  have R1 := Lib.hid (HROW.out.below b1)
  have B1 := Lib.hid b1
  clear b1
  go_wp2_with fail
  refine (HM.out w1 R1.out).mono ?_; rintro e w2 ⟨rfl, b2⟩
  have B2 := Lib.hid (below_step B1.out b2)
  clear b2
  unfold st2
  go_wp2_with fail
  go_ret2
  exact ⟨by rw [HP.out, List.length_map]; rfl, B2.out⟩

def tb2 (h : List UInt8 × Bool) : Value := .tuple #[.string ⟨h.1.toArray⟩, .bool h.2]
set_option maxHeartbeats 1000000 in
set_option maxRecDepth 100000 in
theorem rtext6_any (s : ByteArray) (hs : s.size ≤ 281474976710656) (w : World) :
    Calls Tryz.prog 91 #[.string s] w fun e w' => e = .returned (tb2 (textP (bl s))) ∧ Below w.heap.size w w' := by
  have HM := Lib.hid (rmay_any s hs w)
  obtain ⟨z, hz⟩ : ∃ z, z = textP (bl s) := ⟨_, rfl⟩
  rw [← hz]
  unfold textP at hz
  by_cases hc : checkP (bl s) = 0
  · rw [show (checkP (bl s) == 0) = true by rw [hc]; rfl] at HM
    have hpos : 0 < s.size := by
      rcases Nat.eq_zero_or_pos s.size with h | h
      · rw [bl_nil h] at hc; exact absurd hc (by decide)
      · exact h
    obtain ⟨b, hb⟩ : ∃ b : UInt8, b = (bl s).getD 0 0 := ⟨_, rfl⟩
    have i1 : ∀ V : World, (Instr.index 9 (.string s) (.int .i64 0)).run Tryz.prog V = .ok (.int .u8 (b.toNat : Int)) V := tstr_index s 0 b hpos hb
    have hq := bl_cons hpos
    rw [← hb] at hq
    have hh : (bl s).head? = some b := by rw [hq]; rfl
    obtain ⟨n, hn⟩ : ∃ n, n = b.toNat := ⟨_, rfl⟩
    have b_of : ∀ c : UInt8, b = c ↔ n = c.toNat := fun c => by rw [hn]; exact ⟨fun e => by rw [e], fun e => UInt8.toNat_inj.1 e⟩
    rw [← hn] at i1
    have sl : ∀ V : World, (Instr.sliceAt 9 (.string s) (some (.int .i64 1)) none none).run Tryz.prog V = .ok (.string (s.extract 1 s.size)) V := tslice_from s 1 (by omega)
    have hx : bl (s.extract 1 s.size) = (bl s).drop 1 := bl_from s 1
    have hxs : (s.extract 1 s.size).size ≤ 281474976710656 := by rw [size_bl, hx, List.length_drop, bl_length]; omega
    rw [← hx] at hz
    generalize s.extract 1 s.size = x at *
    have HT := Lib.hid (fun V => refreadtext_any x 1024 V (by omega) (by decide) (by decide))
    rw [show x.data.toList = bl x from rfl] at HT
    have e1 : (bl s).head? = some 100 ↔ n = 100 := by rw [hh]; exact ⟨fun e => (b_of 100).1 (Option.some.inj e), fun e => by rw [(b_of 100).2 e]⟩
    have e2 : (bl s).head? = some 97 ↔ n = 97 := by rw [hh]; exact ⟨fun e => (b_of 97).1 (Option.some.inj e), fun e => by rw [(b_of 97).2 e]⟩
    simp only [e1, e2] at hz
    by_cases h100 : n = 100
    · have HZ := Lib.hid (hz.trans (if_pos ⟨hc, .inl h100⟩))
      subst h100
      clear hz hb hq hh hn b_of hx hxs e1 e2 hc hs
      go_enter Tryz.func91, Tryz.ntmps91
      go_wp2_with fail
      refine HM.out.mono ?_; rintro e w1 ⟨rfl, b1⟩
      have B1 := Lib.hid b1
      clear b1
      go_wp2_with fail
      refine (HT.out w1).mono ?_; rintro e w2 ⟨rfl, b2⟩
      have B2 := Lib.hid (below_step B1.out b2)
      clear b2
      go_wp2_with fail
      go_ret2
      exact ⟨by rw [HZ.out]; rfl, B2.out⟩
    · have q1 : ((n : Int) != 100) = true := by rw [bne_iff_ne]; omega
      by_cases h97 : n = 97
      · have HZ := Lib.hid (hz.trans (if_pos ⟨hc, .inr h97⟩))
        subst h97
        clear hz hb hq hh hn b_of hx hxs e1 e2 hc hs h100
        go_enter Tryz.func91, Tryz.ntmps91
        go_wp2_with fail
        refine HM.out.mono ?_; rintro e w1 ⟨rfl, b1⟩
        have B1 := Lib.hid b1
        clear b1
        go_wp2_with fail
        refine (HT.out w1).mono ?_; rintro e w2 ⟨rfl, b2⟩
        have B2 := Lib.hid (below_step B1.out b2)
        clear b2
        go_wp2_with fail
        go_ret2
        exact ⟨by rw [HZ.out]; rfl, B2.out⟩
      · have q2 : ((n : Int) != 97) = true := by rw [bne_iff_ne]; omega
        have HZ := Lib.hid (hz.trans (if_neg (fun h => h.2.elim h100 h97)))
        clear hz hb hq hh hn b_of hx hxs e1 e2 hc hs h100 h97
        go_enter Tryz.func91, Tryz.ntmps91
        go_wp2_with fail
        refine HM.out.mono ?_; rintro e w1 ⟨rfl, b1⟩
        have B1 := Lib.hid b1
        clear b1
        go_wp2_with fail
        go_ret2
        exact ⟨by rw [HZ.out]; rfl, B1.out⟩
  · rw [show (checkP (bl s) == 0) = false by rw [beq_eq_false_iff_ne]; exact hc] at HM
    have HZ := Lib.hid (hz.trans (if_neg (fun h => hc h.1)))
    clear hz hc hs
    go_enter Tryz.func91, Tryz.ntmps91
    go_wp2_with fail
    refine HM.out.mono ?_; rintro e w1 ⟨rfl, b1⟩
    have B1 := Lib.hid b1
    clear b1
    go_wp2_with fail
    go_ret2
    exact ⟨by rw [HZ.out]; rfl, B1.out⟩
end Go.Proofs.YtbdlegjklfkdmaaGreatDoor.Pl
