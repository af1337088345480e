/- The program's own run of steps: Run, Terms. The chapter's examples hold: alive of layer 11 answers true. -/
import Derived.Test.YtpajcalfjfkogaaForgeM21
import Derived.Test.YtpajcalfjfkogaaForgeM11
import Derived.Test.YtpajcalfjfkogaaForgeM10
namespace Go.Proofs.Ytpajcalfjfkogaa.Pl
open Go.RowKit

set_option maxHeartbeats 4000000 in
set_option maxRecDepth 100000 in
theorem run11_any (ss : List Stp) (so : Option Addr) (sc : Nat) (was : List ByteArray) (wo : Option Addr) (wc : Nat) (hs : ∀ x ∈ was, x.size ≤ 281474976710656) (ht : ∀ s ∈ ss, s.text.size ≤ 281474976710656) (hsl : ss.length ≤ 9223372036854775807) (w : World) (hrow : StpRow w so ss) (hwas : TxtRow w wo was) :
    Calls Try.prog 10 #[.slice wo was.length wc, .slice so ss.length sc] w fun e w' => e = .returned (.tuple #[.string ⟨(runP (was.map bl) ss).1.toArray⟩, .int .i64 (runP (was.map bl) ss).2.1, .int .i64 (runP (was.map bl) ss).2.2]) ∧ Below w.heap.size w w' := by
  have HT0 := perform_any ss so sc was wo wc hs ht w hrow hwas
  unfold PerformC at HT0
  have HT := Lib.hid HT0
  clear HT0
  have HPOS := Lib.hid (fun h => terms_pos (was := was.map bl) (ss := ss) h)
  obtain ⟨R, hR⟩ : ∃ R, R = runP (was.map bl) ss := ⟨_, rfl⟩
  rw [← hR]
  unfold runP at hR
  have HR := Lib.hid hR
  clear hR hs ht hrow hwas
  generalize termsP (was.map bl) ss = T at *
  generalize hn : ss.length = n at *
  generalize was.length = m at *
  obtain ⟨L0, p, x⟩ := T
  dsimp only at HT HPOS HR
  go_enter Try.func10, Try.ntmps10
  go_wp2_with fail
  refine HT.out.mono ?_; rintro e w2 ⟨⟨v, L, rfl, hown, hL⟩, b2⟩
  have B2 := Lib.hid b2
  clear b2 HT
  by_cases hx : x = 0
  · subst hx
    obtain ⟨h1, h2, _⟩ := HPOS.out rfl
    have hz := HR.out
    rw [if_pos rfl] at hz
    obtain ⟨al, cl, rfl, hrl⟩ := ownT_row hown
    have hll : L.length = L0.length := by rw [← hL, List.length_map]
    obtain ⟨k, hk⟩ : ∃ k, k + 1 = L.length := ⟨L.length - 1, by omega⟩
    have hk1 : L0.length - 1 = k := by rw [← hL, List.length_map]; omega
    rw [hk1, ← hL] at hz
    have hzz : (L.map bl).getD k [] = bl (L.getD k ByteArray.empty) := termAt_map L (k : Int)
    rw [hzz] at hz
    rw [← hk]
    rcases hrl with e | ⟨g, off, rfl, _, hc⟩
    · rw [e] at hk; simp at hk
    have ck := hc k (by omega)
    have HZ := Lib.hid hz
    generalize L.getD k ByteArray.empty = t at *
    have hkb : k ≤ 9223372036854775806 := by omega
    have hw3 : wrap64 (k : Int) = (k : Int) := IntWalk.wrap64_in _ ⟨by omega, by omega⟩
    have hk0 : (0 : Int) ≤ (k : Int) := by omega
    have hk4 : (k : Int) < (k : Int) + 1 := by omega
    clear h1 h2 hn hz hk1 hzz hc hown hL HPOS HR hk hll
    go_wp2_with fail
    go_ret3
    exact ⟨by rw [HZ.out]; rfl, B2.out⟩
  · have q2 : ((x : Int) != 0) = true := by rw [bne_iff_ne]; omega
    have hz := HR.out
    rw [if_neg hx] at hz
    have HZ := Lib.hid hz
    obtain ⟨al, cl, rfl, hrl⟩ := ownT_row hown
    clear hz hown hL HPOS HR hrl
    go_wp2_with fail
    go_ret3
    exact ⟨by rw [HZ.out]; rfl, B2.out⟩
set_option maxHeartbeats 4000000 in
set_option maxRecDepth 100000 in
theorem terms11_any (ss : List Stp) (so : Option Addr) (sc : Nat) (was : List ByteArray) (wo : Option Addr) (wc : Nat) (hs : ∀ x ∈ was, x.size ≤ 281474976710656) (ht : ∀ s ∈ ss, s.text.size ≤ 281474976710656) (w : World) (hrow : StpRow w so ss) (hwas : TxtRow w wo was) :
    Calls Try.prog 12 #[.slice wo was.length wc, .slice so ss.length sc] w fun e w' => (∃ v L, e = .returned (.tuple #[v, .int .i64 (termsP (was.map bl) ss).2.2]) ∧ OwnT w' w.heap.size v L ∧ L.map bl = (termsP (was.map bl) ss).1) ∧ Below w.heap.size w w' := by
  have HT0 := perform_any ss so sc was wo wc hs ht w hrow hwas
  unfold PerformC at HT0
  have HT := Lib.hid HT0
  clear HT0 hs ht hrow hwas
  generalize termsP (was.map bl) ss = T at *
  generalize ss.length = n at *
  generalize was.length = m at *
  go_enter Try.func12, Try.ntmps12
  go_wp2_with fail
  refine HT.out.mono ?_; rintro e w2 ⟨⟨v, L, rfl, hown, hL⟩, b2⟩
  have O2 := Lib.hid hown
  have L2 := Lib.hid hL
  have B2 := Lib.hid b2
  clear b2 HT hown hL
  go_wp2_with fail
  go_ret2
  exact ⟨⟨v, L, rfl, O2.out, L2.out⟩, B2.out⟩
theorem runC : RunC := fun ss so sc was wo wc h1 h2 h3 h4 V hr hw => run11_any ss so sc was wo wc (fun x hx => by have := h2 x hx; omega) (fun s hs => by have := (h4 s hs).2; omega) (by omega) V hr hw
theorem termsC : TermsC := fun ss so sc was wo wc h1 h2 h3 h4 V hr hw => terms11_any ss so sc was wo wc (fun x hx => by have := h2 x hx; omega) (fun s hs => by have := (h4 s hs).2; omega) V hr hw
end Go.Proofs.Ytpajcalfjfkogaa.Pl

namespace Go.Proofs.Ytpajcalfjfkogaa.Pl
open Go.RowKit

theorem atom_head11 {t : List UInt8} (h : t.length ≤ 32) (hn : nameOK t = true) : HeadOK (97 :: txt t) 0 := by
  intro rest
  rw [List.cons_append, headP, if_neg (by decide), if_pos rfl, rdt_txt (by rw [two64]; omega) rest 32 (by omega), if_neg (by simp [hn])]
  simp [Nat.add_comm]
abbrev fK : Tm := .node (97 :: txt [107]) []
abbrev fN : Tm := .node (100 :: txt [110]) []
abbrev fX : Tm := .node (97 :: txt [120]) []
abbrev fS : Tm := sealT fK fN fX
abbrev fR : Tm := .node (114 :: enc 1) [fK]
theorem fK_enc : fK.enc = [97, 1, 107] := by decide
theorem fN_enc : fN.enc = [100, 1, 110] := by decide
theorem fX_enc : fX.enc = [97, 1, 120] := by decide
abbrev sS : List UInt8 := [115, 97, 1, 107, 100, 1, 110, 97, 1, 120]
abbrev sR : List UInt8 := [114, 1, 97, 1, 107]
theorem fS_enc : fS.enc = sS := by decide
theorem fR_enc : fR.enc = sR := by decide
theorem fS_valid : fS.valid := by
  refine ⟨?_, by decide, by decide⟩
  simp only [Tm.good]
  exact ⟨seal_head, ⟨atom_head11 (by decide) (by decide), trivial⟩, ⟨data_head (by decide), trivial⟩, ⟨atom_head11 (by decide) (by decide), trivial⟩, trivial⟩
theorem fR_valid : fR.valid := by
  refine ⟨?_, by decide, by decide⟩
  simp only [Tm.good]
  exact ⟨row_head (by decide), ⟨atom_head11 (by decide) (by decide), trivial⟩, trivial⟩
theorem fS_made : madeP [115] [[97, 1, 107], [100, 1, 110], [97, 1, 120]] = ([115, 97, 1, 107, 100, 1, 110, 97, 1, 120], 0) := by
  have h := made_again fS_valid
  rw [fS_enc] at h
  refine Eq.trans ?_ h
  decide
theorem fR_made : rowP [[97, 1, 107]] = ([114, 1, 97, 1, 107], 0) := by
  have h := made_again fR_valid
  rw [fR_enc] at h
  refine Eq.trans ?_ h
  decide
theorem sS_check : checkP sS = 0 := by rw [← fS_enc]; exact check_enc fS_valid
theorem sR_check : checkP sR = 0 := by rw [← fR_enc]; exact check_enc fR_valid
theorem sS_parts : (partsP sS).1 = [[97, 1, 107], [100, 1, 110], [97, 1, 120]] := by
  rw [← fS_enc, parts_node fS_valid]
  decide
theorem sR_parts : (partsP sR).1 = [[97, 1, 107]] := by
  rw [← fR_enc, parts_node fR_valid]
  decide
theorem sS_kind : kindP sS = 6 := by
  unfold kindP
  rw [if_pos sS_check]
  decide
theorem sR_kind : kindP sR = 3 := by
  unfold kindP
  rw [if_pos sR_check]
  decide
abbrev em11 : ByteArray := ⟨#[]⟩
abbrev q1 : Stp := ⟨1, 0, 0, 0, 0, em11, []⟩
abbrev q2 : Stp := ⟨1, 0, 0, 0, 1, em11, []⟩
abbrev q3 : Stp := ⟨3, 1, 0, 0, 0, em11, []⟩
abbrev q4 : Stp := ⟨5, 0, 2, 0, 0, em11, []⟩
abbrev q5 : Stp := ⟨5, 0, 0, 0, 0, em11, []⟩
theorem one1 : oneP [sS, sR] [] q1 = (sS, 0) := by
  rw [oneP, if_pos (by decide), step1 _ _ rfl, if_pos (by decide), show termAt [sS, sR] q1.n = sS from rfl, if_pos sS_check]
theorem one2 : oneP [sS, sR] [sS] q2 = (sR, 0) := by
  rw [oneP, if_pos (by decide), step1 _ _ rfl, if_pos (by decide), show termAt [sS, sR] q2.n = sR from rfl, if_pos sR_check]
theorem one3 : oneP [sS, sR] [sS, sR] q3 = ([97, 1, 107], 0) := by
  rw [oneP, if_pos (by decide), step3 _ _ rfl, show termAt [sS, sR] q3.a = sR from rfl, if_pos sR_kind, sR_parts, if_pos (by decide)]
  rfl
theorem one4 : oneP [sS, sR] [sS, sR, [97, 1, 107]] q4 = ([97, 1, 120], 0) := by
  rw [oneP, if_pos (by decide), step5 _ _ rfl, show termAt [sS, sR, [97, 1, 107]] q4.a = sS from rfl, show termAt [sS, sR, [97, 1, 107]] q4.b = [97, 1, 107] from rfl, if_pos sS_kind, sS_parts]
  exact if_pos rfl
theorem one5 : oneP [sS, sR] [sS] q5 = ([], 80) := by
  rw [oneP, if_pos (by decide), step5 _ _ rfl, show termAt [sS] q5.a = sS from rfl, if_pos sS_kind, sS_parts, if_neg (by decide)]
theorem run4 : runP [sS, sR] [q1, q2, q3, q4] = ([97, 1, 120], 0, 0) := by
  have h : termsP [sS, sR] [q1, q2, q3, q4] = ([sS, sR, [97, 1, 107], [97, 1, 120]], 0, 0) := by
    unfold termsP
    rw [if_neg (by decide), if_neg (by decide), stepsP, one1, if_pos rfl, stepsP, show ([] : List (List UInt8)) ++ [(sS, 0).1] = [sS] from rfl, one2, if_pos rfl, stepsP, show [sS] ++ [(sR, 0).1] = [sS, sR] from rfl, one3, if_pos rfl, stepsP, show [sS, sR] ++ [(([97, 1, 107], 0) : List UInt8 × Nat).1] = [sS, sR, [97, 1, 107]] from rfl, one4, if_pos rfl, stepsP]
    rfl
  unfold runP
  rw [h, if_pos rfl]
  rfl
theorem run5 : runP [sS, sR] [q1, q5] = ([], 1, 80) := by
  have h : termsP [sS, sR] [q1, q5] = ([], 1, 80) := by
    unfold termsP
    rw [if_neg (by decide), if_neg (by decide), stepsP, one1, if_pos rfl, stepsP, show ([] : List (List UInt8)) ++ [(sS, 0).1] = [sS] from rfl, one5, if_neg (by decide)]
    rfl
  unfold runP
  rw [h, if_neg (by decide)]
abbrev tbS : ByteArray := ⟨#[115, 97, 1, 107, 100, 1, 110, 97, 1, 120]⟩
abbrev tbR : ByteArray := ⟨#[114, 1, 97, 1, 107]⟩
theorem bl_two : [tbS, tbR].map bl = [sS, sR] := rfl
theorem run_four (g b : Nat) (V : World) (hr : StpRow V (some ⟨b, 0, none⟩) [q1, q2, q3, q4]) (hw : TxtRow V (some ⟨g, 0, none⟩) [tbS, tbR]) :
    Calls Try.prog 10 #[.slice (some ⟨g, 0, none⟩) 2 2, .slice (some ⟨b, 0, none⟩) 4 4] V fun e w' => e = .returned (.tuple #[.string ⟨#[97, 1, 120]⟩, .int .i64 0, .int .i64 0]) ∧ Below V.heap.size V w' := by
  have h := runC [q1, q2, q3, q4] (some ⟨b, 0, none⟩) 4 [tbS, tbR] (some ⟨g, 0, none⟩) 2 (by decide) (by intro x hx; simp only [List.mem_cons, List.not_mem_nil, or_false] at hx; rcases hx with rfl | rfl <;> decide) (by decide) (by intro s hs; simp only [List.mem_cons, List.not_mem_nil, or_false] at hs; rcases hs with rfl | rfl | rfl | rfl <;> decide) V hr hw
  rw [bl_two, run4] at h
  exact h
theorem run_two (g b : Nat) (V : World) (hr : StpRow V (some ⟨b, 0, none⟩) [q1, q5]) (hw : TxtRow V (some ⟨g, 0, none⟩) [tbS, tbR]) :
    Calls Try.prog 10 #[.slice (some ⟨g, 0, none⟩) 2 2, .slice (some ⟨b, 0, none⟩) 2 2] V fun e w' => e = .returned (.tuple #[.string ⟨#[]⟩, .int .i64 1, .int .i64 80]) ∧ Below V.heap.size V w' := by
  have h := runC [q1, q5] (some ⟨b, 0, none⟩) 2 [tbS, tbR] (some ⟨g, 0, none⟩) 2 (by decide) (by intro x hx; simp only [List.mem_cons, List.not_mem_nil, or_false] at hx; rcases hx with rfl | rfl <;> decide) (by decide) (by intro s hs; simp only [List.mem_cons, List.not_mem_nil, or_false] at hs; rcases hs with rfl | rfl <;> decide) V hr hw
  rw [bl_two, run5] at h
  exact h
theorem seal_row (a b c : ByteArray) (ha : bl a = [97, 1, 107]) (hb : bl b = [100, 1, 110]) (hc : bl c = [97, 1, 120]) (V : World) :
    Calls Try.prog 20 #[.string a, .string b, .string c] V fun e w' => e = .returned (.tuple #[.string tbS, .int .i64 0]) ∧ Below V.heap.size V w' := by
  have h := seal6_any a b c (by rw [size_bl, ha]; decide) (by rw [size_bl, hb]; decide) (by rw [size_bl, hc]; decide) V
  rw [ha, hb, hc, fS_made] at h
  exact h
theorem row_one (g : Nat) (V : World) (hw : TxtRow V (some ⟨g, 0, none⟩) [⟨#[97, 1, 107]⟩]) :
    Calls Try.prog 21 #[.slice (some ⟨g, 0, none⟩) 1 1] V fun e w' => e = .returned (.tuple #[.string tbR, .int .i64 0]) ∧ Below V.heap.size V w' := by
  have h := row6_any [⟨#[97, 1, 107]⟩] (some ⟨g, 0, none⟩) 1 (by decide) (by decide) (by intro x hx; rw [List.mem_singleton.1 hx]; decide) V hw
  rw [show [(⟨#[97, 1, 107]⟩ : ByteArray)].map bl = [[97, 1, 107]] from rfl, fR_made] at h
  exact h
theorem atom_k (c : UInt8) (hc : nameOK [c] = true) (V : World) : Calls Try.prog 18 #[.string ⟨#[c]⟩] V fun e w' => e = .returned (.tuple #[.string ⟨#[97, 1, c]⟩, .int .i64 0]) ∧ Below V.heap.size V w' := by
  have h := atom6_any ⟨#[c]⟩ (by simp [ByteArray.size]) V
  rw [show bl ⟨#[c]⟩ = [c] from rfl, show atomP [c] = ([97, 1, c], 0) by unfold atomP; rw [if_neg (by simp), if_neg (by simp [hc])]; simp [txt, enc]] at h
  exact h
theorem data_n (V : World) : Calls Try.prog 19 #[.string ⟨#[110]⟩] V fun e w' => e = .returned (.tuple #[.string ⟨#[100, 1, 110]⟩, .int .i64 0]) ∧ Below V.heap.size V w' := by
  have h := data6_any ⟨#[110]⟩ (by decide) V
  rw [show bl ⟨#[110]⟩ = [110] from rfl, show dataP [110] = ([100, 1, 110], 0) by decide] at h
  exact h
end Go.Proofs.Ytpajcalfjfkogaa.Pl
