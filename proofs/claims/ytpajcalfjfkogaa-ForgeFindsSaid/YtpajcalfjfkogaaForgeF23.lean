/- The program's own run of steps: Run, Terms. The chapter's examples hold: alive of layer 11 answers true. The finding of steps: take. The finding of steps: compose. -/
import Derived.Test.YtpajcalfjfkogaaForgeF22
import Derived.Test.YtpajcalfjfkogaaForgeF12
import Derived.Test.YtpajcalfjfkogaaForgeF11
import Derived.Test.YtpajcalfjfkogaaForgeF5
import Derived.Test.YtpajcalfjfkogaaForgeF18
namespace Go.Proofs.Ytpajcalfjfkogaa.Pl
open Go.RowKit

set_option maxHeartbeats 4000000 in
set_option maxRecDepth 100000 in
theorem run11_any (ss : List Stp) (so : Option Addr) (sc : Nat) (was : List ByteArray) (wo : Option Addr) (wc : Nat) (hs : ∀ x ∈ was, x.size ≤ 281474976710656) (ht : ∀ s ∈ ss, s.text.size ≤ 281474976710656) (hsl : ss.length ≤ 9223372036854775807) (w : World) (hrow : StpRow w so ss) (hwas : TxtRow w wo was) :
    Calls Try.prog 10 #[.slice wo was.length wc, .slice so ss.length sc] w fun e w' => e = .returned (.tuple #[.string ⟨(runP (was.map bl) ss).1.toArray⟩, .int .i64 (runP (was.map bl) ss).2.1, .int .i64 (runP (was.map bl) ss).2.2]) ∧ Below w.heap.size w w' := by
  have HT0 := perform_any ss so sc was wo wc hs ht w hrow hwas
  unfold PerformC at HT0
  have HT := Lib.hid HT0
  clear HT0
  have HPOS := Lib.hid (fun h => terms_pos (was := was.map bl) (ss := ss) h)
  obtain ⟨R, hR⟩ : ∃ R, R = runP (was.map bl) ss := ⟨_, rfl⟩
  rw [← hR]
  unfold runP at hR
  have HR := Lib.hid hR
  clear hR hs ht hrow hwas
  generalize termsP (was.map bl) ss = T at *
  generalize hn : ss.length = n at *
  generalize was.length = m at *
  obtain ⟨L0, p, x⟩ := T
  dsimp only at HT HPOS HR
  go_enter Try.func10, Try.ntmps10
  go_wp2_with fail
  refine HT.out.mono ?_; rintro e w2 ⟨⟨v, L, rfl, hown, hL⟩, b2⟩
  have B2 := Lib.hid b2
  clear b2 HT
  by_cases hx : x = 0
  · subst hx
    obtain ⟨h1, h2, _⟩ := HPOS.out rfl
    have hz := HR.out
    rw [if_pos rfl] at hz
    obtain ⟨al, cl, rfl, hrl⟩ := ownT_row hown
    have hll : L.length = L0.length := by rw [← hL, List.length_map]
    obtain ⟨k, hk⟩ : ∃ k, k + 1 = L.length := ⟨L.length - 1, by omega⟩
    have hk1 : L0.length - 1 = k := by rw [← hL, List.length_map]; omega
    rw [hk1, ← hL] at hz
    have hzz : (L.map bl).getD k [] = bl (L.getD k ByteArray.empty) := termAt_map L (k : Int)
    rw [hzz] at hz
    rw [← hk]
    rcases hrl with e | ⟨g, off, rfl, _, hc⟩
    · rw [e] at hk; simp at hk
    have ck := hc k (by omega)
    have HZ := Lib.hid hz
    generalize L.getD k ByteArray.empty = t at *
    have hkb : k ≤ 9223372036854775806 := by omega
    have hw3 : wrap64 (k : Int) = (k : Int) := IntWalk.wrap64_in _ ⟨by omega, by omega⟩
    have hk0 : (0 : Int) ≤ (k : Int) := by omega
    have hk4 : (k : Int) < (k : Int) + 1 := by omega
    clear h1 h2 hn hz hk1 hzz hc hown hL HPOS HR hk hll
    go_wp2_with fail
    go_ret3
    exact ⟨by rw [HZ.out]; rfl, B2.out⟩
  · have q2 : ((x : Int) != 0) = true := by rw [bne_iff_ne]; omega
    have hz := HR.out
    rw [if_neg hx] at hz
    have HZ := Lib.hid hz
    obtain ⟨al, cl, rfl, hrl⟩ := ownT_row hown
    clear hz hown hL HPOS HR hrl
    go_wp2_with fail
    go_ret3
    exact ⟨by rw [HZ.out]; rfl, B2.out⟩
set_option maxHeartbeats 4000000 in
set_option maxRecDepth 100000 in
theorem terms11_any (ss : List Stp) (so : Option Addr) (sc : Nat) (was : List ByteArray) (wo : Option Addr) (wc : Nat) (hs : ∀ x ∈ was, x.size ≤ 281474976710656) (ht : ∀ s ∈ ss, s.text.size ≤ 281474976710656) (w : World) (hrow : StpRow w so ss) (hwas : TxtRow w wo was) :
    Calls Try.prog 12 #[.slice wo was.length wc, .slice so ss.length sc] w fun e w' => (∃ v L, e = .returned (.tuple #[v, .int .i64 (termsP (was.map bl) ss).2.2]) ∧ OwnT w' w.heap.size v L ∧ L.map bl = (termsP (was.map bl) ss).1) ∧ Below w.heap.size w w' := by
  have HT0 := perform_any ss so sc was wo wc hs ht w hrow hwas
  unfold PerformC at HT0
  have HT := Lib.hid HT0
  clear HT0 hs ht hrow hwas
  generalize termsP (was.map bl) ss = T at *
  generalize ss.length = n at *
  generalize was.length = m at *
  go_enter Try.func12, Try.ntmps12
  go_wp2_with fail
  refine HT.out.mono ?_; rintro e w2 ⟨⟨v, L, rfl, hown, hL⟩, b2⟩
  have O2 := Lib.hid hown
  have L2 := Lib.hid hL
  have B2 := Lib.hid b2
  clear b2 HT hown hL
  go_wp2_with fail
  go_ret2
  exact ⟨⟨v, L, rfl, O2.out, L2.out⟩, B2.out⟩
theorem runC : RunC := fun ss so sc was wo wc h1 h2 h3 h4 V hr hw => run11_any ss so sc was wo wc (fun x hx => by have := h2 x hx; omega) (fun s hs => by have := (h4 s hs).2; omega) (by omega) V hr hw
theorem termsC : TermsC := fun ss so sc was wo wc h1 h2 h3 h4 V hr hw => terms11_any ss so sc was wo wc (fun x hx => by have := h2 x hx; omega) (fun s hs => by have := (h4 s hs).2; omega) V hr hw
end Go.Proofs.Ytpajcalfjfkogaa.Pl

namespace Go.Proofs.Ytpajcalfjfkogaa.Pl
open Go.RowKit

theorem atom_head11 {t : List UInt8} (h : t.length ≤ 32) (hn : nameOK t = true) : HeadOK (97 :: txt t) 0 := by
  intro rest
  rw [List.cons_append, headP, if_neg (by decide), if_pos rfl, rdt_txt (by rw [two64]; omega) rest 32 (by omega), if_neg (by simp [hn])]
  simp [Nat.add_comm]
abbrev fK : Tm := .node (97 :: txt [107]) []
abbrev fN : Tm := .node (100 :: txt [110]) []
abbrev fX : Tm := .node (97 :: txt [120]) []
abbrev fS : Tm := sealT fK fN fX
abbrev fR : Tm := .node (114 :: enc 1) [fK]
theorem fK_enc : fK.enc = [97, 1, 107] := by decide
theorem fN_enc : fN.enc = [100, 1, 110] := by decide
theorem fX_enc : fX.enc = [97, 1, 120] := by decide
abbrev sS : List UInt8 := [115, 97, 1, 107, 100, 1, 110, 97, 1, 120]
abbrev sR : List UInt8 := [114, 1, 97, 1, 107]
theorem fS_enc : fS.enc = sS := by decide
theorem fR_enc : fR.enc = sR := by decide
theorem fS_valid : fS.valid := by
  refine ⟨?_, by decide, by decide⟩
  simp only [Tm.good]
  exact ⟨seal_head, ⟨atom_head11 (by decide) (by decide), trivial⟩, ⟨data_head (by decide), trivial⟩, ⟨atom_head11 (by decide) (by decide), trivial⟩, trivial⟩
theorem fR_valid : fR.valid := by
  refine ⟨?_, by decide, by decide⟩
  simp only [Tm.good]
  exact ⟨row_head (by decide), ⟨atom_head11 (by decide) (by decide), trivial⟩, trivial⟩
theorem fS_made : madeP [115] [[97, 1, 107], [100, 1, 110], [97, 1, 120]] = ([115, 97, 1, 107, 100, 1, 110, 97, 1, 120], 0) := by
  have h := made_again fS_valid
  rw [fS_enc] at h
  refine Eq.trans ?_ h
  decide
theorem fR_made : rowP [[97, 1, 107]] = ([114, 1, 97, 1, 107], 0) := by
  have h := made_again fR_valid
  rw [fR_enc] at h
  refine Eq.trans ?_ h
  decide
theorem sS_check : checkP sS = 0 := by rw [← fS_enc]; exact check_enc fS_valid
theorem sR_check : checkP sR = 0 := by rw [← fR_enc]; exact check_enc fR_valid
theorem sS_parts : (partsP sS).1 = [[97, 1, 107], [100, 1, 110], [97, 1, 120]] := by
  rw [← fS_enc, parts_node fS_valid]
  decide
theorem sR_parts : (partsP sR).1 = [[97, 1, 107]] := by
  rw [← fR_enc, parts_node fR_valid]
  decide
theorem sS_kind : kindP sS = 6 := by
  unfold kindP
  rw [if_pos sS_check]
  decide
theorem sR_kind : kindP sR = 3 := by
  unfold kindP
  rw [if_pos sR_check]
  decide
abbrev em11 : ByteArray := ⟨#[]⟩
abbrev q1 : Stp := ⟨1, 0, 0, 0, 0, em11, []⟩
abbrev q2 : Stp := ⟨1, 0, 0, 0, 1, em11, []⟩
abbrev q3 : Stp := ⟨3, 1, 0, 0, 0, em11, []⟩
abbrev q4 : Stp := ⟨5, 0, 2, 0, 0, em11, []⟩
abbrev q5 : Stp := ⟨5, 0, 0, 0, 0, em11, []⟩
theorem one1 : oneP [sS, sR] [] q1 = (sS, 0) := by
  rw [oneP, if_pos (by decide), step1 _ _ rfl, if_pos (by decide), show termAt [sS, sR] q1.n = sS from rfl, if_pos sS_check]
theorem one2 : oneP [sS, sR] [sS] q2 = (sR, 0) := by
  rw [oneP, if_pos (by decide), step1 _ _ rfl, if_pos (by decide), show termAt [sS, sR] q2.n = sR from rfl, if_pos sR_check]
theorem one3 : oneP [sS, sR] [sS, sR] q3 = ([97, 1, 107], 0) := by
  rw [oneP, if_pos (by decide), step3 _ _ rfl, show termAt [sS, sR] q3.a = sR from rfl, if_pos sR_kind, sR_parts, if_pos (by decide)]
  rfl
theorem one4 : oneP [sS, sR] [sS, sR, [97, 1, 107]] q4 = ([97, 1, 120], 0) := by
  rw [oneP, if_pos (by decide), step5 _ _ rfl, show termAt [sS, sR, [97, 1, 107]] q4.a = sS from rfl, show termAt [sS, sR, [97, 1, 107]] q4.b = [97, 1, 107] from rfl, if_pos sS_kind, sS_parts]
  exact if_pos rfl
theorem one5 : oneP [sS, sR] [sS] q5 = ([], 80) := by
  rw [oneP, if_pos (by decide), step5 _ _ rfl, show termAt [sS] q5.a = sS from rfl, if_pos sS_kind, sS_parts, if_neg (by decide)]
theorem run4 : runP [sS, sR] [q1, q2, q3, q4] = ([97, 1, 120], 0, 0) := by
  have h : termsP [sS, sR] [q1, q2, q3, q4] = ([sS, sR, [97, 1, 107], [97, 1, 120]], 0, 0) := by
    unfold termsP
    rw [if_neg (by decide), if_neg (by decide), stepsP, one1, if_pos rfl, stepsP, show ([] : List (List UInt8)) ++ [(sS, 0).1] = [sS] from rfl, one2, if_pos rfl, stepsP, show [sS] ++ [(sR, 0).1] = [sS, sR] from rfl, one3, if_pos rfl, stepsP, show [sS, sR] ++ [(([97, 1, 107], 0) : List UInt8 × Nat).1] = [sS, sR, [97, 1, 107]] from rfl, one4, if_pos rfl, stepsP]
    rfl
  unfold runP
  rw [h, if_pos rfl]
  rfl
theorem run5 : runP [sS, sR] [q1, q5] = ([], 1, 80) := by
  have h : termsP [sS, sR] [q1, q5] = ([], 1, 80) := by
    unfold termsP
    rw [if_neg (by decide), if_neg (by decide), stepsP, one1, if_pos rfl, stepsP, show ([] : List (List UInt8)) ++ [(sS, 0).1] = [sS] from rfl, one5, if_neg (by decide)]
    rfl
  unfold runP
  rw [h, if_neg (by decide)]
abbrev tbS : ByteArray := ⟨#[115, 97, 1, 107, 100, 1, 110, 97, 1, 120]⟩
abbrev tbR : ByteArray := ⟨#[114, 1, 97, 1, 107]⟩
theorem bl_two : [tbS, tbR].map bl = [sS, sR] := rfl
theorem run_four (g b : Nat) (V : World) (hr : StpRow V (some ⟨b, 0, none⟩) [q1, q2, q3, q4]) (hw : TxtRow V (some ⟨g, 0, none⟩) [tbS, tbR]) :
    Calls Try.prog 10 #[.slice (some ⟨g, 0, none⟩) 2 2, .slice (some ⟨b, 0, none⟩) 4 4] V fun e w' => e = .returned (.tuple #[.string ⟨#[97, 1, 120]⟩, .int .i64 0, .int .i64 0]) ∧ Below V.heap.size V w' := by
  have h := runC [q1, q2, q3, q4] (some ⟨b, 0, none⟩) 4 [tbS, tbR] (some ⟨g, 0, none⟩) 2 (by decide) (by intro x hx; simp only [List.mem_cons, List.not_mem_nil, or_false] at hx; rcases hx with rfl | rfl <;> decide) (by decide) (by intro s hs; simp only [List.mem_cons, List.not_mem_nil, or_false] at hs; rcases hs with rfl | rfl | rfl | rfl <;> decide) V hr hw
  rw [bl_two, run4] at h
  exact h
theorem run_two (g b : Nat) (V : World) (hr : StpRow V (some ⟨b, 0, none⟩) [q1, q5]) (hw : TxtRow V (some ⟨g, 0, none⟩) [tbS, tbR]) :
    Calls Try.prog 10 #[.slice (some ⟨g, 0, none⟩) 2 2, .slice (some ⟨b, 0, none⟩) 2 2] V fun e w' => e = .returned (.tuple #[.string ⟨#[]⟩, .int .i64 1, .int .i64 80]) ∧ Below V.heap.size V w' := by
  have h := runC [q1, q5] (some ⟨b, 0, none⟩) 2 [tbS, tbR] (some ⟨g, 0, none⟩) 2 (by decide) (by intro x hx; simp only [List.mem_cons, List.not_mem_nil, or_false] at hx; rcases hx with rfl | rfl <;> decide) (by decide) (by intro s hs; simp only [List.mem_cons, List.not_mem_nil, or_false] at hs; rcases hs with rfl | rfl <;> decide) V hr hw
  rw [bl_two, run5] at h
  exact h
theorem seal_row (a b c : ByteArray) (ha : bl a = [97, 1, 107]) (hb : bl b = [100, 1, 110]) (hc : bl c = [97, 1, 120]) (V : World) :
    Calls Try.prog 20 #[.string a, .string b, .string c] V fun e w' => e = .returned (.tuple #[.string tbS, .int .i64 0]) ∧ Below V.heap.size V w' := by
  have h := seal6_any a b c (by rw [size_bl, ha]; decide) (by rw [size_bl, hb]; decide) (by rw [size_bl, hc]; decide) V
  rw [ha, hb, hc, fS_made] at h
  exact h
theorem row_one (g : Nat) (V : World) (hw : TxtRow V (some ⟨g, 0, none⟩) [⟨#[97, 1, 107]⟩]) :
    Calls Try.prog 21 #[.slice (some ⟨g, 0, none⟩) 1 1] V fun e w' => e = .returned (.tuple #[.string tbR, .int .i64 0]) ∧ Below V.heap.size V w' := by
  have h := row6_any [⟨#[97, 1, 107]⟩] (some ⟨g, 0, none⟩) 1 (by decide) (by decide) (by intro x hx; rw [List.mem_singleton.1 hx]; decide) V hw
  rw [show [(⟨#[97, 1, 107]⟩ : ByteArray)].map bl = [[97, 1, 107]] from rfl, fR_made] at h
  exact h
theorem atom_k (c : UInt8) (hc : nameOK [c] = true) (V : World) : Calls Try.prog 18 #[.string ⟨#[c]⟩] V fun e w' => e = .returned (.tuple #[.string ⟨#[97, 1, c]⟩, .int .i64 0]) ∧ Below V.heap.size V w' := by
  have h := atom6_any ⟨#[c]⟩ (by simp [ByteArray.size]) V
  rw [show bl ⟨#[c]⟩ = [c] from rfl, show atomP [c] = ([97, 1, c], 0) by unfold atomP; rw [if_neg (by simp), if_neg (by simp [hc])]; simp [txt, enc]] at h
  exact h
theorem data_n (V : World) : Calls Try.prog 19 #[.string ⟨#[110]⟩] V fun e w' => e = .returned (.tuple #[.string ⟨#[100, 1, 110]⟩, .int .i64 0]) ∧ Below V.heap.size V w' := by
  have h := data6_any ⟨#[110]⟩ (by decide) V
  rw [show bl ⟨#[110]⟩ = [110] from rfl, show dataP [110] = ([100, 1, 110], 0) by decide] at h
  exact h
end Go.Proofs.Ytpajcalfjfkogaa.Pl

namespace Go.Proofs.Ytpajcalfjfkogaa.Pl
open Go.RowKit Go.Maps

theorem zero_org (w : World) : (zeroValue 96).run Try.prog w = .ok (orgV 0 0 em11 none 0 0) w := by kernel_rfl
theorem wt_len : ∀ S : List Shut, S.length ≤ wtS S
  | [] => Nat.zero_le _
  | c :: S => by
    have := wt_len S
    unfold wtS at this ⊢
    simp only [List.map_cons, List.sum_cons, List.length_cons]
    omega
theorem fit0 {f : Nat} {n : Int} (hf : f ≤ 255) (hn : I64 n) : (stp0 f n em11).Fit :=
  ⟨hf, (by show I64 (0 : Int); exact ⟨by decide, by decide⟩), (by show I64 (0 : Int); exact ⟨by decide, by decide⟩), (by show I64 (0 : Int); exact ⟨by decide, by decide⟩), hn, (by show (em11 : ByteArray).size ≤ _; exact Nat.zero_le _), (by show ([] : List Int).length ≤ _; exact Nat.zero_le _), fun v hv => by cases hv⟩
theorem frozen_row11 {W : World} {b k : Nat} {cs : Array Value} {t : TypeId} (h : W.heap[b]? = some (.cells cs t (0, 0))) : W.frozen? ⟨b, k, none⟩ = false := by
  unfold World.frozen?
  simp [h]
theorem mk_row {W w5 : World} {F : Nat → Prop} {p mm ma : Nat} {E : List Ent} {S : List Shut} {sv : Value} {V : List Value} {o : Obj} (h : MkA W F p E S mm ma sv V) (hg : (W.alloc o).grownBy w5 sv.ownBlock) : w5.heap[p]? = some (.cells #[.map (some mm), sv, .slice none 0 0, .map (some ma)] 60 (0, 0)) :=
  (hg.block p (by have := h.foot p h.fp; simp; omega) (fun e => (h.ne.2.2 p e.symm).1 rfl)).trans ((Below.heap_alloc W o p (h.foot p h.fp)).trans h.cells)
/-- An append of a closed seal, in a drawn region. -/
theorem wpOp_appC {ops : Array Oper} {o : Oper} {a : Act} {K : Act → World → Prop} {Q : Exit → Act → World → Prop} (hw : Region.wanted o (yielded ops a.tmps) = true) (x y : Operand)
    (ho : o.op = .call { callee := .builtin .append, args := #[x, y], argTypes := #[58, 58] }) (hty : o.type = 58) {W1 : World} {v : Value} {S : List Shut} (c : Shut) (hx : a.eval x = v) (hy : a.eval y = .slice (some ⟨W1.heap.size, 0, none⟩) 1 1)
    (hrow : OwnC W1 v S) (hl : S.length ≤ 1000000000)
    (h : ∀ v' w', OwnC w' v' (S ++ [c]) → (W1.alloc (.cells (shutV c) 99)).grownBy w' v.ownBlock → (∀ b, v'.ownBlock = some b → v.ownBlock = some b ∨ W1.heap.size ≤ b) → K (a.put o.dst v') w') :
    if Region.wanted o (yielded ops a.tmps) = true then Oper.wp Try.prog o a (W1.alloc (.cells (shutV c) 99)) K Q else K (a.put o.dst undef) (W1.alloc (.cells (shutV c) 99)) := by
  rw [if_pos hw]
  obtain ⟨v', w', hr, h2, h3, h4⟩ := appC_run c hrow hl
  unfold Oper.wp execOp
  simp only [ho, hty, resolve, invoke, builtin, Sem.run_bind, Sem.run_pure, Result.andThen_ok, List.map_toArray, List.map_cons, List.map_nil, hx, hy, hr]
  exact h v' w' h2 h3 h4
/-- What taking a term apart is to leave. -/
def TakePost (was : List (List UInt8)) (U : Tm → Prop) (p : Nat) (E : List Ent) (S : List Shut) (F : Nat → Prop) (T : Tm) (w : World) : Ending → World → Prop := fun e w' =>
  e = .returned (.tuple #[]) ∧ ∃ E' S' F', Mk w' F' p E' S' ∧ Took was U E S [T] E' S' ∧ (∀ b, F' b → F b ∨ w.heap.size ≤ b) ∧ Turn F w w'
theorem rowOut_new {F : Nat → Prop} {w : World} (hF : ∀ b, F b → b < w.heap.size) (s : ByteArray) : RowOut F (w.alloc (.cells #[.string s] 9)) (some ⟨w.heap.size, 0, none⟩) [s] := by
  have h := Go.heap_alloc_new w (.cells #[.string s] 9)
  refine .inr ⟨w.heap.size, 0, rfl, by simp, fun k => by have := hF _ k; omega, fun j hj => ?_⟩
  obtain rfl : j = 0 := by simpa using hj
  exact cell_of_row _ _ _ _ _ _ h
theorem rowOut_own {F : Nat → Prop} {B : Nat} {w : World} {v : Value} {L : List ByteArray} (h : OwnT w B v L) (hF : ∀ b, F b → b < B) : ∃ ao cap, v = .slice ao L.length cap ∧ RowOut F w ao L := by
  obtain ⟨ao, cap, e, hr⟩ := ownT_row h
  refine ⟨ao, cap, e, ?_⟩
  rcases h.2 with ⟨hv, h0⟩ | ⟨g, c, cur, hv, hbg, hg, _⟩
  · exact .inl (List.length_eq_zero_iff.1 h0)
  · rw [e] at hv
    injection hv with hv _ _
    subst hv
    rcases hr with hr | ⟨b, off, e2, hlt, hc⟩
    · exact .inl hr
    · injection e2 with e2
      injection e2 with e3 e4 _
      subst e3 e4
      exact .inr ⟨_, _, rfl, hlt, fun k => by have := hF _ k; omega, hc⟩
/-- What is taken was there. -/
theorem take_post_in {was : List (List UInt8)} {U : Tm → Prop} {p : Nat} {E : List Ent} {S : List Shut} {F : Nat → Prop} {T : Tm} {w w' : World} (hq : Mk w F p E S) (hg : Good was U E) (hs : SlOK U E S) (hin : T.enc ∈ keysE E) (hb : Below w.heap.size w w') : TakePost was U p E S F T w (.returned (.tuple #[])) w' :=
  ⟨rfl, E, S, F, hq.kept hb, took_in hg hs hin, fun _ hb => .inl hb, turn_below hb⟩
variable {was : List (List UInt8)} {U : Tm → Prop}
set_option maxHeartbeats 8000000 in
set_option maxRecDepth 100000 in
theorem take11_at (hU : ∀ h l, U (.node h l) → ∀ t ∈ l, U t) (hfin : ∀ E, Good was U E → E.length ≤ 1000000) : ∀ (d : Nat) (T : Tm), T.valid → T.deep ≤ d → U T → ∀ (s : ByteArray), bl s = T.enc → ∀ (p f : Nat) (n : Int) (ao : Option Addr) (cap : Nat) (L : List ByteArray) (E : List Ent) (S : List Shut) (F : Nat → Prop) (w : World), Mk w F p E S → Good was U E → SlOK U E S → wtS S + T.enc.length ≤ 1000000 →
    Makes was ⟨T.enc, stp0 f n em11, L.map bl⟩ → (stp0 f n em11).Fit → (∀ x ∈ L.map bl, x ∈ keysE E) → RowOut F w ao L →
    Calls Try.prog 30 #[ptr11 p, .string s, .agg #[.int .u8 f, .int .i64 0, .int .i64 0, .int .i64 0, .int .i64 n, .string ⟨#[]⟩, .slice none 0 0], .slice ao L.length cap] w (TakePost was U p E S F T w) := by
  intro d
  induction d with
  | zero =>
    rintro ⟨h, l⟩ _ hd
    simp [Tm.deep] at hd
  | succ d ih =>
    rintro ⟨h, l⟩ hv hd hu s hs p f n ao cap L E S F w hq hg hsl hwt hmk hfit hin hrow
    have hdp : ∀ t ∈ l, t.deep ≤ d := fun t ht => by
      have := deeps_mem ht
      simp only [Tm.deep] at hd
      omega
    have hsz := valid_size hv hs
    have hkey := key10 s (by omega)
    rw [hs] at hkey
    obtain ⟨mm, ma, sv, V, hA⟩ := hq
    obtain ⟨W1, hW1⟩ : ∃ V2, V2 = w.alloc (.cells #[.int .u8 f, .int .i64 0, .int .i64 0, .int .i64 0, .int .i64 n, .string ⟨#[]⟩, .slice none 0 0] 46) := ⟨_, rfl⟩
    have B1 : Hid (Below w.heap.size w W1) := Lib.hid (by rw [hW1]; exact (Below.refl _ _).alloc (Nat.le_refl _) _)
    have hb1 : W1.heap[w.heap.size]? = some (.cells #[.int .u8 f, .int .i64 0, .int .i64 0, .int .i64 0, .int .i64 n, .string ⟨#[]⟩, .slice none 0 0] 46 (0, 0)) := by rw [hW1]; exact Go.heap_alloc_new w _
    have hsz1 : W1.heap.size = w.heap.size + 1 := by rw [hW1]; simp
    have hW2 := Lib.hid hW1
    clear hW1
    have hA1 := hA.kept B1.out
    have cp : W1.cell? ⟨p, 0, none⟩ = some (.map (some mm)) := cell_of_row _ _ _ _ _ _ hA1.cells
    rw [hW2.out] at cp
    by_cases hE : (Tm.node h l).enc ∈ keysE E
    · have HP := Lib.hid (fun w' hb => take_post_in (w' := w') ⟨mm, ma, sv, V, hA⟩ hg hsl hE hb)
      obtain ⟨e0, he0, hee⟩ := List.mem_map.1 hE
      obtain ⟨k0, hk0, rfl⟩ := List.getElem_of_mem he0
      obtain ⟨f1, n1, tx1, ao1, cap1, L1, _, _, hv1, _, _⟩ := hA.org k0 hk0
      have hpr := prs_at hA.len hk0
      rw [hv1, hee] at hpr
      have HLK := Lib.hid (fun V2 (hb : Below w.heap.size w V2) => ((hA.made.below hb).look keyed10 Try.underlying56 (zero_org V2) hkey hpr).2)
      generalize L.length = q at *
      generalize L1.length = q1 at *
      clear ih hv hd hu hs hg hsl hwt hmk hfit hin hrow hdp hsz hkey hA hA1 hE he0 hee hv1 hpr hb1 hsz1
      go_enter Try.func30, Try.ntmps30
      go_wp2_with (first | (at_lookup; refine wpList_lookV rfl _ _ 56 true rfl _ _ _ rfl rfl (HLK.out _ ((Below.refl _ _).alloc (Nat.le_refl _) _)) ?_) | fail)
      go_end0
      exact HP.out _ (((Below.refl _ _).alloc (Nat.le_refl _) _).alloc (by simp) _)
    · have HLK := Lib.hid (fun V2 (hb : Below w.heap.size w V2) => ((hA.made.below hb).miss keyed10 Try.underlying56 (zero_org V2) hkey (fun k => hE ((prs_key hA.len _).1 k))).2)
      have hgo := good_add hg (e := ⟨(Tm.node h l).enc, stp0 f n em11, L.map bl⟩) hE hmk hin hv hu rfl
      have hnew : E <+: E ++ [⟨(Tm.node h l).enc, stp0 f n em11, L.map bl⟩] := List.prefix_append _ _
      have hsl1 := slOK_mono hsl hnew
      obtain ⟨W3, hW3⟩ : ∃ V2, V2 = W1.alloc (.cells #[.int .u8 0, .int .i64 0, .int .i64 0, .int .i64 0, .int .i64 0, .string ⟨#[]⟩, .slice none 0 0, .slice none 0 0] 96) := ⟨_, rfl⟩
      have B3 : Hid (Below w.heap.size w W3) := Lib.hid (by rw [hW3]; exact B1.out.alloc (by omega) _)
      have hA3 := (hA.kept B3.out).kept (drew11 W3)
      have hrow3 := hrow.turn (F' := F) (turn_below (below_step B3.out (drew11 W3))) (fun _ hb => .inl hb)
      obtain ⟨w4, run4, hm4, ht4⟩ := hA3.made.store (by rw [prs_len hA.len]; have := hfin E hg; omega) keyed10 Try.underlying56 (.string s) (orgV f n ⟨#[]⟩ ao L.length cap) (.string (Tm.node h l).enc) hkey trivial (fun k => hE ((prs_key hA.len _).1 k))
      have hA4 := hA3.made_ (e := ⟨(Tm.node h l).enc, stp0 f n em11, L.map bl⟩) (v := orgV f n em11 ao L.length cap) ⟨f, n, em11, ao, cap, L, rfl, hfit, rfl, rfl, hrow3⟩ hm4 ht4
      have hT4 : Turn F w w4 := turn_trans (turn_below (below_step B3.out (drew11 W3))) (turned_turn ht4 hA.fm) (fun _ hb => .inl hb)
      have hbx : W3.heap[w.heap.size]? = some (.cells #[.int .u8 f, .int .i64 0, .int .i64 0, .int .i64 0, .int .i64 n, .string ⟨#[]⟩, .slice none 0 0] 46 (0, 0)) := by rw [hW3]; exact (Below.heap_alloc W1 _ _ (by omega)).trans hb1
      have hmp : mm ≠ p := fun e => hA.ne.1 e.symm
      have hmb : mm ≠ w.heap.size := fun e => by have := hA.foot mm hA.fm; omega
      have hbx4 : w4.heap[w.heap.size]? = some (.cells #[.int .u8 f, .int .i64 0, .int .i64 0, .int .i64 0, .int .i64 n, .string ⟨#[]⟩, .slice none 0 0] 46 (0, 0)) := (ht4.grown.block w.heap.size (by show w.heap.size < W3.heap.size; have := B3.out.size; rw [hW3]; simp; omega) (fun e => hmb (Option.some.inj e).symm)).trans hbx
      have KS : W3.cell? ⟨p, 0, none⟩ = some (.map (some mm)) ∧ W3.cell? ⟨w.heap.size, 0, none⟩ = some (.int .u8 f) ∧ W3.cell? ⟨w.heap.size, 1, none⟩ = some (.int .i64 0) ∧ W3.cell? ⟨w.heap.size, 2, none⟩ = some (.int .i64 0) ∧ W3.cell? ⟨w.heap.size, 3, none⟩ = some (.int .i64 0) ∧ W3.cell? ⟨w.heap.size, 4, none⟩ = some (.int .i64 n) ∧ W3.cell? ⟨w.heap.size, 5, none⟩ = some (.string ⟨#[]⟩) ∧ W3.cell? ⟨w.heap.size, 6, none⟩ = some (.slice none 0 0) :=
        ⟨cell_of_row _ _ _ _ _ _ hA3.cells, cell_of_row _ _ _ _ _ _ hbx, cell_of_row _ _ _ _ _ _ hbx, cell_of_row _ _ _ _ _ _ hbx, cell_of_row _ _ _ _ _ _ hbx, cell_of_row _ _ _ _ _ _ hbx, cell_of_row _ _ _ _ _ _ hbx, cell_of_row _ _ _ _ _ _ hbx⟩
      have KA : w4.cell? ⟨p, 0, none⟩ = some (.map (some mm)) ∧ w4.cell? ⟨w.heap.size, 0, none⟩ = some (.int .u8 f) ∧ w4.cell? ⟨w.heap.size, 1, none⟩ = some (.int .i64 0) ∧ w4.cell? ⟨w.heap.size, 2, none⟩ = some (.int .i64 0) ∧ w4.cell? ⟨w.heap.size, 3, none⟩ = some (.int .i64 0) ∧ w4.cell? ⟨w.heap.size, 4, none⟩ = some (.int .i64 n) ∧ w4.cell? ⟨w.heap.size, 5, none⟩ = some (.string ⟨#[]⟩) ∧ w4.cell? ⟨w.heap.size, 6, none⟩ = some (.slice none 0 0) :=
        ⟨cell_of_row _ _ _ _ _ _ hA4.cells, cell_of_row _ _ _ _ _ _ hbx4, cell_of_row _ _ _ _ _ _ hbx4, cell_of_row _ _ _ _ _ _ hbx4, cell_of_row _ _ _ _ _ _ hbx4, cell_of_row _ _ _ _ _ _ hbx4, cell_of_row _ _ _ _ _ _ hbx4, cell_of_row _ _ _ _ _ _ hbx4⟩
      obtain ⟨c, hk, hkd⟩ := kd_node10 hv
      obtain ⟨k1, k2, k3, k6⟩ := kd_first10 hk
      have HK := Lib.hid (fun V => tkind_any s (by omega) V)
      rw [hs, hkd] at HK
      have HP := Lib.hid (fun V => parts6_any s (by omega) V)
      rw [hs, parts_node10 hv] at HP
      have HA4 := Lib.hid hA4
      have HT4 := Lib.hid hT4
      have HGO := Lib.hid hgo
      have HSL1 := Lib.hid hsl1
      have HFT := Lib.hid hA.foot
      have HW3 := Lib.hid hW3
      have HWT := Lib.hid hwt
      have HSW : Hid (w.heap.size ≤ w4.heap.size) := Lib.hid hT4.size
      obtain ⟨e0, he0⟩ : ∃ e0, e0 = (⟨(Tm.node h l).enc, stp0 f n em11, L.map bl⟩ : Ent) := ⟨_, rfl⟩
      have HE0 : Hid (e0.t = (Tm.node h l).enc) := Lib.hid (by rw [he0])
      have HSTART : Hid (Took was U (E ++ [e0]) S [] (E ++ [e0]) S) := Lib.hid (by rw [he0]; exact took_nil hgo hsl1)
      rw [← he0] at HA4 HGO HSL1
      by_cases c3 : c = 3
      · subst c3
        have HTKR := Lib.hid (fun (E' : List Ent) (S' : List Shut) (q : Took was U (E ++ [e0]) S l E' S') => took_row (k3.1 rfl) hv HE0.out q)
        have HC : Hid (∀ k, (hk : k < l.length) → ∀ (E' : List Ent) (S' : List Shut) (F' : Nat → Prop) (W : World) (g : Nat), Mk W F' p E' S' → Took was U (E ++ [e0]) S (l.take k) E' S' → RowOut F' W (some ⟨g, 0, none⟩) [s] → Calls Try.prog 30 #[ptr11 p, .string (tx l[k]), .agg #[.int .u8 3, .int .i64 0, .int .i64 0, .int .i64 0, .int .i64 k, .string ⟨#[]⟩, .slice none 0 0], .slice (some ⟨g, 0, none⟩) 1 1] W (TakePost was U p E' S' F' l[k] W)) := Lib.hid (fun k hk2 E' S' F' W g hM hT hR => by
          have hmem := List.getElem_mem hk2
          have h32 := (kd_le10 hk).1
          refine ih l[k] (node_valid_parts hv _ hmem) (hdp _ hmem) (hU h l hu _ hmem) (tx l[k]) rfl p 3 k (some ⟨g, 0, none⟩) 1 [s] E' S' F' W hM hT.good hT.slok ?_ ?_ (fit0 (by decide) ⟨by omega, by omega⟩) ?_ hR
          · have h1 := hT.wt
            have h2 : (encs (l.take k)).length + l[k].enc.length = (encs (l.take (k + 1))).length := by
              rw [List.take_succ_eq_append_getElem hk2, encs_snoc, List.length_append]
            have h3 := encs_cut10 l (k + 1)
            have h4 : (encs l).length ≤ (Tm.node h l).enc.length := by rw [Tm.enc_node, List.length_append]; omega
            omega
          · rw [List.map_cons, List.map_nil, hs]
            exact makes_part hv (k3.1 rfl) hk2
          · intro x hx
            rw [List.map_cons, List.map_nil, List.mem_singleton, hs] at hx
            rw [hx]
            exact keysE_mono hT.ext (keysE_snoc.2 (.inr HE0.out.symm)))
        obtain ⟨z, hz⟩ : ∃ z, z = l.length := ⟨_, rfl⟩
        have HZ := Lib.hid hz
        have HZS : Hid (z ≤ 100) := Lib.hid (by have := (kd_le10 hk).1; omega)
        generalize L.length = q at *
        clear ih hv hd hu hs hg hsl hwt hmk hfit hin hrow hdp hsz hkey hA hA1 hE hb1 hsz1 hgo hnew hsl1 hW3 hA3 hrow3 hm4 ht4 hA4 hT4 hbx hmp hmb hbx4 hk hkd k1 k2 k3 k6 he0 hz
        go_enter Try.func30, Try.ntmps30
        go_wp2_with (first | (at_lookup; refine wpList_lookV rfl _ _ 56 true rfl _ _ _ rfl rfl (HLK.out _ ((Below.refl _ _).alloc (Nat.le_refl _) _)) ?_) | fail)
        rw [← hW2.out, ← HW3.out]
        go_region_held3 (fun W => W.cell? ⟨p, 0, none⟩ = some (.map (some mm)) ∧ W.cell? ⟨w.heap.size, 0, none⟩ = some (.int .u8 f) ∧ W.cell? ⟨w.heap.size, 1, none⟩ = some (.int .i64 0) ∧ W.cell? ⟨w.heap.size, 2, none⟩ = some (.int .i64 0) ∧ W.cell? ⟨w.heap.size, 3, none⟩ = some (.int .i64 0) ∧ W.cell? ⟨w.heap.size, 4, none⟩ = some (.int .i64 n) ∧ W.cell? ⟨w.heap.size, 5, none⟩ = some (.string ⟨#[]⟩) ∧ W.cell? ⟨w.heap.size, 6, none⟩ = some (.slice none 0 0)) (first | assumption | exact KA) (first | fail)
        clear KS KA run4 HLK
        go_wp2_with fail
        refine (HP.out _).mono ?_; rintro e w5 ⟨pv, P, rfl, ho, hP, b5⟩
        have B5 := Lib.hid b5
        obtain ⟨po, pcap, rfl, hrw⟩ := rowOut_own (F := F) ho (fun b hb => Nat.lt_of_lt_of_le (HFT.out b hb) HSW.out)
        clear ho
        go_wp2_with fail
        obtain rfl : P = l.map tx := (List.map_inj_right (fun _ _ e => bl_inj e)).1 (by rw [hP, List.map_map]; rfl)
        have hPl : (l.map tx).length = z := by rw [List.length_map]; exact HZ.out.symm
        rw [hPl]
        clear hP
        refine (HK.out _).mono ?_; rintro e w6 ⟨rfl, b6⟩
        have B6 := Lib.hid (below_step B5.out b6)
        have R6 := Lib.hid (hrw.turn (F' := F) (turn_below b6) (fun _ hb => .inl hb))
        have M6 : Hid (Mk w6 F p (E ++ [e0]) S) := Lib.hid ⟨mm, ma, sv, _, HA4.out.kept B6.out⟩
        have T6 := Lib.hid (turn_trans HT4.out (turn_below B6.out) (fun _ hb => .inl hb))
        clear b5 b6 hrw B5 HT4 HA4
        go_wp2_with fail
        go_loopw [43] (fun iv wr => ∃ (k : Nat) (E' : List Ent) (S' : List Shut) (F' : Nat → Prop), iv = .int .i64 k ∧ k ≤ z ∧ Hid (Mk wr F' p E' S') ∧ Hid (Took was U (E ++ [e0]) S (l.take k) E' S') ∧ Hid (∀ b, F' b → F b ∨ w.heap.size ≤ b) ∧ Hid (Turn F w wr) ∧ Hid (RowOut F' wr po (l.map tx))) (fun iv _ => z - (intOf iv).toNat)
        case atStart => exact ⟨0, E ++ [e0], S, F, rfl, Nat.zero_le _, M6, HSTART, Lib.hid (fun b hb => .inl hb), T6, R6⟩
        case round =>
          clear M6 HSTART T6 R6 B6
          obtain ⟨k, E', S', F', rfl, hkz, hM, hT, hF, hTu, hR⟩ := hrel
          have hz100 := HZS.out
          by_cases hk : k < z
          · have hk' : (k : Int) < (z : Int) := by omega
            have hkl : k < l.length := by rw [← HZ.out]; exact hk
            have hfoot : ∀ b, F' b → b < wr.heap.size := by
              obtain ⟨_, _, _, _, hx⟩ := hM.out
              exact hx.foot
            have BA : Below wr.heap.size wr (wr.alloc (.cells #[.string s] 9)) := (Below.refl _ _).alloc (Nat.le_refl _) _
            have HCK := Lib.hid (HC.out k hkl E' S' F' (wr.alloc (.cells #[.string s] 9)) wr.heap.size (hM.out.kept BA) hT.out (rowOut_new hfoot s))
            have HNX : Hid (∀ E2 S2, Took was U E' S' [l[k]] E2 S2 → Took was U (E ++ [e0]) S (l.take (k + 1)) E2 S2) := Lib.hid (fun E2 S2 q => by rw [List.take_succ_eq_append_getElem hkl]; exact took_next hT.out q)
            have HBA := Lib.hid BA
            have hR' := hR.out
            rcases hR' with e | ⟨g, off, rfl, hlt, hng, hc⟩
            · exfalso
              have := congrArg List.length e
              rw [hPl] at this
              simp at this
              omega
            have ck := hc k (by rw [hPl]; exact hk)
            have eg : (l.map tx).getD k ByteArray.empty = tx l[k] := by simp [List.getD_eq_getElem?_getD, hkl]
            rw [eg] at ck
            generalize tx l[k] = y at *
            generalize l[k] = lk at *
            clear hc hlt hng eg hkl hfoot BA
            go_wp2_with fail
            refine HCK.out.mono ?_; rintro e w7 ⟨rfl, E2, S2, F2, m2, t2, f2, u2⟩
            have M7 := Lib.hid m2
            have T7 := Lib.hid (HNX.out E2 S2 t2)
            have F7 : Hid (∀ b, F2 b → F b ∨ w.heap.size ≤ b) := Lib.hid (fun b hb => (f2 b hb).elim (hF.out b) (fun e => .inr (Nat.le_trans hTu.out.size (Nat.le_trans HBA.out.size e))))
            have U7 := Lib.hid (turn_trans (turn_trans hTu.out (turn_below HBA.out) (fun _ hb => .inl hb)) u2 hF.out)
            have R7 := Lib.hid ((hR.out.turn (F' := F') (turn_below HBA.out) (fun _ hb => .inl hb)).turn u2 f2)
            clear m2 t2 f2 u2 ck
            go_wp2_with fail
            go_roundw
            case rel => exact ⟨k + 1, E2, S2, F2, by go_num, by omega, M7, T7, F7, U7, R7⟩
            case measure => simp [intOf]; omega
          · obtain rfl : k = z := by omega
            have hTl := hT.out
            rw [List.take_of_length_le (by rw [HZ.out]; exact Nat.le_refl _)] at hTl
            have HL := Lib.hid (HTKR.out E' S' hTl)
            clear hk hkz hTl
            go_wp2_with fail
            go_end0
            exact ⟨rfl, E', S', F', hM.out, HL.out, hF.out, hTu.out⟩
      · have q3 : ((c : Int) == 3) = false := by rw [beq_eq_false_iff_ne]; omega
        by_cases c6 : c = 6
        · subst c6
          obtain ⟨k0, n0, x0, rfl⟩ := three hv.1 (k6.1 rfl)
          obtain rfl := k6.1 rfl
          obtain rfl : s = tb10 (sealT k0 n0 x0).enc := bl_inj hs
          have HTKS := Lib.hid (fun (E' : List Ent) (S' : List Shut) (q : Took was U (E ++ [e0]) S [n0] E' S') => took_seal (k := k0) (x := x0) hv hu HE0.out q)
          have HC : Hid (∀ (W : World) (g : Nat), Mk W F p (E ++ [e0]) S → RowOut F W (some ⟨g, 0, none⟩) [tb10 (sealT k0 n0 x0).enc] → Calls Try.prog 30 #[ptr11 p, .string (tb10 n0.enc), .agg #[.int .u8 4, .int .i64 0, .int .i64 0, .int .i64 0, .int .i64 0, .string ⟨#[]⟩, .slice none 0 0], .slice (some ⟨g, 0, none⟩) 1 1] W (TakePost was U p (E ++ [e0]) S F n0 W)) := Lib.hid (fun W g hM hR => by
            refine ih n0 (node_valid_parts hv _ (by simp)) (hdp _ (by simp)) (hU _ _ hu _ (by simp)) (tb10 n0.enc) rfl p 4 0 (some ⟨g, 0, none⟩) 1 [tb10 (sealT k0 n0 x0).enc] (E ++ [e0]) S F W hM HGO.out HSL1.out ?_ ?_ (fit0 (by decide) ⟨by decide, by decide⟩) ?_ hR
            · have h4 : n0.enc.length ≤ (Tm.node [115] [k0, n0, x0]).enc.length := by
                rw [Tm.enc_node]
                simp only [encs, List.length_append, List.length_cons, List.length_nil]
                omega
              omega
            · exact makes_nonce hv
            · intro x hx
              rw [List.map_cons, List.map_nil, List.mem_singleton] at hx
              rw [hx]
              exact keysE_snoc.2 (.inr HE0.out.symm))
          generalize L.length = q at *
          clear ih hv hd hu hg hsl hwt hmk hfit hin hrow hdp hsz hkey hA hA1 hE hb1 hsz1 hgo hnew hsl1 hW3 hA3 hrow3 hm4 ht4 hA4 hT4 hbx hmp hmb hbx4 hk hkd k1 k2 k3 k6 he0
          go_enter Try.func30, Try.ntmps30
          go_wp2_with (first | (at_lookup; refine wpList_lookV rfl _ _ 56 true rfl _ _ _ rfl rfl (HLK.out _ ((Below.refl _ _).alloc (Nat.le_refl _) _)) ?_) | fail)
          rw [← hW2.out, ← HW3.out]
          go_region_held3 (fun W => W.cell? ⟨p, 0, none⟩ = some (.map (some mm)) ∧ W.cell? ⟨w.heap.size, 0, none⟩ = some (.int .u8 f) ∧ W.cell? ⟨w.heap.size, 1, none⟩ = some (.int .i64 0) ∧ W.cell? ⟨w.heap.size, 2, none⟩ = some (.int .i64 0) ∧ W.cell? ⟨w.heap.size, 3, none⟩ = some (.int .i64 0) ∧ W.cell? ⟨w.heap.size, 4, none⟩ = some (.int .i64 n) ∧ W.cell? ⟨w.heap.size, 5, none⟩ = some (.string ⟨#[]⟩) ∧ W.cell? ⟨w.heap.size, 6, none⟩ = some (.slice none 0 0)) (first | assumption | exact KA) (first | fail)
          clear KS KA run4 HLK
          go_wp2_with fail
          refine (HP.out _).mono ?_; rintro e w5 ⟨pv, P, rfl, ho, hP, b5⟩
          have B5 := Lib.hid b5
          obtain ⟨po, pcap, rfl, hrw⟩ := rowOut_own (F := F) ho (fun b hb => Nat.lt_of_lt_of_le (HFT.out b hb) HSW.out)
          clear ho
          go_wp2_with fail
          obtain rfl : P = [tb10 k0.enc, tb10 n0.enc, tb10 x0.enc] := (List.map_inj_right (fun _ _ e => bl_inj e)).1 (by rw [hP]; rfl)
          rw [show ([tb10 k0.enc, tb10 n0.enc, tb10 x0.enc] : List ByteArray).length = 3 from rfl]
          clear hP
          refine (HK.out _).mono ?_; rintro e w6 ⟨rfl, b6⟩
          have B6 := Lib.hid (below_step B5.out b6)
          have hR6 := hrw.turn (F' := F) (turn_below b6) (fun _ hb => .inl hb)
          have R6 := Lib.hid hR6
          have M6 : Hid (Mk w6 F p (E ++ [e0]) S) := Lib.hid ⟨mm, ma, sv, _, HA4.out.kept B6.out⟩
          have T6 := Lib.hid (turn_trans HT4.out (turn_below B6.out) (fun _ hb => .inl hb))
          rcases hR6 with e | ⟨g, off, rfl, hlt, hng, hc⟩
          · cases e
          have c1 := hc 1 (by simp)
          simp only [List.getD_cons_succ, List.getD_cons_zero] at c1
          have BA : Below w6.heap.size w6 (w6.alloc (.cells #[.string (tb10 (sealT k0 n0 x0).enc)] 9)) := (Below.refl _ _).alloc (Nat.le_refl _) _
          have HFT6 : ∀ b, F b → b < w6.heap.size := fun b hb => Nat.lt_of_lt_of_le (HFT.out b hb) T6.out.size
          have HCK := Lib.hid (HC.out (w6.alloc (.cells #[.string (tb10 (sealT k0 n0 x0).enc)] 9)) w6.heap.size (M6.out.kept BA) (rowOut_new HFT6 _))
          have HBA := Lib.hid BA
          generalize hSS : tb10 (sealT k0 n0 x0).enc = sS at *
          generalize hNN : tb10 n0.enc = sN at *
          clear b5 b6 hrw B5 HT4 HA4 hlt hng hc BA HFT6 HC
          go_wp2_with fail
          refine HCK.out.mono ?_; rintro e w7 ⟨rfl, E7, S7, F7', m7, t7, f7, u7⟩
          have T7 := Lib.hid t7
          have F7 : Hid (∀ b, F7' b → F b ∨ w.heap.size ≤ b) := Lib.hid (fun b hb => (f7 b hb).elim .inl (fun e => .inr (Nat.le_trans T6.out.size (Nat.le_trans HBA.out.size e))))
          have U7 := Lib.hid (turn_trans (turn_trans T6.out (turn_below HBA.out) (fun _ hb => .inl hb)) u7 (fun _ hb => .inl hb))
          have hR7 := (R6.out.turn (F' := F) (turn_below HBA.out) (fun _ hb => .inl hb)).turn u7 f7
          have WT7 := t7.wt
          obtain ⟨mm7, ma7, sv7, V7, hA7⟩ := m7
          have MA7 := Lib.hid (hA7.kept (drew11 w7))
          have OC7 := Lib.hid MA7.out.seals
          have FS7 := Lib.hid hA7.fs
          have SL7 : Hid (S7.length ≤ 1000000000) := Lib.hid (by
            have h1 := wt_len S7
            have h2 := HWT.out
            have h4 : n0.enc.length ≤ (Tm.node [115] [k0, n0, x0]).enc.length := by
              rw [Tm.enc_node]
              simp only [encs, List.length_append, List.length_cons, List.length_nil]
              omega
            simp only [encs, List.append_nil] at WT7
            omega)
          rcases hR7 with e | ⟨g', off', e, hlt, hng, hc⟩
          · cases e
          cases e
          have k7a := hc 0 (by simp)
          have k7b := hc 2 (by simp)
          simp only [List.getD_cons_succ, List.getD_cons_zero, Nat.add_zero] at k7a k7b
          have NG7 : Hid (¬ F7' g ∧ g ≠ p) := Lib.hid ⟨hng, fun e => hng (e ▸ hA7.fp)⟩
          have KS7 : w7.drew.cell? ⟨g, off, none⟩ = some (.string (tb10 k0.enc)) ∧ w7.drew.cell? ⟨g, off + 2, none⟩ = some (.string (tb10 x0.enc)) := ⟨k7a, k7b⟩
          have c71 : w7.drew.cell? ⟨p, 1, none⟩ = some sv7 := cell_of_row _ _ _ _ _ _ MA7.out.cells
          clear t7 f7 u7 hc hlt hng k7a k7b WT7 c1 hA7
          subst hSS
          go_wp2_with fail
          refine wp_region_held_drew (S := fun W => W.cell? ⟨g, off, none⟩ = some (.string (tb10 k0.enc)) ∧ W.cell? ⟨g, off + 2, none⟩ = some (.string (tb10 x0.enc))) (by kernel_rfl) (by first | assumption | (exact KS7)) (fun hHeld => ?_)
          refine wpAnyH_take (i := 0) (oi := { dst := some 66, op := Op.move (Operand.tmp 0), type := 55, pos := "forge.go:190", after := #[], guard := none }) (v := ?_) rfl (by kernel_rfl) (by kernel_rfl) (by kernel_rfl) (fun _ _ _ h => h) (Or.inl ⟨by rfl, ?_⟩) (by assumption) ?_
          rotate_left 1
          · (intro w hSw; (try dsimp only at hSw); go_simp; try with_reducible rfl)
          (try simp only [Act.put, List.setIfInBounds_toArray, List.set_cons_zero, List.set_cons_succ])
          refine wpAnyH_take (i := 1) (oi := { dst := some 67, op := Op.move (Operand.tmp 0), type := 55, pos := "forge.go:190", after := #[], guard := none }) (v := ?_) rfl (by kernel_rfl) (by kernel_rfl) (by kernel_rfl) (fun _ _ _ h => h) (Or.inl ⟨by rfl, ?_⟩) (by assumption) ?_
          rotate_left 1
          · (intro w hSw; (try dsimp only at hSw); go_simp; try with_reducible rfl)
          (try simp only [Act.put, List.setIfInBounds_toArray, List.set_cons_zero, List.set_cons_succ])
          refine wpAnyH_take (i := 2) (oi := { dst := some 68, op := Op.nilCheck (Operand.tmp 67), type := 0, pos := "forge.go:190", after := #[{ on := 1, ground := Ground.data }], guard := none }) (v := ?_) rfl (by kernel_rfl) (by kernel_rfl) (by kernel_rfl) (fun _ _ _ h => h) (Or.inl ⟨by rfl, ?_⟩) (by assumption) ?_
          rotate_left 1
          · (intro w hSw; (try dsimp only at hSw); go_simp; try with_reducible rfl)
          (try simp only [Act.put, List.setIfInBounds_toArray, List.set_cons_zero, List.set_cons_succ])
          refine wpAnyH_take (i := 3) (oi := { dst := some 69, op := Op.fieldAddr 60 (Operand.tmp 68) 1, type := 0, pos := "forge.go:190", after := #[{ on := 2, ground := Ground.data }], guard := none }) (v := ?_) rfl (by kernel_rfl) (by kernel_rfl) (by kernel_rfl) (fun _ _ _ h => h) (Or.inl ⟨by rfl, ?_⟩) (by assumption) ?_
          rotate_left 1
          · (intro w hSw; (try dsimp only at hSw); go_simp; try with_reducible rfl)
          (try simp only [Act.put, List.setIfInBounds_toArray, List.set_cons_zero, List.set_cons_succ])
          refine wpAnyH_take (i := 5) (oi := { dst := some 71, op := Op.move (Operand.tmp 1), type := 9, pos := "forge.go:190", after := #[], guard := none }) (v := ?_) rfl (by kernel_rfl) (by kernel_rfl) (by kernel_rfl) (fun _ _ _ h => h) (Or.inl ⟨by rfl, ?_⟩) (by assumption) ?_
          rotate_left 1
          · (intro w hSw; (try dsimp only at hSw); go_simp; try with_reducible rfl)
          (try simp only [Act.put, List.setIfInBounds_toArray, List.set_cons_zero, List.set_cons_succ])
          refine wpAnyH_take (i := 6) (oi := { dst := some 72, op := Op.move (Operand.tmp 10), type := 22, pos := "forge.go:190", after := #[], guard := none }) (v := ?_) rfl (by kernel_rfl) (by kernel_rfl) (by kernel_rfl) (fun _ _ _ h => h) (Or.inl ⟨by rfl, ?_⟩) (by assumption) ?_
          rotate_left 1
          · (intro w hSw; (try dsimp only at hSw); go_simp; try with_reducible rfl)
          (try simp only [Act.put, List.setIfInBounds_toArray, List.set_cons_zero, List.set_cons_succ])
          refine wpAnyH_take (i := 7) (oi := { dst := some 73, op := Op.indexAddr 22 (Operand.tmp 72) (Operand.const (Value.int IntKind.i64 0)), type := 0, pos := "forge.go:190", after := #[{ on := 6, ground := Ground.data }], guard := none }) (v := ?_) rfl (by kernel_rfl) (by kernel_rfl) (by kernel_rfl) (fun _ _ _ h => h) (Or.inl ⟨by rfl, ?_⟩) (by assumption) ?_
          rotate_left 1
          · (intro w hSw; (try dsimp only at hSw); go_simp; try with_reducible rfl)
          (try simp only [Act.put, List.setIfInBounds_toArray, List.set_cons_zero, List.set_cons_succ])
          refine wpAnyH_take (i := 8) (oi := { dst := some 74, op := Op.load 9 (Operand.tmp 73), type := 9, pos := "forge.go:190", after := #[{ on := 7, ground := Ground.data }], guard := none }) (v := ?_) rfl (by kernel_rfl) (by kernel_rfl) (by kernel_rfl) (fun _ _ _ h => h) (Or.inl ⟨by rfl, ?_⟩) (by assumption) ?_
          rotate_left 1
          · (intro w hSw; (try dsimp only at hSw); go_simp; try with_reducible rfl)
          (try simp only [Act.put, List.setIfInBounds_toArray, List.set_cons_zero, List.set_cons_succ])
          refine wpAnyH_take (i := 9) (oi := { dst := some 75, op := Op.move (Operand.tmp 10), type := 22, pos := "forge.go:190", after := #[], guard := none }) (v := ?_) rfl (by kernel_rfl) (by kernel_rfl) (by kernel_rfl) (fun _ _ _ h => h) (Or.inl ⟨by rfl, ?_⟩) (by assumption) ?_
          rotate_left 1
          · (intro w hSw; (try dsimp only at hSw); go_simp; try with_reducible rfl)
          (try simp only [Act.put, List.setIfInBounds_toArray, List.set_cons_zero, List.set_cons_succ])
          refine wpAnyH_take (i := 10) (oi := { dst := some 76, op := Op.indexAddr 22 (Operand.tmp 75) (Operand.const (Value.int IntKind.i64 2)), type := 0, pos := "forge.go:190", after := #[{ on := 9, ground := Ground.data }], guard := none }) (v := ?_) rfl (by kernel_rfl) (by kernel_rfl) (by kernel_rfl) (fun _ _ _ h => h) (Or.inl ⟨by rfl, ?_⟩) (by assumption) ?_
          rotate_left 1
          · (intro w hSw; (try dsimp only at hSw); go_simp; try with_reducible rfl)
          (try simp only [Act.put, List.setIfInBounds_toArray, List.set_cons_zero, List.set_cons_succ])
          refine wpAnyH_take (i := 11) (oi := { dst := some 77, op := Op.load 9 (Operand.tmp 76), type := 9, pos := "forge.go:190", after := #[{ on := 10, ground := Ground.data }], guard := none }) (v := ?_) rfl (by kernel_rfl) (by kernel_rfl) (by kernel_rfl) (fun _ _ _ h => h) (Or.inl ⟨by rfl, ?_⟩) (by assumption) ?_
          rotate_left 1
          · (intro w hSw; (try dsimp only at hSw); go_simp; try with_reducible rfl)
          (try simp only [Act.put, List.setIfInBounds_toArray, List.set_cons_zero, List.set_cons_succ])
          refine wpAnyH_take (i := 12) (oi := { dst := some 78, op := Op.build 99 #[(0, Operand.tmp 71), (1, Operand.tmp 74), (2, Operand.tmp 77)], type := 99, pos := "forge.go:190", after := #[{ on := 5, ground := Ground.data }, { on := 8, ground := Ground.data }, { on := 11, ground := Ground.data }], guard := none }) (v := ?_) rfl (by kernel_rfl) (by kernel_rfl) (by kernel_rfl) (fun _ _ _ h => h) (Or.inl ⟨by rfl, ?_⟩) (by assumption) ?_
          rotate_left 1
          · (intro w hSw; (try dsimp only at hSw); go_simp; try with_reducible rfl)
          (try simp only [Act.put, List.setIfInBounds_toArray, List.set_cons_zero, List.set_cons_succ])
          refine wpAnyH_ready (rs := [4, 13]) (by kernel_rfl) (by simp) ?_
          refine AllReadyH.cons (o := { dst := some 70, op := Op.load 58 (Operand.tmp 69), type := 58, pos := "forge.go:190", after := #[{ on := 3, ground := Ground.data }], guard := none }) rfl (fun K hK => ?_) ?_
          · go_simp
            refine hK.out _ _ (by exact KS7) (fun hHeld => ?_)
            clear hK K
            (try simp only [Act.put, List.setIfInBounds_toArray, List.set_cons_zero, List.set_cons_succ])
            refine wpAnyH_ready (rs := [13]) (by kernel_rfl) (by simp) ?_
            refine AllReadyH.cons (o := { dst := some 79, op := Op.buildSlice 58 1 #[(0, Operand.tmp 78)], type := 58, pos := "forge.go:190", after := #[{ on := 12, ground := Ground.data }], guard := none }) rfl (fun K hK => ?_) AllReadyH.nil
            go_simp
            refine hK.out _ _ (by exact ⟨cell_keep ((Below.refl _ _).alloc (Nat.le_refl _) _) KS7.1, cell_keep ((Below.refl _ _).alloc (Nat.le_refl _) _) KS7.2⟩) (fun hHeld => ?_)
            clear hK K
            (try simp only [Act.put, List.setIfInBounds_toArray, List.set_cons_zero, List.set_cons_succ])
            refine wpAnyH_ready (rs := [14]) (by kernel_rfl) (by simp) ?_
            refine AllReadyH.cons (o := { dst := some 80, op := Op.call { callee := Callee.builtin Builtin.append, args := #[Operand.tmp 70, Operand.tmp 79], argTypes := #[58, 58] }, type := 58, pos := "forge.go:190", after := #[{ on := 4, ground := Ground.data }, { on := 13, ground := Ground.data }], guard := none }) rfl (fun K hK => ?_) AllReadyH.nil
            refine wpOp_appC (W1 := w7.drew) (v := sv7) (S := S7) (by rfl) _ _ rfl rfl ⟨(sealT k0 n0 x0).enc, k0.enc, x0.enc⟩ rfl rfl OC7.out SL7.out ?_
            intro v8 w8 ho8 hg8 hl8
            have KS8 : w8.cell? ⟨g, off, none⟩ = some (.string (tb10 k0.enc)) ∧ w8.cell? ⟨g, off + 2, none⟩ = some (.string (tb10 x0.enc)) := ⟨cell_grown hg8 (World.block_lt_of_cell? _ _ KS7.1) (fun e => NG7.out.1 (FS7.out _ e.symm)) KS7.1, cell_grown hg8 (World.block_lt_of_cell? _ _ KS7.2) (fun e => NG7.out.1 (FS7.out _ e.symm)) KS7.2⟩
            refine hK.out _ _ (by exact KS8) (fun hHeld => ?_)
            clear hK K
            (try simp only [Act.put, List.setIfInBounds_toArray, List.set_cons_zero, List.set_cons_succ])
            have hMS := MA7.out.sealed ho8 hg8 hl8
            have M9 := Lib.hid hMS.1
            have T9 := Lib.hid hMS.2
            have F9 : Hid (∀ b, v8.ownBlock = some b → sv7.ownBlock = some b ∨ w7.drew.heap.size ≤ b) := Lib.hid hl8
            have r81 := mk_row MA7.out hg8
            have c81 : w8.cell? ⟨p, 1, none⟩ = some sv7 := cell_of_row _ _ _ _ _ _ r81
            have f81 : w8.frozen? ⟨p, 1, none⟩ = false := frozen_row11 r81
            obtain ⟨a8, c8, rfl, _⟩ := ownC_row ho8
            generalize (S7 ++ [(⟨(sealT k0 n0 x0).enc, k0.enc, x0.enc⟩ : Shut)]).length = z8 at *
            clear hMS ho8 hg8 hl8 r81
            refine wpAnyH_take (i := 15) (oi := { dst := some 81, op := Op.nilCheck (Operand.tmp 66), type := 0, pos := "forge.go:190", after := #[{ on := 0, ground := Ground.data }, { on := 0, ground := Ground.phase }, { on := 1, ground := Ground.phase }, { on := 2, ground := Ground.phase }, { on := 3, ground := Ground.phase }, { on := 4, ground := Ground.phase }, { on := 5, ground := Ground.phase }, { on := 6, ground := Ground.phase }, { on := 7, ground := Ground.phase }, { on := 8, ground := Ground.phase }, { on := 9, ground := Ground.phase }, { on := 10, ground := Ground.phase }, { on := 11, ground := Ground.phase }, { on := 12, ground := Ground.phase }, { on := 13, ground := Ground.phase }, { on := 14, ground := Ground.phase }], guard := none }) (v := ?_) rfl (by kernel_rfl) (by kernel_rfl) (by kernel_rfl) (fun _ _ _ h => h) (Or.inl ⟨by rfl, ?_⟩) (by assumption) ?_
            rotate_left 1
            · (intro w hSw; (try dsimp only at hSw); go_simp; try with_reducible rfl)
            (try simp only [Act.put, List.setIfInBounds_toArray, List.set_cons_zero, List.set_cons_succ])
            refine wpAnyH_take (i := 16) (oi := { dst := some 82, op := Op.fieldAddr 60 (Operand.tmp 81) 1, type := 0, pos := "forge.go:190", after := #[{ on := 15, ground := Ground.data }, { on := 0, ground := Ground.phase }, { on := 1, ground := Ground.phase }, { on := 2, ground := Ground.phase }, { on := 3, ground := Ground.phase }, { on := 4, ground := Ground.phase }, { on := 5, ground := Ground.phase }, { on := 6, ground := Ground.phase }, { on := 7, ground := Ground.phase }, { on := 8, ground := Ground.phase }, { on := 9, ground := Ground.phase }, { on := 10, ground := Ground.phase }, { on := 11, ground := Ground.phase }, { on := 12, ground := Ground.phase }, { on := 13, ground := Ground.phase }, { on := 14, ground := Ground.phase }], guard := none }) (v := ?_) rfl (by kernel_rfl) (by kernel_rfl) (by kernel_rfl) (fun _ _ _ h => h) (Or.inl ⟨by rfl, ?_⟩) (by assumption) ?_
            rotate_left 1
            · (intro w hSw; (try dsimp only at hSw); go_simp; try with_reducible rfl)
            (try simp only [Act.put, List.setIfInBounds_toArray, List.set_cons_zero, List.set_cons_succ])
            refine wpAnyH_ready (rs := [17]) (by kernel_rfl) (by simp) ?_
            refine AllReadyH.cons (o := { dst := none, op := Op.store 58 (Operand.tmp 82) (Operand.tmp 80), type := 0, pos := "forge.go:190", after := #[{ on := 16, ground := Ground.data }, { on := 14, ground := Ground.data }, { on := 14, ground := Ground.chain }, { on := 0, ground := Ground.phase }, { on := 1, ground := Ground.phase }, { on := 2, ground := Ground.phase }, { on := 3, ground := Ground.phase }, { on := 4, ground := Ground.phase }, { on := 5, ground := Ground.phase }, { on := 6, ground := Ground.phase }, { on := 7, ground := Ground.phase }, { on := 8, ground := Ground.phase }, { on := 9, ground := Ground.phase }, { on := 10, ground := Ground.phase }, { on := 11, ground := Ground.phase }, { on := 12, ground := Ground.phase }, { on := 13, ground := Ground.phase }, { on := 14, ground := Ground.phase }], guard := none }) rfl (fun K hK => ?_) AllReadyH.nil
            go_simp
            refine hK.out _ _ (by exact ⟨cell_set NG7.out.2 KS8.1, cell_set NG7.out.2 KS8.2⟩) (fun hHeld => ?_)
            clear hK K
            (try simp only [Act.put, List.setIfInBounds_toArray, List.set_cons_zero, List.set_cons_succ])
            refine wpAnyH_done (by kernel_rfl) ?_ _
            go_wp2_with fail
            go_end0
            exact ⟨rfl, E7, S7 ++ [⟨(sealT k0 n0 x0).enc, k0.enc, x0.enc⟩], _, ⟨_, _, _, _, M9.out⟩, HTKS.out E7 S7 T7.out, fun b hb => hb.elim (F7.out b) (fun e => (F9.out b e).elim (fun e => F7.out b (FS7.out b e)) (fun e => .inr (Nat.le_trans U7.out.size e))), turn_trans (turn_trans U7.out (turn_below (drew11 w7)) (fun _ hb => .inl hb)) T9.out F7.out⟩
          refine AllReadyH.cons (o := { dst := some 79, op := Op.buildSlice 58 1 #[(0, Operand.tmp 78)], type := 58, pos := "forge.go:190", after := #[{ on := 12, ground := Ground.data }], guard := none }) rfl (fun K hK => ?_) AllReadyH.nil
          go_simp
          refine hK.out _ _ (by exact ⟨cell_keep ((Below.refl _ _).alloc (Nat.le_refl _) _) KS7.1, cell_keep ((Below.refl _ _).alloc (Nat.le_refl _) _) KS7.2⟩) (fun hHeld => ?_)
          clear hK K
          (try simp only [Act.put, List.setIfInBounds_toArray, List.set_cons_zero, List.set_cons_succ])
          have c72 : ((w7.alloc (.cells #[.string (tb10 (sealT k0 n0 x0).enc), .string (tb10 k0.enc), .string (tb10 x0.enc)] 99)).drew).cell? ⟨p, 1, none⟩ = some sv7 := cell_keep (w := w7.drew) (w' := w7.drew.alloc (.cells (shutV ⟨(sealT k0 n0 x0).enc, k0.enc, x0.enc⟩) 99)) ((Below.refl _ _).alloc (Nat.le_refl _) _) c71
          refine wpAnyH_ready (rs := [4]) (by kernel_rfl) (by simp) ?_
          refine AllReadyH.cons (o := { dst := some 70, op := Op.load 58 (Operand.tmp 69), type := 58, pos := "forge.go:190", after := #[{ on := 3, ground := Ground.data }], guard := none }) rfl (fun K hK => ?_) AllReadyH.nil
          go_simp
          refine hK.out _ _ (by exact ⟨cell_keep ((Below.refl _ _).alloc (Nat.le_refl _) _) KS7.1, cell_keep ((Below.refl _ _).alloc (Nat.le_refl _) _) KS7.2⟩) (fun hHeld => ?_)
          clear hK K
          (try simp only [Act.put, List.setIfInBounds_toArray, List.set_cons_zero, List.set_cons_succ])
          clear c72
          refine wpAnyH_ready (rs := [14]) (by kernel_rfl) (by simp) ?_
          refine AllReadyH.cons (o := { dst := some 80, op := Op.call { callee := Callee.builtin Builtin.append, args := #[Operand.tmp 70, Operand.tmp 79], argTypes := #[58, 58] }, type := 58, pos := "forge.go:190", after := #[{ on := 4, ground := Ground.data }, { on := 13, ground := Ground.data }], guard := none }) rfl (fun K hK => ?_) AllReadyH.nil
          refine wpOp_appC (W1 := w7.drew) (v := sv7) (S := S7) (by rfl) _ _ rfl rfl ⟨(sealT k0 n0 x0).enc, k0.enc, x0.enc⟩ rfl rfl OC7.out SL7.out ?_
          intro v8 w8 ho8 hg8 hl8
          have KS8 : w8.cell? ⟨g, off, none⟩ = some (.string (tb10 k0.enc)) ∧ w8.cell? ⟨g, off + 2, none⟩ = some (.string (tb10 x0.enc)) := ⟨cell_grown hg8 (World.block_lt_of_cell? _ _ KS7.1) (fun e => NG7.out.1 (FS7.out _ e.symm)) KS7.1, cell_grown hg8 (World.block_lt_of_cell? _ _ KS7.2) (fun e => NG7.out.1 (FS7.out _ e.symm)) KS7.2⟩
          refine hK.out _ _ (by exact KS8) (fun hHeld => ?_)
          clear hK K
          (try simp only [Act.put, List.setIfInBounds_toArray, List.set_cons_zero, List.set_cons_succ])
          have hMS := MA7.out.sealed ho8 hg8 hl8
          have M9 := Lib.hid hMS.1
          have T9 := Lib.hid hMS.2
          have F9 : Hid (∀ b, v8.ownBlock = some b → sv7.ownBlock = some b ∨ w7.drew.heap.size ≤ b) := Lib.hid hl8
          have r81 := mk_row MA7.out hg8
          have c81 : w8.cell? ⟨p, 1, none⟩ = some sv7 := cell_of_row _ _ _ _ _ _ r81
          have f81 : w8.frozen? ⟨p, 1, none⟩ = false := frozen_row11 r81
          obtain ⟨a8, c8, rfl, _⟩ := ownC_row ho8
          generalize (S7 ++ [(⟨(sealT k0 n0 x0).enc, k0.enc, x0.enc⟩ : Shut)]).length = z8 at *
          clear hMS ho8 hg8 hl8 r81
          refine wpAnyH_take (i := 15) (oi := { dst := some 81, op := Op.nilCheck (Operand.tmp 66), type := 0, pos := "forge.go:190", after := #[{ on := 0, ground := Ground.data }, { on := 0, ground := Ground.phase }, { on := 1, ground := Ground.phase }, { on := 2, ground := Ground.phase }, { on := 3, ground := Ground.phase }, { on := 4, ground := Ground.phase }, { on := 5, ground := Ground.phase }, { on := 6, ground := Ground.phase }, { on := 7, ground := Ground.phase }, { on := 8, ground := Ground.phase }, { on := 9, ground := Ground.phase }, { on := 10, ground := Ground.phase }, { on := 11, ground := Ground.phase }, { on := 12, ground := Ground.phase }, { on := 13, ground := Ground.phase }, { on := 14, ground := Ground.phase }], guard := none }) (v := ?_) rfl (by kernel_rfl) (by kernel_rfl) (by kernel_rfl) (fun _ _ _ h => h) (Or.inl ⟨by rfl, ?_⟩) (by assumption) ?_
          rotate_left 1
          · (intro w hSw; (try dsimp only at hSw); go_simp; try with_reducible rfl)
          (try simp only [Act.put, List.setIfInBounds_toArray, List.set_cons_zero, List.set_cons_succ])
          refine wpAnyH_take (i := 16) (oi := { dst := some 82, op := Op.fieldAddr 60 (Operand.tmp 81) 1, type := 0, pos := "forge.go:190", after := #[{ on := 15, ground := Ground.data }, { on := 0, ground := Ground.phase }, { on := 1, ground := Ground.phase }, { on := 2, ground := Ground.phase }, { on := 3, ground := Ground.phase }, { on := 4, ground := Ground.phase }, { on := 5, ground := Ground.phase }, { on := 6, ground := Ground.phase }, { on := 7, ground := Ground.phase }, { on := 8, ground := Ground.phase }, { on := 9, ground := Ground.phase }, { on := 10, ground := Ground.phase }, { on := 11, ground := Ground.phase }, { on := 12, ground := Ground.phase }, { on := 13, ground := Ground.phase }, { on := 14, ground := Ground.phase }], guard := none }) (v := ?_) rfl (by kernel_rfl) (by kernel_rfl) (by kernel_rfl) (fun _ _ _ h => h) (Or.inl ⟨by rfl, ?_⟩) (by assumption) ?_
          rotate_left 1
          · (intro w hSw; (try dsimp only at hSw); go_simp; try with_reducible rfl)
          (try simp only [Act.put, List.setIfInBounds_toArray, List.set_cons_zero, List.set_cons_succ])
          refine wpAnyH_ready (rs := [17]) (by kernel_rfl) (by simp) ?_
          refine AllReadyH.cons (o := { dst := none, op := Op.store 58 (Operand.tmp 82) (Operand.tmp 80), type := 0, pos := "forge.go:190", after := #[{ on := 16, ground := Ground.data }, { on := 14, ground := Ground.data }, { on := 14, ground := Ground.chain }, { on := 0, ground := Ground.phase }, { on := 1, ground := Ground.phase }, { on := 2, ground := Ground.phase }, { on := 3, ground := Ground.phase }, { on := 4, ground := Ground.phase }, { on := 5, ground := Ground.phase }, { on := 6, ground := Ground.phase }, { on := 7, ground := Ground.phase }, { on := 8, ground := Ground.phase }, { on := 9, ground := Ground.phase }, { on := 10, ground := Ground.phase }, { on := 11, ground := Ground.phase }, { on := 12, ground := Ground.phase }, { on := 13, ground := Ground.phase }, { on := 14, ground := Ground.phase }], guard := none }) rfl (fun K hK => ?_) AllReadyH.nil
          go_simp
          refine hK.out _ _ (by exact ⟨cell_set NG7.out.2 KS8.1, cell_set NG7.out.2 KS8.2⟩) (fun hHeld => ?_)
          clear hK K
          (try simp only [Act.put, List.setIfInBounds_toArray, List.set_cons_zero, List.set_cons_succ])
          refine wpAnyH_done (by kernel_rfl) ?_ _
          go_wp2_with fail
          go_end0
          exact ⟨rfl, E7, S7 ++ [⟨(sealT k0 n0 x0).enc, k0.enc, x0.enc⟩], _, ⟨_, _, _, _, M9.out⟩, HTKS.out E7 S7 T7.out, fun b hb => hb.elim (F7.out b) (fun e => (F9.out b e).elim (fun e => F7.out b (FS7.out b e)) (fun e => .inr (Nat.le_trans U7.out.size e))), turn_trans (turn_trans U7.out (turn_below (drew11 w7)) (fun _ hb => .inl hb)) T9.out F7.out⟩
        · have q6 : ((c : Int) == 6) = false := by rw [beq_eq_false_iff_ne]; omega
          have HTK : Hid (Took was U E S [.node h l] (E ++ [e0]) S) := Lib.hid (took_else (fun e => c3 (k3.2 e)) (fun e => c6 (k6.2 e)) hv HE0.out HGO.out hsl)
          generalize L.length = q at *
          clear ih hv hd hu hs hg hsl hwt hmk hfit hin hrow hdp hsz hkey hA hA1 hE hb1 hsz1 hgo hnew hsl1 hW3 hA3 hrow3 hm4 ht4 hA4 hT4 hbx hmp hmb hbx4 hk hkd k1 k2 k3 k6 c3 c6 he0
          go_enter Try.func30, Try.ntmps30
          go_wp2_with (first | (at_lookup; refine wpList_lookV rfl _ _ 56 true rfl _ _ _ rfl rfl (HLK.out _ ((Below.refl _ _).alloc (Nat.le_refl _) _)) ?_) | fail)
          rw [← hW2.out, ← HW3.out]
          go_region_held3 (fun W => W.cell? ⟨p, 0, none⟩ = some (.map (some mm)) ∧ W.cell? ⟨w.heap.size, 0, none⟩ = some (.int .u8 f) ∧ W.cell? ⟨w.heap.size, 1, none⟩ = some (.int .i64 0) ∧ W.cell? ⟨w.heap.size, 2, none⟩ = some (.int .i64 0) ∧ W.cell? ⟨w.heap.size, 3, none⟩ = some (.int .i64 0) ∧ W.cell? ⟨w.heap.size, 4, none⟩ = some (.int .i64 n) ∧ W.cell? ⟨w.heap.size, 5, none⟩ = some (.string ⟨#[]⟩) ∧ W.cell? ⟨w.heap.size, 6, none⟩ = some (.slice none 0 0)) (first | assumption | exact KA) (first | fail)
          clear KS KA run4 HLK
          go_wp2_with fail
          refine (HP.out _).mono ?_; rintro e w5 ⟨pv, P, rfl, ho, _, b5⟩
          have B5 := Lib.hid b5
          obtain ⟨po, pcap, rfl, _⟩ := ownT_row ho
          clear b5 ho
          go_wp2_with fail
          refine (HK.out _).mono ?_; rintro e w6 ⟨rfl, b6⟩
          have B6 := Lib.hid (below_step B5.out b6)
          clear b6
          go_wp2_with fail
          go_end0
          exact ⟨rfl, E ++ [e0], S, F, ⟨mm, ma, sv, _, HA4.out.kept B6.out⟩, HTK.out, fun _ hb => .inl hb, turn_trans HT4.out (turn_below B6.out) (fun _ hb => .inl hb)⟩
end Go.Proofs.Ytpajcalfjfkogaa.Pl

namespace Go.Proofs.Ytpajcalfjfkogaa.Pl
open Go.RowKit Go.Maps

theorem text_node11 {h : List UInt8} {l : List Tm} (hv : (Tm.node h l).valid) {x : List UInt8} (e : h = 100 :: txt x) (hx : x.length ≤ 1024) : textP (Tm.node h l).enc = (x, true) := by
  have hr := rdt_txt (t := x) (by rw [two64]; omega) (encs l) 1024 (by omega)
  unfold textP
  rw [if_pos ⟨check_enc hv, by rw [Tm.enc_node, e]; simp⟩, Tm.enc_node, e, List.cons_append, List.drop_succ_cons, List.drop_zero, hr]
theorem fitx {f : Nat} {tx : ByteArray} (hf : f ≤ 255) (hs : tx.size ≤ 9223372036854775807) : (stp0 f 0 tx).Fit :=
  ⟨hf, (by show I64 (0 : Int); exact ⟨by decide, by decide⟩), (by show I64 (0 : Int); exact ⟨by decide, by decide⟩), (by show I64 (0 : Int); exact ⟨by decide, by decide⟩), (by show I64 (0 : Int); exact ⟨by decide, by decide⟩), hs, (by show ([] : List Int).length ≤ _; exact Nat.zero_le _), fun v hv => by cases hv⟩
theorem composing_0 (w : World) : Calls Try.prog 57 #[.int .u8 0] w fun e w' => e = .returned (.int .u8 0) ∧ Below w.heap.size w w' := by
  go_enter Try.func57, Try.ntmps57
  go_wp2_with fail
  go_ret
  exact ⟨rfl, Below.refl _ _⟩
theorem composing_1 (w : World) : Calls Try.prog 57 #[.int .u8 1] w fun e w' => e = .returned (.int .u8 2) ∧ Below w.heap.size w w' := by
  go_enter Try.func57, Try.ntmps57
  go_wp2_with fail
  go_ret
  exact ⟨rfl, Below.refl _ _⟩
theorem composing_2 (w : World) : Calls Try.prog 57 #[.int .u8 2] w fun e w' => e = .returned (.int .u8 0) ∧ Below w.heap.size w w' := by
  go_enter Try.func57, Try.ntmps57
  go_wp2_with fail
  go_ret
  exact ⟨rfl, Below.refl _ _⟩
theorem composing_3 (w : World) : Calls Try.prog 57 #[.int .u8 3] w fun e w' => e = .returned (.int .u8 6) ∧ Below w.heap.size w w' := by
  go_enter Try.func57, Try.ntmps57
  go_wp2_with fail
  go_ret
  exact ⟨rfl, Below.refl _ _⟩
theorem composing_4 (w : World) : Calls Try.prog 57 #[.int .u8 4] w fun e w' => e = .returned (.int .u8 7) ∧ Below w.heap.size w w' := by
  go_enter Try.func57, Try.ntmps57
  go_wp2_with fail
  go_ret
  exact ⟨rfl, Below.refl _ _⟩
theorem composing_5 (w : World) : Calls Try.prog 57 #[.int .u8 5] w fun e w' => e = .returned (.int .u8 8) ∧ Below w.heap.size w w' := by
  go_enter Try.func57, Try.ntmps57
  go_wp2_with fail
  go_ret
  exact ⟨rfl, Below.refl _ _⟩
theorem composing_6 (w : World) : Calls Try.prog 57 #[.int .u8 6] w fun e w' => e = .returned (.int .u8 9) ∧ Below w.heap.size w w' := by
  go_enter Try.func57, Try.ntmps57
  go_wp2_with fail
  go_ret
  exact ⟨rfl, Below.refl _ _⟩
theorem composing_any (c : Nat) (hc : c ≤ 6) (w : World) : Calls Try.prog 57 #[.int .u8 c] w fun e w' => e = .returned (.int .u8 (doOf c)) ∧ Below w.heap.size w w' :=
  match c, hc with
  | 0, _ => composing_0 w
  | 1, _ => composing_1 w
  | 2, _ => composing_2 w
  | 3, _ => composing_3 w
  | 4, _ => composing_4 w
  | 5, _ => composing_5 w
  | 6, _ => composing_6 w
theorem doOf_le (c : Nat) : doOf c ≤ 9 := by unfold doOf; split <;> first | omega | (split <;> first | omega | (split <;> first | omega | (split <;> first | omega | (split <;> omega))))
theorem doOf_data {c : Nat} (h : c ≠ 1) : doOf c ≠ 2 := by unfold doOf; rw [if_neg h]; split <;> first | omega | (split <;> first | omega | (split <;> first | omega | (split <;> omega)))
/-- What composing a term is to leave. -/
def CompPost (was : List (List UInt8)) (U : Tm → Prop) (p : Nat) (E : List Ent) (S : List Shut) (F : Nat → Prop) (T : Tm) (w : World) : Ending → World → Prop := fun e w' =>
  ∃ b E', e = .returned (.bool b) ∧ Mk w' F p E' S ∧ Comp was U E [T] b E' ∧ Turn F w w'
variable {was : List (List UInt8)} {U : Tm → Prop}
theorem comp_post_in {p : Nat} {E : List Ent} {S : List Shut} {F : Nat → Prop} {T : Tm} {w w' : World} (hq : Mk w F p E S) (hg : Good was U E) (hin : T.enc ∈ keysE E) (hb : Below w.heap.size w w') : CompPost was U p E S F T w (.returned (.bool true)) w' :=
  ⟨true, E, rfl, hq.kept hb, comp_in hg hin, turn_below hb⟩
/-- One term more is put into the map of what is made, its step out of a cell that the maker does not hold. -/
theorem comp_put {F : Nat → Prop} {p b f : Nat} {tx s : ByteArray} {t : List UInt8} {E : List Ent} {S : List Shut} {L : List ByteArray} {ao : Option Addr} {cap : Nat} {W : World} (hM : Mk W F p E S) (hb : W.heap[b]? = some (.cells #[.int .u8 f, .int .i64 0, .int .i64 0, .int .i64 0, .int .i64 0, .string tx, .slice none 0 0] 46 (0, 0))) (hF : ¬ F b)
    (hR : RowOut F W ao L) (hfit : (stp0 f 0 tx).Fit) (hkey : keyOf Try.prog 9 (.string s) = some (.string t)) (hn : t ∉ keysE E) (hl : E.length ≤ 1000000) :
    ∃ mm w4, (Instr.mapUpdate 56 (.map (some mm)) (.string s) (orgV f 0 tx ao L.length cap)).run Try.prog W.drew = .ok () w4 ∧
      (W.cell? ⟨p, 0, none⟩ = some (.map (some mm)) ∧ W.cell? ⟨b, 0, none⟩ = some (.int .u8 f) ∧ W.cell? ⟨b, 1, none⟩ = some (.int .i64 0) ∧ W.cell? ⟨b, 2, none⟩ = some (.int .i64 0) ∧ W.cell? ⟨b, 3, none⟩ = some (.int .i64 0) ∧ W.cell? ⟨b, 4, none⟩ = some (.int .i64 0) ∧ W.cell? ⟨b, 5, none⟩ = some (.string tx) ∧ W.cell? ⟨b, 6, none⟩ = some (.slice none 0 0)) ∧
      (w4.cell? ⟨p, 0, none⟩ = some (.map (some mm)) ∧ w4.cell? ⟨b, 0, none⟩ = some (.int .u8 f) ∧ w4.cell? ⟨b, 1, none⟩ = some (.int .i64 0) ∧ w4.cell? ⟨b, 2, none⟩ = some (.int .i64 0) ∧ w4.cell? ⟨b, 3, none⟩ = some (.int .i64 0) ∧ w4.cell? ⟨b, 4, none⟩ = some (.int .i64 0) ∧ w4.cell? ⟨b, 5, none⟩ = some (.string tx) ∧ w4.cell? ⟨b, 6, none⟩ = some (.slice none 0 0)) ∧
      Mk w4 F p (E ++ [⟨t, stp0 f 0 tx, L.map bl⟩]) S ∧ Turn F W w4 := by
  obtain ⟨mm, ma, sv, V, hA⟩ := hM
  have hD := drew11 W
  have hA3 := hA.kept hD
  obtain ⟨w4, run4, hm4, ht4⟩ := hA3.made.store (by rw [prs_len hA.len]; omega) keyed10 Try.underlying56 (.string s) (orgV f 0 tx ao L.length cap) (.string t) hkey trivial (fun k => hn ((prs_key hA.len _).1 k))
  have hA4 := hA3.made_ (e := ⟨t, stp0 f 0 tx, L.map bl⟩) (v := orgV f 0 tx ao L.length cap) ⟨f, 0, tx, ao, cap, L, rfl, hfit, rfl, rfl, hR.turn (F' := F) (turn_below hD) (fun _ hb => .inl hb)⟩ hm4 ht4
  have hmb : mm ≠ b := fun e => hF (e ▸ hA.fm)
  have hlt : b < W.heap.size := (Array.getElem?_eq_some_iff.1 hb).1
  have hb4 : w4.heap[b]? = some (.cells #[.int .u8 f, .int .i64 0, .int .i64 0, .int .i64 0, .int .i64 0, .string tx, .slice none 0 0] 46 (0, 0)) := (ht4.grown.block b hlt (fun e => hmb (Option.some.inj e).symm)).trans hb
  exact ⟨mm, w4, run4, ⟨cell_of_row _ _ _ _ _ _ hA.cells, cell_of_row _ _ _ _ _ _ hb, cell_of_row _ _ _ _ _ _ hb, cell_of_row _ _ _ _ _ _ hb, cell_of_row _ _ _ _ _ _ hb, cell_of_row _ _ _ _ _ _ hb, cell_of_row _ _ _ _ _ _ hb, cell_of_row _ _ _ _ _ _ hb⟩,
    ⟨cell_of_row _ _ _ _ _ _ hA4.cells, cell_of_row _ _ _ _ _ _ hb4, cell_of_row _ _ _ _ _ _ hb4, cell_of_row _ _ _ _ _ _ hb4, cell_of_row _ _ _ _ _ _ hb4, cell_of_row _ _ _ _ _ _ hb4, cell_of_row _ _ _ _ _ _ hb4, cell_of_row _ _ _ _ _ _ hb4⟩,
    ⟨mm, ma, sv, _, hA4⟩, turn_trans (turn_below hD) (turned_turn ht4 hA.fm) (fun _ hb => .inl hb)⟩
set_option maxHeartbeats 8000000 in
set_option maxRecDepth 100000 in
theorem comp11_at (hU : ∀ h l, U (.node h l) → ∀ t ∈ l, U t) (hfin : ∀ E, Good was U E → E.length ≤ 1000000) : ∀ (d : Nat) (T : Tm), T.valid → T.deep ≤ d → U T → ∀ (s : ByteArray), bl s = T.enc → ∀ (p : Nat) (E : List Ent) (S : List Shut) (F : Nat → Prop) (w : World), Mk w F p E S → Good was U E →
    Calls Try.prog 32 #[ptr11 p, .string s] w (CompPost was U p E S F T w) := by
  intro d
  induction d with
  | zero =>
    rintro ⟨h, l⟩ _ hd
    simp [Tm.deep] at hd
  | succ d ih =>
    rintro ⟨h, l⟩ hv hd hu s hs p E S F w hq hg
    have hdp : ∀ t ∈ l, t.deep ≤ d := fun t ht => by
      have := deeps_mem ht
      simp only [Tm.deep] at hd
      omega
    have hsz := valid_size hv hs
    have hkey := key10 s (by omega)
    rw [hs] at hkey
    obtain ⟨mm, ma, sv, V, hA⟩ := hq
    have cp : w.cell? ⟨p, 0, none⟩ = some (.map (some mm)) := cell_of_row _ _ _ _ _ _ hA.cells
    by_cases hE : (Tm.node h l).enc ∈ keysE E
    · have HP := Lib.hid (fun w' hb => comp_post_in (w' := w') ⟨mm, ma, sv, V, hA⟩ hg hE hb)
      obtain ⟨e0, he0, hee⟩ := List.mem_map.1 hE
      obtain ⟨k0, hk0, rfl⟩ := List.getElem_of_mem he0
      obtain ⟨f1, n1, tx1, ao1, cap1, L1, _, _, hv1, _, _⟩ := hA.org k0 hk0
      have hpr := prs_at hA.len hk0
      rw [hv1, hee] at hpr
      have HLK := Lib.hid (fun V2 (hb : Below w.heap.size w V2) => ((hA.made.below hb).look keyed10 Try.underlying56 (zero_org V2) hkey hpr).2)
      generalize L1.length = q1 at *
      clear ih hv hd hu hs hg hdp hsz hkey hA hE he0 hee hv1 hpr
      go_enter Try.func32, Try.ntmps32
      go_wp2_with (first | (at_lookup; refine wpList_lookV rfl _ _ 56 true rfl _ _ _ rfl rfl (HLK.out _ (Below.refl _ _)) ?_) | fail)
      go_ret
      exact HP.out _ ((Below.refl _ _).alloc (by simp) _)
    · have HLK := Lib.hid (fun V2 (hb : Below w.heap.size w V2) => ((hA.made.below hb).miss keyed10 Try.underlying56 (zero_org V2) hkey (fun k => hE ((prs_key hA.len _).1 k))).2)
      obtain ⟨c, hk, hkd⟩ := kd_node10 hv
      obtain ⟨k1, k2, k3, k6⟩ := kd_first10 hk
      have hc6 := (kd_le10 hk).2
      have HK := Lib.hid (fun V => tkind_any s (by omega) V)
      rw [hs, hkd] at HK
      have HCO := Lib.hid (fun V => composing_any c hc6 V)
      have HP := Lib.hid (fun V => parts6_any s (by omega) V)
      rw [hs, parts_node10 hv] at HP
      obtain ⟨W1, hW1⟩ : ∃ V2, V2 = w.alloc (.cells #[.int .u8 0, .int .i64 0, .int .i64 0, .int .i64 0, .int .i64 0, .string ⟨#[]⟩, .slice none 0 0, .slice none 0 0] 96) := ⟨_, rfl⟩
      have B1 : Hid (Below w.heap.size w W1) := Lib.hid (by rw [hW1]; exact (Below.refl _ _).alloc (Nat.le_refl _) _)
      have HW1 := Lib.hid hW1
      have HA := Lib.hid hA
      have GOOD0 := Lib.hid hg
      by_cases c2 : c = 2
      · subst c2
        have HCM := Lib.hid (comp_atom hg (k2.1 rfl) hE)
        clear ih hv hd hu hs hg hdp hsz hkey hA hE hk hkd k1 k2 k3 k6 hc6 hW1
        go_enter Try.func32, Try.ntmps32
        go_wp2_with (first | (at_lookup; refine wpList_lookV rfl _ _ 56 true rfl _ _ _ rfl rfl (HLK.out _ (Below.refl _ _)) ?_) | fail)
        rw [← HW1.out]
        refine (HK.out _).mono ?_; rintro e w2 ⟨rfl, b2⟩
        have B2 := Lib.hid (below_step B1.out b2)
        clear b2
        go_wp2_with fail
        refine (HCO.out _).mono ?_; rintro e w3 ⟨rfl, b3⟩
        have B3 := Lib.hid (below_step B2.out b3)
        clear b3
        rw [show ((doOf 2 : Nat) : Int) = 0 from rfl]
        go_wp2_with fail
        go_ret
        exact ⟨false, E, rfl, ⟨mm, ma, sv, V, HA.out.kept B3.out⟩, HCM.out, turn_below B3.out⟩
      · obtain ⟨tx0, htx, hdo, hmk⟩ := makes_node (was := was) hv hk c2
        obtain ⟨dc, hdc⟩ : ∃ n, n = doOf c := ⟨_, rfl⟩
        rw [← hdc] at hdo hmk HCO
        have q0 : ((dc : Int) == 0) = false := by rw [beq_eq_false_iff_ne]; omega
        have HNX : Hid (∀ k, (hk : k < l.length) → ∀ E' b E2, Comp was U E (l.take k) true E' → Comp was U E' [l[k]] b E2 → Comp was U E (l.take (k + 1)) b E2) := Lib.hid (fun k hk E' b E2 q r => by rw [List.take_succ_eq_append_getElem hk]; exact comp_next q r)
        have HBAD : Hid (∀ k E2, Comp was U E (l.take k) false E2 → Comp was U E [.node h l] false E2) := Lib.hid (fun k E2 q => comp_bad hv hE (fun t ht => List.mem_of_mem_take ht) q)
        have HCALL : Hid (∀ k, (hk : k < l.length) → ∀ E' W, Mk W F p E' S → Good was U E' → Calls Try.prog 32 #[ptr11 p, .string (tx l[k])] W (CompPost was U p E' S F l[k] W)) := Lib.hid (fun k hk2 E' W hM hG => by
          have hmem := List.getElem_mem hk2
          exact ih l[k] (node_valid_parts hv _ hmem) (hdp _ hmem) (hU h l hu _ hmem) (tx l[k]) rfl p E' S F W hM hG)
        have HFR : Hid (∀ E1, Comp was U E l true E1 → (Tm.node h l).enc ∉ keysE E1) := Lib.hid (fun E1 q => comp_fresh hv hE q)
        have HMADE : Hid (∀ E1, Comp was U E l true E1 → Good was U (E1 ++ [⟨(Tm.node h l).enc, stp0 dc 0 ⟨tx0.toArray⟩, l.map Tm.enc⟩]) ∧ Comp was U E [.node h l] true (E1 ++ [⟨(Tm.node h l).enc, stp0 dc 0 ⟨tx0.toArray⟩, l.map Tm.enc⟩])) := Lib.hid (fun E1 q => by
          have hgo := good_add q.good (e := ⟨(Tm.node h l).enc, stp0 dc 0 ⟨tx0.toArray⟩, l.map Tm.enc⟩) (comp_fresh hv hE q) hmk (fun x hx => by
            obtain ⟨t, ht, rfl⟩ := List.mem_map.1 hx
            exact q.yes rfl t ht) hv hu rfl
          exact ⟨hgo, comp_made hv hE (fun e => c2 (k2.2 e)) q rfl hgo⟩)
        obtain ⟨z, hz⟩ : ∃ z, z = l.length := ⟨_, rfl⟩
        have HZ := Lib.hid hz
        have HZS : Hid (z ≤ 100) := Lib.hid (by have := (kd_le10 hk).1; omega)
        have HTX : Hid (c = 1 ∧ textP (bl s) = (tx0, true) ∨ dc ≠ 2 ∧ tx0 = []) := Lib.hid (by
          rcases htx with ⟨h1, h2, h3, h4⟩ | ⟨h1, h2⟩
          · exact .inl ⟨h1, by rw [hs]; exact text_node11 hv h2 h3⟩
          · exact .inr ⟨by rw [hdc]; exact doOf_data h1, h2⟩)
        have HTL : Hid (tx0.length ≤ 1024 ∧ (c = 1 → dc = 2) ∧ dc ≤ 9) := Lib.hid ⟨by rcases htx with ⟨h1, h2, h3, h4⟩ | ⟨h1, h2⟩; exact h3; rw [h2]; exact Nat.zero_le _, fun e => by rw [hdc, e]; rfl, by rw [hdc]; exact doOf_le c⟩
        have HT6 := Lib.hid (fun V => text11_any s (by omega) V)
        have HKEY := Lib.hid hkey
        have HFIN := Lib.hid hfin
        clear ih hv hd hu hs hg hdp hsz hkey hA hE hk hkd k1 k2 k3 k6 hc6 hW1 htx hmk hdc hz
        go_enter Try.func32, Try.ntmps32
        go_wp2_with (first | (at_lookup; refine wpList_lookV rfl _ _ 56 true rfl _ _ _ rfl rfl (HLK.out _ (Below.refl _ _)) ?_) | fail)
        rw [← HW1.out]
        refine (HK.out _).mono ?_; rintro e w2 ⟨rfl, b2⟩
        have B2 := Lib.hid (below_step B1.out b2)
        clear b2
        go_wp2_with fail
        refine (HCO.out _).mono ?_; rintro e w3 ⟨rfl, b3⟩
        have B3 := Lib.hid (below_step B2.out b3)
        clear b3 B2 HLK HCO HK
        go_wp2_with fail
        refine (HP.out _).mono ?_; rintro e w5 ⟨pv, P, rfl, ho, hP, b5⟩
        have B5 := Lib.hid (below_step B3.out b5)
        obtain rfl : P = l.map tx := (List.map_inj_right (fun _ _ e => bl_inj e)).1 (by rw [hP, List.map_map]; rfl)
        have hPl : (l.map tx).length = z := by rw [List.length_map]; exact HZ.out.symm
        obtain ⟨po, pcap, rfl, hrw⟩ := rowOut_own (F := F) ho (fun b hb => Nat.lt_of_lt_of_le (HA.out.foot b hb) B3.out.size)
        rw [hPl]
        have R5 := Lib.hid hrw
        have M5 : Hid (Mk w5 F p E S) := Lib.hid ⟨mm, ma, sv, V, HA.out.kept B5.out⟩
        have T5 : Hid (Turn F w w5) := Lib.hid (turn_below B5.out)
        have C5 : Hid (Comp was U E (l.take 0) true E) := Lib.hid (comp_nil GOOD0.out)
        clear hP ho b5 hrw B3 B5 HP
        go_wp2_with fail
        go_loopw [35] (fun iv wr => ∃ (k : Nat) (E' : List Ent), iv = .int .i64 k ∧ k ≤ z ∧ Hid (Mk wr F p E' S) ∧ Hid (Comp was U E (l.take k) true E') ∧ Hid (Turn F w wr) ∧ Hid (RowOut F wr po (l.map tx))) (fun iv _ => z - (intOf iv).toNat)
        case atStart => exact ⟨0, E, rfl, Nat.zero_le _, M5, C5, T5, R5⟩
        case round =>
          clear M5 C5 T5 R5
          obtain ⟨k, E', rfl, hkz, hM, hC, hTu, hR⟩ := hrel
          have hz100 := HZS.out
          by_cases hk : k < z
          · have hk' : (k : Int) < (z : Int) := by omega
            have hkl : k < l.length := by rw [← HZ.out]; exact hk
            have HCK := Lib.hid (HCALL.out k hkl E' wr hM.out hC.out.good)
            have HN2 := Lib.hid (fun b E2 q => HNX.out k hkl E' b E2 hC.out q)
            have hR' := hR.out
            rcases hR' with e | ⟨g, off, rfl, hlt, hng, hc⟩
            · exfalso
              have := congrArg List.length e
              rw [hPl] at this
              simp at this
              omega
            have ck := hc k (by rw [hPl]; exact hk)
            have eg : (l.map tx).getD k ByteArray.empty = tx l[k] := by simp [List.getD_eq_getElem?_getD, hkl]
            rw [eg] at ck
            generalize tx l[k] = y at *
            generalize l[k] = lk at *
            clear hc hlt hng eg hkl
            go_wp2_with fail
            refine HCK.out.mono ?_; rintro e w7 ⟨b, E2, rfl, m2, t2, u2⟩
            have U7 := Lib.hid (turn_trans hTu.out u2 (fun _ hb => .inl hb))
            have R7 := Lib.hid (hR.out.turn (F' := F) u2 (fun _ hb => .inl hb))
            have M7 := Lib.hid m2
            cases b
            · have C7 := Lib.hid (HBAD.out _ _ (HN2.out _ _ t2))
              clear m2 t2 u2 ck
              go_wp2_with fail
              go_ret
              exact ⟨false, E2, rfl, M7.out, C7.out, U7.out⟩
            · have C7 := Lib.hid (HN2.out _ _ t2)
              clear m2 t2 u2 ck
              go_wp2_with fail
              go_roundw
              case rel => exact ⟨k + 1, E2, by go_num, by omega, M7, C7, U7, R7⟩
              case measure => simp [intOf]; omega
          · obtain rfl : k = z := by omega
            have hCl := hC.out
            rw [List.take_of_length_le (by rw [HZ.out]; exact Nat.le_refl _)] at hCl
            clear hk hkz
            obtain ⟨W7, hW7⟩ : ∃ V2, V2 = wr.alloc (.cells #[.int .u8 dc, .int .i64 0, .int .i64 0, .int .i64 0, .int .i64 0, .string ⟨#[]⟩, .slice none 0 0] 46) := ⟨_, rfl⟩
            have B7 : Hid (Below wr.heap.size wr W7) := Lib.hid (by rw [hW7]; exact (Below.refl _ _).alloc (Nat.le_refl _) _)
            have hb7 : W7.heap[wr.heap.size]? = some (.cells #[.int .u8 dc, .int .i64 0, .int .i64 0, .int .i64 0, .int .i64 0, .string ⟨#[]⟩, .slice none 0 0] 46 (0, 0)) := by rw [hW7]; exact Go.heap_alloc_new wr _
            have hn7 : ¬ F wr.heap.size := fun e => by
              obtain ⟨_, _, _, _, hx⟩ := hM.out
              exact absurd (hx.foot _ e) (Nat.lt_irrefl _)
            have HW7 := Lib.hid hW7
            have HMD := Lib.hid (HMADE.out E' hCl)
            have HFRE := Lib.hid (HFR.out E' hCl)
            have HLN : Hid (E'.length ≤ 1000000) := Lib.hid (HFIN.out E' hCl.good)
            clear hW7 hCl
            rcases HTX.out with ⟨rfl, htx⟩ | ⟨hd2, rfl⟩
            · obtain rfl := HTL.out.2.1 rfl
              have htl := HTL.out.1
              have HB7 := Lib.hid hb7
              have HW7 : Hid (W7 = wr.alloc (.cells #[.int .u8 2, .int .i64 0, .int .i64 0, .int .i64 0, .int .i64 0, .string ⟨#[]⟩, .slice none 0 0] 46)) := Lib.hid HW7.out
              clear hb7
              go_wp2_with fail
              rw [← HW7.out]
              refine (HT6.out _).mono ?_; rintro e w8 ⟨rfl, b8⟩
              rw [htx]
              have hlt7 : wr.heap.size < W7.heap.size := (Array.getElem?_eq_some_iff.1 HB7.out).1
              have hb8 := (b8.block wr.heap.size hlt7).trans HB7.out
              have c85 : w8.cell? ⟨wr.heap.size, 5, none⟩ = some (.string ⟨#[]⟩) := cell_of_row _ _ _ _ _ _ hb8
              have f85 : w8.frozen? ⟨wr.heap.size, 5, none⟩ = false := frozen_row11 hb8
              obtain ⟨W9, hW9⟩ : ∃ V2, V2 = w8.setCell ⟨wr.heap.size, 5, none⟩ (.string ⟨tx0.toArray⟩) := ⟨_, rfl⟩
              have B9 : Hid (Below wr.heap.size wr W9) := Lib.hid (by rw [hW9]; exact (below_step B7.out b8).setCell (p := ⟨wr.heap.size, 5, none⟩) (Nat.le_refl _) _)
              have hb9 : W9.heap[wr.heap.size]? = some (.cells #[.int .u8 2, .int .i64 0, .int .i64 0, .int .i64 0, .int .i64 0, .string ⟨tx0.toArray⟩, .slice none 0 0] 46 (0, 0)) := by
                have := heap_setCell_same w8 wr.heap.size 5 _ _ (.string ⟨tx0.toArray⟩) hb8
                rw [hW9]
                simpa using this
              obtain ⟨m8, w9, run8, KS, KA, m9, t9⟩ := comp_put (f := 2) (ao := po) (cap := pcap) (hM.out.kept B9.out) hb9 hn7 (hR.out.turn (F' := F) (turn_below B9.out) (fun _ hb => .inl hb)) (fitx (tx := ⟨tx0.toArray⟩) (by decide) (by show tx0.toArray.size ≤ _; rw [List.size_toArray]; omega)) HKEY.out HFRE.out HLN.out
              rw [hPl] at run8
              have M9 : Hid (Mk w9 F p (E' ++ [⟨(Tm.node h l).enc, stp0 2 0 ⟨tx0.toArray⟩, l.map Tm.enc⟩]) S) := Lib.hid (by rw [List.map_map] at m9; exact m9)
              have T9 := Lib.hid (turn_trans (turn_trans hTu.out (turn_below B9.out) (fun _ hb => .inl hb)) t9 (fun _ hb => .inl hb))
              rw [hW9] at KS run8
              have two : ((2 : Nat) : Int) = (2 : Int) := rfl
              try rw [two] at KS
              try rw [two] at KA
              unfold orgV at run8
              rw [two] at run8
              clear two
              dsimp only
              clear m9 t9 hb9 hb8 htx hlt7 hW9 b8
              go_wp2_with fail
              go_region_held3 (fun W => W.cell? ⟨p, 0, none⟩ = some (.map (some m8)) ∧ W.cell? ⟨wr.heap.size, 0, none⟩ = some (.int .u8 2) ∧ W.cell? ⟨wr.heap.size, 1, none⟩ = some (.int .i64 0) ∧ W.cell? ⟨wr.heap.size, 2, none⟩ = some (.int .i64 0) ∧ W.cell? ⟨wr.heap.size, 3, none⟩ = some (.int .i64 0) ∧ W.cell? ⟨wr.heap.size, 4, none⟩ = some (.int .i64 0) ∧ W.cell? ⟨wr.heap.size, 5, none⟩ = some (.string ⟨tx0.toArray⟩) ∧ W.cell? ⟨wr.heap.size, 6, none⟩ = some (.slice none 0 0)) (first | assumption | exact KA) (first | fail)
              clear KS KA run8
              go_wp2_with fail
              go_ret
              exact ⟨true, _, rfl, M9.out, HMD.out.2, T9.out⟩
            · have q2 : ((dc : Int) == 2) = false := by rw [beq_eq_false_iff_ne]; omega
              obtain ⟨m8, w8, run8, KS, KA, m9, t9⟩ := comp_put (f := dc) (ao := po) (cap := pcap) (hM.out.kept B7.out) hb7 hn7 (hR.out.turn (F' := F) (turn_below B7.out) (fun _ hb => .inl hb)) (fitx (tx := ⟨#[]⟩) (by have := HTL.out.2.2; omega) (by decide)) HKEY.out HFRE.out HLN.out
              rw [hPl] at run8
              have M9 : Hid (Mk w8 F p (E' ++ [⟨(Tm.node h l).enc, stp0 dc 0 ⟨#[]⟩, l.map Tm.enc⟩]) S) := Lib.hid (by rw [List.map_map] at m9; exact m9)
              have T9 := Lib.hid (turn_trans (turn_trans hTu.out (turn_below B7.out) (fun _ hb => .inl hb)) t9 (fun _ hb => .inl hb))
              rw [HW7.out] at KS run8
              clear m9 t9 hb7 hdo
              go_wp2_with fail
              go_region_held3 (fun W => W.cell? ⟨p, 0, none⟩ = some (.map (some m8)) ∧ W.cell? ⟨wr.heap.size, 0, none⟩ = some (.int .u8 dc) ∧ W.cell? ⟨wr.heap.size, 1, none⟩ = some (.int .i64 0) ∧ W.cell? ⟨wr.heap.size, 2, none⟩ = some (.int .i64 0) ∧ W.cell? ⟨wr.heap.size, 3, none⟩ = some (.int .i64 0) ∧ W.cell? ⟨wr.heap.size, 4, none⟩ = some (.int .i64 0) ∧ W.cell? ⟨wr.heap.size, 5, none⟩ = some (.string ⟨#[]⟩) ∧ W.cell? ⟨wr.heap.size, 6, none⟩ = some (.slice none 0 0)) (first | assumption | exact KA) (first | fail)
              clear KS KA run8
              go_wp2_with fail
              go_ret
              exact ⟨true, _, rfl, M9.out, HMD.out.2, T9.out⟩
end Go.Proofs.Ytpajcalfjfkogaa.Pl
