/- What term's Swap answers. -/
import Derived.Test.YtfghhhghhjbiaaaTermFold
import Derived.Test.YtfghhhghhjbiaaaTermBuild
import Derived.Test.YtfghhhghhjbiaaaTermJoin
import Derived.Test.YtfghhhghhjbiaaaTermPieces
namespace Go.Proofs.Ytfghhhghhjbiaaa.Pl
open Go.RowKit Go.Shelf
attribute [local go_sem] Oper.semAt_some

/-- Three texts in a row of their own. -/
theorem are3_any (s u v : ByteArray) (hs : s.size ≤ 281474976710656) (hu : u.size ≤ 281474976710656) (hv : v.size ≤ 281474976710656) (w : World) :
    Calls Try.prog 54 #[.slice (some ⟨w.heap.size, 0, none⟩) 3 3] (w.alloc (.cells #[.string s, .string u, .string v] 9)) fun e w' => e = .returned (.bool (checkP (bl s) == 0 && checkP (bl u) == 0 && checkP (bl v) == 0)) ∧ Below w.heap.size w w' :=
  (are_any [s, u, v] (some ⟨w.heap.size, 0, none⟩) 3 (by simp) (fun x hx => by simp at hx; rcases hx with rfl | rfl | rfl <;> assumption) _ (row3 w s u v) (checkP (bl s) == 0 && checkP (bl u) == 0 && checkP (bl v) == 0) (by simp [and_assoc])).mono (fun e w' h => ⟨h.1, below_step ((Below.refl _ _).alloc (Nat.le_refl _) _) h.2⟩)

/-- Swap's variables. -/
def SwB (B : Nat) (t f u : ByteArray) (BB : Nat) (r : ByteArray) (e : Nat) (d : Nat) (W : World) : Prop :=
  (Boxed W B 9 (.string t) ∧ Boxed W (B + 1) 9 (.string f) ∧ Boxed W (B + 1 + 1) 9 (.string u)) ∧ (Boxed W (B + 1 + 1 + 1) 9 (.string r) ∧ Boxed W (B + 1 + 1 + 1 + 1) 22 (.int .i64 e)) ∧ Boxed W (BB + 1) 3 (.int .i64 d)
theorem SwB.below {B : Nat} {t f u : ByteArray} {BB : Nat} {r : ByteArray} {e d : Nat} {W W' : World} (h : SwB B t f u BB r e d W) (b : Below W.heap.size W W') : SwB B t f u BB r e d W' :=
  ⟨⟨boxed_below h.1.1 b, boxed_below h.1.2.1 b, boxed_below h.1.2.2 b⟩, ⟨boxed_below h.2.1.1 b, boxed_below h.2.1.2 b⟩, boxed_below h.2.2 b⟩
theorem SwB.kept {B : Nat} {t f u : ByteArray} {BB : Nat} {r : ByteArray} {e d : Nat} {W W' : World} (h : SwB B t f u BB r e d W) (b : Lib.OthersKept 5 (some BB) W W') (hB : B + 1 + 1 + 1 + 1 + 1 ≤ BB) : SwB B t f u BB r e d W' :=
  ⟨⟨kept_boxed b h.1.1 (by omega) (by decide), kept_boxed b h.1.2.1 (by omega) (by decide), kept_boxed b h.1.2.2 (by omega) (by decide)⟩, ⟨kept_boxed b h.2.1.1 (by omega) (by decide), kept_boxed b h.2.1.2 (by omega) (by decide)⟩, kept_boxed b h.2.2 (by omega) (by decide)⟩
theorem SwB.done {B : Nat} {t f u : ByteArray} {BB : Nat} {r : ByteArray} {e d : Nat} {W : World} (h : SwB B t f u BB r e d W) (hB : B + 1 + 1 + 1 + 1 + 1 ≤ BB) (d' : Nat) : SwB B t f u BB r e d' (W.setCell ⟨BB + 1, 0, none⟩ (.int .i64 d')) :=
  ⟨⟨h.1.1.other (by omega) _, h.1.2.1.other (by omega) _, h.1.2.2.other (by omega) _⟩, ⟨h.2.1.1.other (by omega) _, h.2.1.2.other (by omega) _⟩, h.2.2.set _⟩
theorem SwB.gave {B : Nat} {t f u : ByteArray} {BB : Nat} {r : ByteArray} {e d : Nat} {W : World} (h : SwB B t f u BB r e d W) (hB : B + 1 + 1 + 1 + 1 + 1 ≤ BB) (r' : ByteArray) (e' : Nat) : SwB B t f u BB r' e' d ((W.setCell ⟨B + 1 + 1 + 1, 0, none⟩ (.string r')).setCell ⟨B + 1 + 1 + 1 + 1, 0, none⟩ (.int .i64 e')) :=
  ⟨⟨(h.1.1.other (by omega) _).other (by omega) _, (h.1.2.1.other (by omega) _).other (by omega) _, (h.1.2.2.other (by omega) _).other (by omega) _⟩, ⟨(h.2.1.1.set _).other (by omega) _, (h.2.1.2.other (by omega) _).set _⟩, (h.2.2.other (by omega) _).other (by omega) _⟩
theorem swB_own {β : Type} (B : Nat) (t f u : ByteArray) (BB : Nat) (r : ByteArray) (e : Nat) (d : β → Nat) : Own (fun s W => SwB B t f u BB r e (d s) W) := by
  intro s X Y row h hg hr
  have k : ∀ {b : Nat} {ty : TypeId} {v : Value}, Boxed X b ty v → Boxed Y b ty v := fun hb => boxed_own _ _ (fun (_ : Unit) => _) () X Y row hb hg hr
  exact ⟨⟨k h.1.1, k h.1.2.1, k h.1.2.2⟩, ⟨k h.2.1.1, k h.2.1.2⟩, k h.2.2⟩

/-- What Swap holds while it goes over the places. -/
def SwI (w : World) (t f u : ByteArray) (BB : Nat) (pre : List Pl6) (W : World) : Prop :=
  SwB w.heap.size t f u BB (⟨#[]⟩ : ByteArray) 0 (swS f t u pre).2 W ∧ Lib.IsBuilder 74 5 BB BB (Lib.byteCells (swS f t u pre).1) W ∧ Below w.heap.size w W ∧ (swS f t u pre).1.length ≤ 16384
def SwX (w : World) (t f u : ByteArray) (BB : Nat) : Code → List Pl6 → World → Prop
  | .ret => fun pre W => SwB w.heap.size t f u BB (⟨#[]⟩ : ByteArray) 5 (swS f t u pre).2 W ∧ Below w.heap.size w W ∧ 16384 < (swS f t u pre).1.length
  | _ => fun _ _ => False
theorem swI_own (w : World) (t f u : ByteArray) (BB : Nat) (B : Nat) (h : w.heap.size ≤ B) : OwnFrom B (SwI w t f u BB) :=
  OwnFrom.and (Own.from (swB_own _ _ _ _ _ _ _ _) _) (OwnFrom.and (Own.from (builder_own _ _ _ _ _) _) (OwnFrom.and (ownFrom_below (Nat.le_refl _) h) (ownFrom_pure _ _)))
theorem swX_own (w : World) (t f u : ByteArray) (BB : Nat) (B : Nat) (h : w.heap.size ≤ B) (c : Code) : OwnFrom B (SwX w t f u BB c) := by
  cases c with
  | ret => exact OwnFrom.and (Own.from (swB_own _ _ _ _ _ _ _ _) _) (OwnFrom.and (ownFrom_below (Nat.le_refl _) h) (ownFrom_pure _ _))
  | _ => exact fun _ _ _ _ hs _ _ => hs.elim
theorem swap_results (B : Nat) (V : World) (r : ByteArray) (e : Nat) (tmps : Array Value) (h6 : tmps.getD 6 undef = .pointer (some ⟨B + 1 + 1 + 1, 0, none⟩)) (h7 : tmps.getD 7 undef = .pointer (some ⟨B + 1 + 1 + 1 + 1, 0, none⟩))
    (b1 : Boxed V (B + 1 + 1 + 1) 9 (.string r)) (b2 : Boxed V (B + 1 + 1 + 1 + 1) 22 (.int .i64 e)) :
    (results Try.f42 tmps).run Try.prog V = .ok (.tuple #[.string r, .int .i64 e]) V := by
  have c1 := b1.cell
  have c2 := b2.cell
  have h6' : tmps[6]?.getD undef = .pointer (some ⟨B + 1 + 1 + 1, 0, none⟩) := by simpa using h6
  have h7' : tmps[7]?.getD undef = .pointer (some ⟨B + 1 + 1 + 1 + 1, 0, none⟩) := by simpa using h7
  simp [results, Try.results42, go_sem, h6', h7', c1, c2, asAddr]

set_option maxRecDepth 100000 in
set_option maxHeartbeats 4000000 in
theorem swap6_any (t f u : ByteArray) (ht : t.size ≤ 281474976710656) (hf : f.size ≤ 281474976710656) (hu : u.size ≤ 281474976710656) (w : World) :
    Calls Try.prog 42 #[.string t, .string f, .string u] w fun e w' => e = .returned (st2 (swapP (bl t) (bl f) (bl u))) ∧ Below w.heap.size w w' := by
  obtain ⟨W1, hW1⟩ : ∃ W1, ((((w.alloc (.cells #[.string t] 9)).alloc (.cells #[.string f] 9)).alloc (.cells #[.string u] 9)).alloc (.cells #[.string (⟨#[]⟩ : ByteArray)] 9)).alloc (.cells #[.int .i64 0] 22) = W1 := ⟨_, rfl⟩
  have hsz : W1.heap.size = w.heap.size + 1 + 1 + 1 + 1 + 1 := by rw [← hW1]; simp
  have HA := are3_any t f u ht hf hu W1
  rw [hsz] at HA
  have HA := Lib.hid HA
  have hB1 : Below w.heap.size w W1 := by rw [← hW1]; exact (((((Below.refl _ w).alloc (Nat.le_refl _) _).alloc (by simp) _).alloc (by simp; omega) _).alloc (by simp; omega) _).alloc (by simp; omega) _
  have bT : Boxed W1 w.heap.size 9 (.string t) := by rw [← hW1]; exact ((((Boxed.new w _ _).alloc _).alloc _).alloc _).alloc _
  have bF : Boxed W1 (w.heap.size + 1) 9 (.string f) := by rw [← hW1]; have h := (((Boxed.new (w.alloc (.cells #[.string t] 9)) 9 (.string f)).alloc (.cells #[.string u] 9)).alloc (.cells #[.string (⟨#[]⟩ : ByteArray)] 9)).alloc (.cells #[.int .i64 0] 22); simpa using h
  have bU : Boxed W1 (w.heap.size + 1 + 1) 9 (.string u) := by rw [← hW1]; have h := ((Boxed.new ((w.alloc (.cells #[.string t] 9)).alloc (.cells #[.string f] 9)) 9 (.string u)).alloc (.cells #[.string (⟨#[]⟩ : ByteArray)] 9)).alloc (.cells #[.int .i64 0] 22); simpa using h
  have bR : Boxed W1 (w.heap.size + 1 + 1 + 1) 9 (.string (⟨#[]⟩ : ByteArray)) := by rw [← hW1]; have h := (Boxed.new (((w.alloc (.cells #[.string t] 9)).alloc (.cells #[.string f] 9)).alloc (.cells #[.string u] 9)) 9 (.string (⟨#[]⟩ : ByteArray))).alloc (.cells #[.int .i64 0] 22); simpa using h
  have bE : Boxed W1 (w.heap.size + 1 + 1 + 1 + 1) 22 (.int .i64 0) := by rw [← hW1]; have h := Boxed.new ((((w.alloc (.cells #[.string t] 9)).alloc (.cells #[.string f] 9)).alloc (.cells #[.string u] 9)).alloc (.cells #[.string (⟨#[]⟩ : ByteArray)] 9)) 22 (.int .i64 0); simpa using h
  have HB := Lib.hid (And.intro hB1 (And.intro bT (And.intro bF (And.intro bU (And.intro bR bE)))))
  have cT := bT.cell
  have cF := bF.cell
  have cU := bU.cell
  clear hB1 bT bF bU bR bE
  refine (callsIn_wide (n := 5)).1 ?_
  by_cases hc : checkP (bl t) = 0 ∧ checkP (bl f) = 0 ∧ checkP (bl u) = 0
  · rw [may_yes hc.1, may_yes hc.2.1, may_yes hc.2.2, Bool.and_true, Bool.and_true] at HA
    obtain ⟨hv1, hv2, hv3⟩ := swS_whole hc.1 hc.2.1 hc.2.2
    have hz0 : (vis t).2.2 = 0 := by obtain ⟨T, _, _, _, h⟩ := vis_term hc.1; rw [h]
    have ht2 := check_len hc.1
    have hf2 := check_len hc.2.1
    have hu2 := check_len hc.2.2
    rw [bl_length] at ht2 hf2 hu2
    have HV1 := Lib.hid hv1
    have HV2 := Lib.hid hv2
    have HV3 := Lib.hid hv3
    have HZ := Lib.hid hz0
    clear hv1 hv2 hv3 hc hz0
    refine callsIn_of_wp_marks Try.func42 rfl trivial ?_ rfl
    simp only [Try.ntmps42, List.size_toArray, List.length_cons, List.length_nil, Nat.reduceAdd, Nat.reduceSub, Array.replicate_succ, Array.replicate_zero, List.push_toArray, List.append_toArray, List.nil_append, List.cons_append]
    gi_wp2_with (first | (refine ⟨trivial, ?_⟩; gi_at_call 54; refine (callsIn_wide.2 HA.out).mono ?_; rintro e w1 ⟨rfl, b1⟩; have bT1 : Boxed w1 w.heap.size 9 (.string t) := (b1.block _ (by omega)).trans HB.out.2.1; have cT1 := ((bT1.alloc (.cells #[.pointer none, .slice none 0 0] 74)).alloc (.cells #[.int .i64 0] 3)).cell) | (refine ⟨trivial, ?_⟩; gi_at_call 49; refine (callsIn_wide.2 (places_in t _)).mono ?_; rintro e w2 ⟨rfl, rfl⟩))
    obtain ⟨W0, hW0⟩ : ∃ W0, ((w1.alloc (.cells #[.pointer none, .slice none 0 0] 74)).alloc (.cells #[.int .i64 0] 3)).alloc (.cells #[.string t] 9) = W0 := ⟨_, rfl⟩
    have hb1 := b1.size
    have bP : Boxed W0 (w1.heap.size + 1 + 1) 9 (.string t) := by
      rw [← hW0]
      have h := Boxed.new ((w1.alloc (.cells #[.pointer none, .slice none 0 0] 74)).alloc (.cells #[.int .i64 0] 3)) 9 (.string t)
      simpa using h
    have hs1 : w1.heap.size + 1 + 1 < W0.heap.size := bP.lt
    have hI : SwI w t f u w1.heap.size [] W0 := by
      obtain ⟨hB1, bT, bF, bU, bR, bE⟩ := HB.out
      have k : ∀ {b : Nat} {ty : TypeId} {v : Value}, b < w.heap.size + 1 + 1 + 1 + 1 + 1 → Boxed W1 b ty v → Boxed W0 b ty v := fun hlt hb => by
        rw [← hW0]; exact Boxed.alloc (Boxed.alloc (Boxed.alloc (show Boxed w1 _ _ _ from (b1.block _ hlt).trans hb) _) _) _
      refine ⟨⟨⟨k (by omega) bT, k (by omega) bF, k (by omega) bU⟩, ⟨k (by omega) bR, k (by omega) bE⟩, ?_⟩, ?_, ?_, ?_⟩
      · rw [← hW0]
        have h := (Boxed.new (w1.alloc (.cells #[.pointer none, .slice none 0 0] 74)) 3 (.int .i64 0)).alloc (.cells #[.string t] 9)
        rw [World.size_alloc] at h
        exact h
      · have h := Lib.fresh_isBuilder 74 5 w1
        have own := builder_own (β := Unit) 74 5 w1.heap.size w1.heap.size (fun _ => [])
        have h2 := own () _ ((w1.alloc (.cells #[.pointer none, .slice none 0 0] 74)).alloc (.cells #[.int .i64 0] 3)) none h (World.grownBy_alloc _ _ none) (fun r e => by cases e)
        have h3 := own () _ (((w1.alloc (.cells #[.pointer none, .slice none 0 0] 74)).alloc (.cells #[.int .i64 0] 3)).alloc (.cells #[.string t] 9)) none h2 (World.grownBy_alloc _ _ none) (fun r e => by cases e)
        rw [← hW0]
        exact h3
      · rw [← hW0]
        exact (((hB1.trans (b1.mono (by omega))).alloc (by omega) _).alloc (by simp; omega) _).alloc (by simp; omega) _
      · exact Nat.zero_le _
    rw [hW0]
    have hw0 : w.heap.size ≤ W0.heap.size := by omega
    have hBB : w.heap.size + 1 + 1 + 1 + 1 + 1 ≤ w1.heap.size := by omega
    have hBB2 : w1.heap.size < W0.heap.size := by omega
    clear hW0 b1 bT1 cT1 hs1 hb1 cT cF cU HB hW1 hsz
    generalize w1.heap.size = BB at *
    refine wpIn_places t ht (BB + 1 + 1) bP rfl (SwI w t f u BB) (SwX w t f u BB) (swI_own w t f u BB _ hw0) (swX_own w t f u BB _ hw0) hI
      (PlAx w.heap.size (fun b x => { tmps := #[.string t, .string f, .string u, .pointer (some ⟨w.heap.size, 0, none⟩), .pointer (some ⟨w.heap.size + 1, 0, none⟩), .pointer (some ⟨w.heap.size + 1 + 1, 0, none⟩), .pointer (some ⟨w.heap.size + 1 + 1 + 1, 0, none⟩), .pointer (some ⟨w.heap.size + 1 + 1 + 1 + 1, 0, none⟩), .pointer (some ⟨BB, 0, none⟩), .pointer (some ⟨BB + 1, 0, none⟩), .pointer (some ⟨b, 0, none⟩), .string t, .string f, .string u, .slice (some ⟨w.heap.size + 1 + 1 + 1 + 1 + 1, 0, none⟩) 3 3, .bool true, .bool false, .string t, .func (.func 77) #[] #[.pointer (some ⟨BB + 1 + 1, 0, none⟩)], encPl x, undef, undef, undef, undef, undef, undef, undef, undef, undef, undef, undef, undef, undef, undef, undef, undef, undef, undef, undef, undef, undef, undef, undef, undef, undef, undef, undef, undef], defers := [] }))
      (plAx_own _ _ _) ?assign ?body ?done ?stop ?throw
    case assign =>
      intro m l pre x W K hi hK
      have hzr := Lib.hid hK
      clear hK
      unfold encPl cellsPl
      gi_wp2
      exact hzr.out _ _ ((KeepsOthers.alloc _ _).from _) (KeepP.alloc _ _) ((swI_own w t f u BB W0.heap.size hw0).alloc _ hi) ⟨W.heap.size, hi.2.2.1.size, World.alloc_heap_new _ _, rfl⟩
    case body =>
      rintro m l pre x a' W hl hi ⟨b, hb, hbx, rfl⟩ hpre
      obtain ⟨hx0, hx1, hx2, hx3⟩ := place_cells hbx
      have cF := hi.1.1.2.1.cell
      have cT := hi.1.1.1.cell
      have hok := (vis_any t x pre hpre).1
      rw [bl_length] at hok
      have HS := Lib.hid (fun V => stands_any f t x hok V)
      have HI := Lib.hid hi
      have HX := Lib.hid hbx
      have HSN : Hid (swS f t u (pre ++ [x]) = stepS f t (bl u) (swS f t u pre) x) := Lib.hid (swS_snoc f t u pre x)
      have HL := Lib.hid hi.2.2.2
      have HD := Lib.hid (HV3.out pre x hpre)
      cases hst : stB f t x with
      | false =>
        rw [hst] at HS
        have HE : Hid (swS f t u (pre ++ [x]) = swS f t u pre) := Lib.hid (HSN.out.trans (stepS_no hst))
        clear hi hbx hpre
        gi_wp2_with (refine ⟨trivial, hdd _, ?_⟩; gi_at_call 70; refine (callsIn_wide.2 (HS.out _)).mono ?_; rintro e w2 ⟨rfl, b2⟩)
        refine ⟨(keepsOthers_below b2).from _, KeepP.of_below b2, ?_⟩
        unfold SwI
        rw [HE.out]
        exact swI_own w t f u BB W0.heap.size hw0 pre W w2 none HI.out ⟨b2.os, b2.tape, b2.output, b2.size, fun k hk _ => b2.block k hk⟩ (fun r e => by cases e)
      | true =>
        rw [hst] at HS
        have HE : Hid (swS f t u (pre ++ [x]) = ((swS f t u pre).1 ++ ((bl t).take x.at_).drop (swS f t u pre).2 ++ bl u, x.at_ + f.size)) := Lib.hid (HSN.out.trans (stepS_yes hst))
        have hda := HD.out hst
        obtain ⟨sb, hbu, hbw, hln⟩ := HI.out
        obtain ⟨out, hout⟩ : ∃ out, out = (swS f t u pre).1 := ⟨_, rfl⟩
        obtain ⟨dn, hdn⟩ : ∃ dn, dn = (swS f t u pre).2 := ⟨_, rfl⟩
        rw [← hout] at hbu hln HE
        rw [← hdn] at sb hda HE
        have sl : ∀ V : World, (Instr.sliceAt 9 (.string t) (some (.int .i64 (dn : Int))) (some (.int .i64 (x.at_ : Int))) none).run Try.prog V = .ok (.string (t.extract dn x.at_)) V := fun V => tslice_mid t dn x.at_ hda hok V
        have hpx : bl (t.extract dn x.at_) = ((bl t).take x.at_).drop dn := bl_extract t dn x.at_
        have hps : (t.extract dn x.at_).size ≤ 16384 := by rw [size_bl, hpx, List.length_drop, List.length_take, bl_length]; omega
        rw [← hpx] at HE
        generalize t.extract dn x.at_ = pc at *
        obtain ⟨o2, ho2⟩ : ∃ o2, o2 = out ++ bl pc := ⟨_, rfl⟩
        obtain ⟨o3, ho3⟩ : ∃ o3, o3 = o2 ++ bl u := ⟨_, rfl⟩
        have hl2 : o2.length ≤ 100000 := by rw [ho2, List.length_append, bl_length]; omega
        have hl3 : o3.length ≤ 100000 := by rw [ho3, List.length_append, bl_length, ho2, List.length_append, bl_length]; omega
        rw [← ho2, ← ho3] at HE
        have HW1 := Lib.hid (fun V h hV => ho2 ▸ writeString6_any BB BB out pc V h (by omega) hV)
        have HW2 := Lib.hid (fun V h hV => ho3 ▸ writeString6_any BB BB o2 u V h (by omega) hV)
        have HSB := Lib.hid sb
        have HBU := Lib.hid hbu
        have HBW := Lib.hid hbw
        have cT := sb.1.1.cell
        have hd2 : (dn : Int) ≤ (t.size : Int) := by omega
        have hxf : (x.at_ : Int) ≤ 16384 := by omega
        have hxe : ((x.at_ + f.size : Nat) : Int) = (x.at_ : Int) + (f.size : Int) := by omega
        have HXE := Lib.hid hxe
        have hpc : (pc.size : Int) ≤ 16384 := by omega
        have hfc : (f.size : Int) ≤ 16384 := by omega
        clear hi hbx hpre hxe hout hdn hpx ho2 ho3 hps hln sb hbu hbw hda
        gi_wp2_with (refine ⟨trivial, hdd _, ?_⟩; gi_at_call 70; refine (callsIn_wide.2 (HS.out _)).mono ?_; rintro e w2 ⟨rfl, b2⟩; have s2 := HSB.out.below b2; have cT2 := s2.1.1.cell; have cD2 := s2.2.2.cell; have cX2 := (place_cells ((KeepP.of_below b2).2 b _ HX.out)).1; have u2 := builder_below HBU.out b2; have HS2 := Lib.hid (And.intro s2 u2); clear s2 u2)
        refine ⟨trivial, hdd _, ?_⟩
        gi_at_call 71
        refine (callsIn_wide.2 (HW1.out _ HS2.out.2 (Nat.le_of_lt (builder_lt HS2.out.2)))).mono ?_
        rintro e w3 ⟨rfl, u3, b3, k3⟩
        have s3 := HS2.out.1.kept k3 hBB
        have cU3 := s3.1.2.2.cell
        have p3 := kept_place k3 HS2.out.2 b3.size
        have q3 := kept_others k3 HS2.out.2 b3.size
        have HS3 := Lib.hid (And.intro s3 (And.intro u3 (And.intro b3 (And.intro p3 q3))))
        clear s3 u3 b3 p3 q3 k3 cT2 cD2 cX2
        gi_wp2
        refine ⟨trivial, hdd _, ?_⟩
        gi_at_call 71
        refine (callsIn_wide.2 (HW2.out _ HS3.out.2.1 (Nat.le_of_lt (builder_lt HS3.out.2.1)))).mono ?_
        rintro e w4 ⟨rfl, u4, b4, k4⟩
        have s4 := HS3.out.1.kept k4 hBB
        have p4 := kept_place k4 HS3.out.2.1 b4.size
        have q4 := kept_others k4 HS3.out.2.1 b4.size
        have cF4 := s4.1.2.1.cell
        have cX4 := (place_cells ((((KeepP.of_below b2).trans HS3.out.2.2.2.1).trans p4).2 b _ HX.out)).1
        have cD4 := s4.2.2.cell
        have fD4 := s4.2.2.frozen
        have HS4 := Lib.hid (And.intro s4 (And.intro u4 (And.intro b4 (And.intro p4 q4))))
        clear s4 u4 b4 p4 q4 k4 cU3
        gi_wp2
        obtain ⟨w5, hw5⟩ : ∃ w5, w4.setCell ⟨BB + 1, 0, none⟩ (.int .i64 ((x.at_ : Int) + (f.size : Int))) = w5 := ⟨_, rfl⟩
        rw [hw5]
        have s5 : SwB w.heap.size t f u BB (⟨#[]⟩ : ByteArray) 0 (x.at_ + f.size) w5 := by rw [← hw5, ← HXE.out]; exact HS4.out.1.done hBB _
        have u5 : Lib.IsBuilder 74 5 BB BB (Lib.byteCells o3) w5 := by rw [← hw5]; exact builder_set HS4.out.2.1 HS4.out.1.2.2 (by omega) (by decide) _
        have k5 : KeepsOthers W w5 := by rw [← hw5]; exact (((keepsOthers_below b2).trans HS3.out.2.2.2.2).trans HS4.out.2.2.2.2).trans (KeepsOthers.setCell _ _ _)
        have p5 : KeepP W w5 := by rw [← hw5]; exact (((KeepP.of_below b2).trans HS3.out.2.2.2.1).trans HS4.out.2.2.2.1).trans (KeepP.setBox HS4.out.1.2.2 (by decide) _)
        have b5 : Below w.heap.size w w5 := by
          rw [← hw5]
          exact ((((below_step HBW.out b2).trans (HS3.out.2.2.1.mono (by omega))).trans (HS4.out.2.2.1.mono (by omega)))).setCell (p := ⟨BB + 1, 0, none⟩) (by show w.heap.size ≤ BB + 1; omega) _
        have HLEN := Lib.hid (Try.Builder_Len BB BB _ _ u5)
        rw [Lib.byteCells_length] at HLEN
        have cR5 := s5.2.1.1.cell
        have fR5 := s5.2.1.1.frozen
        have cE5 := (s5.2.1.2.other (B' := w.heap.size + 1 + 1 + 1) (by omega) (.string ⟨#[]⟩)).cell
        have fE5 := (s5.2.1.2.other (B' := w.heap.size + 1 + 1 + 1) (by omega) (.string ⟨#[]⟩)).frozen
        have HS5 := Lib.hid (And.intro s5 (And.intro u5 (And.intro k5 (And.intro p5 b5))))
        clear s5 u5 k5 p5 b5 hw5 cF4 cX4 cD4 fD4
        refine ⟨trivial, hdd _, ?_⟩
        gi_at_call 72
        refine (callsIn_wide.2 HLEN.out).mono ?_
        rintro e w6 ⟨rfl, rfl⟩
        by_cases hbig : 16384 < o3.length
        · have hq : (16384 : Int) < (o3.length : Int) := by omega
          have HBIG := Lib.hid hbig
          clear hbig
          gi_wp2
          obtain ⟨s5, u5, k5, p5, b5⟩ := HS5.out
          have s6 := s5.gave hBB (⟨#[]⟩ : ByteArray) 5
          refine ⟨((k5.trans (KeepsOthers.setCell _ _ _)).trans (KeepsOthers.setCell _ _ _)).from _, (p5.trans (KeepP.setBox s5.2.1.1 (by decide) _)).trans (KeepP.setBox (s5.2.1.2.other (by omega) _) (by decide) _), ?_⟩
          refine ⟨?_, ?_, ?_⟩
          · rw [HE.out]; exact s6
          · exact (b5.setCell (p := ⟨w.heap.size + 1 + 1 + 1, 0, none⟩) (by show w.heap.size ≤ w.heap.size + 1 + 1 + 1; omega) _).setCell (p := ⟨w.heap.size + 1 + 1 + 1 + 1, 0, none⟩) (by show w.heap.size ≤ w.heap.size + 1 + 1 + 1 + 1; omega) _
          · rw [HE.out]; exact HBIG.out
        · have hq : ¬ (16384 : Int) < (o3.length : Int) := by omega
          have HBIG := Lib.hid hbig
          clear hbig
          gi_wp2
          obtain ⟨s5, u5, k5, p5, b5⟩ := HS5.out
          refine ⟨k5.from _, p5, ?_⟩
          unfold SwI
          rw [HE.out]
          exact ⟨s5, u5, b5, Nat.le_of_not_lt HBIG.out⟩
    case done =>
      rintro D W hD _ ⟨sb, hbu, hbw, hln⟩ hK
      obtain ⟨out, hout⟩ : ∃ out, out = (swS f t u (vis t).1).1 := ⟨_, rfl⟩
      obtain ⟨dn, hdn⟩ : ∃ dn, dn = (swS f t u (vis t).1).2 := ⟨_, rfl⟩
      have hv1 := HV1.out
      have hv2 := HV2.out
      rw [← hout, ← hdn] at hv2
      rw [← hdn] at hv1 sb
      rw [← hout] at hbu hln
      have sl : ∀ V : World, (Instr.sliceAt 9 (.string t) (some (.int .i64 (dn : Int))) none none).run Try.prog V = .ok (.string (t.extract dn t.size)) V := tslice_from t dn hv1
      have hpx : bl (t.extract dn t.size) = (bl t).drop dn := bl_from t dn
      have hps : (t.extract dn t.size).size ≤ 16384 := by rw [size_bl, hpx, List.length_drop, bl_length]; omega
      rw [← hpx] at hv2
      generalize t.extract dn t.size = pc at *
      obtain ⟨o2, ho2⟩ : ∃ o2, o2 = out ++ bl pc := ⟨_, rfl⟩
      have hl2 : o2.length ≤ 100000 := by rw [ho2, List.length_append, bl_length]; omega
      rw [← ho2] at hv2
      have HW1 := Lib.hid (fun V h hV => ho2 ▸ writeString6_any BB BB out pc V h (by omega) hV)
      have HVD := fun V => valid6_any ⟨o2.toArray⟩ (by rw [size_lit]; omega) V
      rw [bl_mk] at HVD
      obtain ⟨Z, hZ⟩ : ∃ Z, Z = (if checkP o2 = 0 then (o2, 0) else ([], 5) : List UInt8 × Nat) := ⟨_, rfl⟩
      rw [← hZ] at HVD hv2
      obtain ⟨z1, z2⟩ := Z
      clear hZ
      have HR := Lib.hid hv2
      unfold st2 at HVD
      have HVD := Lib.hid HVD
      have HSB := Lib.hid sb
      have HBU := Lib.hid hbu
      have HBW := Lib.hid hbw
      have HK := Lib.hid hK
      have cT := sb.1.1.cell
      have cD := sb.2.2.cell
      have hd2 : (dn : Int) ≤ (t.size : Int) := by omega
      clear hout hdn hpx ho2 hps hln sb hbu hbw hK hv1 hv2
      gi_wp2
      refine ⟨trivial, ?_⟩
      gi_at_call 71
      refine (callsIn_wide.2 (HW1.out _ HBU.out (Nat.le_of_lt (builder_lt HBU.out)))).mono ?_
      rintro e w3 ⟨rfl, u3, b3, k3⟩
      have HU3 := Lib.hid (And.intro u3 (And.intro b3 k3))
      have HST := Lib.hid (Try.Builder_String_any_k BB BB o2 w3 (Lib.IsBuilderF.of u3) (Nat.le_of_lt (builder_lt u3)))
      clear u3 b3 k3
      gi_wp2
      refine ⟨trivial, ?_⟩
      gi_at_call 74
      refine (callsIn_wide.2 HST.out).mono ?_
      rintro e w4 ⟨rfl, _, b4, k4⟩
      have HU4 := Lib.hid (And.intro b4 k4)
      clear b4 k4
      gi_wp2
      refine ⟨trivial, ?_⟩
      gi_at_call 73
      refine (callsIn_wide.2 (HVD.out _)).mono ?_
      rintro e w5 ⟨rfl, b5⟩
      obtain ⟨u3, b3, k3⟩ := HU3.out
      obtain ⟨b4, k4⟩ := HU4.out
      have s5 := ((HSB.out.kept k3 hBB).kept k4 hBB).below b5
      have cR5 := s5.2.1.1.cell
      have fR5 := s5.2.1.1.frozen
      have cE5 := (s5.2.1.2.other (B' := w.heap.size + 1 + 1 + 1) (by omega) (.string ⟨z1.toArray⟩)).cell
      have fE5 := (s5.2.1.2.other (B' := w.heap.size + 1 + 1 + 1) (by omega) (.string ⟨z1.toArray⟩)).frozen
      have KO := ((kept_others k3 HBU.out b3.size).trans (kept_others k4 u3 b4.size)).trans (keepsOthers_below b5)
      have hK5 := (KO.same D _ HK.out rfl)
      have bw5 := (((HBW.out.trans (b3.mono (by omega))).trans (b4.mono (by omega))).trans (b5.mono (by have := HBW.out.size; have := b3.size; have := b4.size; omega)))
      have HS5 := Lib.hid (And.intro s5 (And.intro hK5 bw5))
      clear s5 hK5 bw5 KO b5 b4 k4 b3 k3 u3
      gi_wp2
      obtain ⟨s5, hK5, bw5⟩ := HS5.out
      have hne : ∀ k : Nat, w.heap.size ≤ k → k < w.heap.size + 1 + 1 + 1 + 1 + 1 → k ≠ D := fun k h1 h2 => by omega
      have hK6 : ((w5.setCell ⟨w.heap.size + 1 + 1 + 1, 0, none⟩ (.string ⟨z1.toArray⟩)).setCell ⟨w.heap.size + 1 + 1 + 1 + 1, 0, none⟩ (.int .i64 z2)).heap[D]? = some (.deferred (some [])) := (Below.heap_setCell _ _ _ D (fun e => hne (w.heap.size + 1 + 1 + 1 + 1) (by omega) (by omega) e.symm)).trans ((Below.heap_setCell _ _ _ D (fun e => hne (w.heap.size + 1 + 1 + 1) (by omega) (by omega) e.symm)).trans hK5)
      have s6 := s5.gave hBB ⟨z1.toArray⟩ z2
      refine leave_mark hK6 (swap_results w.heap.size _ ⟨z1.toArray⟩ z2 _ rfl rfl ((World.putObj_heap_other (hne (w.heap.size + 1 + 1 + 1) (by omega) (by omega))).trans s6.2.1.1) ((World.putObj_heap_other (hne (w.heap.size + 1 + 1 + 1 + 1) (by omega) (by omega))).trans s6.2.1.2)) ⟨?_, below_mark ((bw5.setCell (p := ⟨w.heap.size + 1 + 1 + 1, 0, none⟩) (by show w.heap.size ≤ w.heap.size + 1 + 1 + 1; omega) _).setCell (p := ⟨w.heap.size + 1 + 1 + 1 + 1, 0, none⟩) (by show w.heap.size ≤ w.heap.size + 1 + 1 + 1 + 1; omega) _) (by omega) hK6 _⟩
      rw [HR.out]
      rfl
    case stop =>
      rintro D c pre W hD hq h hK
      cases c with
      | ret =>
        obtain ⟨h1, h2, h3⟩ := h
        gi_wp2
        have hne : ∀ k : Nat, w.heap.size ≤ k → k < w.heap.size + 1 + 1 + 1 + 1 + 1 → k ≠ D := fun k h1 h2 => by omega
        refine leave_mark hK (swap_results w.heap.size _ (⟨#[]⟩ : ByteArray) 5 _ rfl rfl ((World.putObj_heap_other (hne _ (by omega) (by omega))).trans h1.2.1.1) ((World.putObj_heap_other (hne _ (by omega) (by omega))).trans h1.2.1.2)) ⟨?_, below_mark h2 (by omega) hK _⟩
        have hbig := Nat.lt_of_lt_of_le h3 (swS_len hq)
        rw [HV2.out, if_neg]
        · rfl
        · intro hc
          have := check_len hc
          rw [List.length_append] at this
          omega
      | _ => exact h.elim
    case throw =>
      rintro D W hD hz hi hK
      exact absurd HZ.out hz
  · have HH : Hid (swapP (bl t) (bl f) (bl u) = ([], 2)) := Lib.hid (by
      unfold swapP
      by_cases h1 : checkP (bl t) = 0
      · by_cases h2 : checkP (bl f) = 0
        · have h3 : checkP (bl u) ≠ 0 := fun h => hc ⟨h1, h2, h⟩
          rw [treeOf_none h3]
          cases treeOf (bl t) <;> cases treeOf (bl f) <;> rfl
        · rw [treeOf_none h2]
          cases treeOf (bl t) <;> rfl
      · rw [treeOf_none h1])
    have HF : Hid ((checkP (bl t) == 0 && checkP (bl f) == 0 && checkP (bl u) == 0) = false) := Lib.hid (by
      by_cases h1 : checkP (bl t) = 0
      · by_cases h2 : checkP (bl f) = 0
        · rw [may_no (fun h => hc ⟨h1, h2, h⟩), Bool.and_false]
        · rw [may_no h2, Bool.and_false, Bool.false_and]
      · rw [may_no h1, Bool.false_and, Bool.false_and])
    rw [HF.out] at HA
    rw [HH.out]
    clear hc
    refine callsIn_of_wp_marks Try.func42 rfl trivial ?_ rfl
    simp only [Try.ntmps42, List.size_toArray, List.length_cons, List.length_nil, Nat.reduceAdd, Nat.reduceSub, Array.replicate_succ, Array.replicate_zero, List.push_toArray, List.append_toArray, List.nil_append, List.cons_append]
    gi_wp2_with (first | (refine ⟨trivial, ?_⟩; gi_at_call 54; refine (callsIn_wide.2 HA.out).mono ?_; rintro e w1 ⟨rfl, b1⟩; have bR1 : Boxed w1 (w.heap.size + 1 + 1 + 1) 9 (.string (⟨#[]⟩ : ByteArray)) := (b1.block _ (by omega)).trans HB.out.2.2.2.2.1; have bE1 : Boxed w1 (w.heap.size + 1 + 1 + 1 + 1) 22 (.int .i64 0) := (b1.block _ (by omega)).trans HB.out.2.2.2.2.2; have cR1 := bR1.cell; have fR1 := bR1.frozen; have cE1 := (bE1.other (B' := w.heap.size + 1 + 1 + 1) (by omega) (.string (⟨#[]⟩ : ByteArray))).cell; have fE1 := (bE1.other (B' := w.heap.size + 1 + 1 + 1) (by omega) (.string (⟨#[]⟩ : ByteArray))).frozen))
    refine ⟨_, swap_results w.heap.size _ (⟨#[]⟩ : ByteArray) 2 _ rfl rfl ((bR1.set _).other (by omega) _) ((bE1.other (by omega) _).set _), rfl, ?_⟩
    exact ((HB.out.1.trans (b1.mono (by omega))).setCell (p := ⟨w.heap.size + 1 + 1 + 1, 0, none⟩) (by show w.heap.size ≤ w.heap.size + 1 + 1 + 1; omega) _).setCell (p := ⟨w.heap.size + 1 + 1 + 1 + 1, 0, none⟩) (by show w.heap.size ≤ w.heap.size + 1 + 1 + 1 + 1; omega) _
end Go.Proofs.Ytfghhhghhjbiaaa.Pl
