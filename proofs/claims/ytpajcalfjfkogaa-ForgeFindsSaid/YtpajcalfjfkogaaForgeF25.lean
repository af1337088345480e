/- The laying out of steps: lay. How finds steps. How, walked. -/
import Derived.Test.YtpajcalfjfkogaaForgeF24
import Derived.Test.YtpajcalfjfkogaaForgeF16
namespace Go.Proofs.Ytpajcalfjfkogaa.Pl
open Go.RowKit Go.Maps

/-- What laying a term out is to leave. -/
def LayPost (was : List (List UInt8)) (p : Nat) (E : List Ent) (m : Nat) (ss : List Stp) (T : List (List UInt8)) (F A : Nat → Prop) (t : List UInt8) (w : World) : Ending → World → Prop := fun e w' =>
  ∃ (i : Nat) (ss' : List Stp) (T' : List (List UInt8)) (F' : Nat → Prop), e = .returned (.int .i64 (i : Int)) ∧ i < T'.length ∧ T'.getD i [] = t ∧ (t ∉ T → T'.getLast? = some t) ∧ Ly w' F' (fun b => A b ∨ F' b) p E ss' T' ∧ LaidTo was E m ss T [t] ss' T' ∧ (∀ b, F' b → F b ∨ w.heap.size ≤ b) ∧ Turn F w w'
theorem getD_front {T T2 : List (List UInt8)} (h : T <+: T2) {i : Nat} (hi : i < T.length) : T2.getD i [] = T.getD i [] := by
  obtain ⟨R, rfl⟩ := h
  rw [List.getD_eq_getElem?_getD, List.getD_eq_getElem?_getD, List.getElem?_append_left hi]
theorem map_front {T T2 : List (List UInt8)} (h : T <+: T2) {is : List Nat} (hi : ∀ i ∈ is, i < T.length) : is.map (fun i => T2.getD i []) = is.map (fun i => T.getD i []) :=
  List.map_congr_left fun i hin => getD_front h (hi i hin)
theorem own_shape11 {w : World} {B e k n : Nat} {v : Value} {xs : List Value} (h : w.ownsRow B e k v n xs) : ∃ ao m cap, v = .slice ao m cap := by
  rcases h.2 with ⟨hv, _⟩ | ⟨g, cap, cur, hv, _⟩
  · exact ⟨_, _, _, hv⟩
  · exact ⟨_, _, _, hv⟩
theorem own_n {w : World} {B e k n m cap : Nat} {ao : Option Addr} {xs : List Value} (h : w.ownsRow B e k (.slice ao m cap) n xs) : m = n := by
  rcases h.2 with ⟨hv, h0⟩ | ⟨g, cap2, cur, hv, _⟩
  · injection hv with _ h1 _
    rw [h1, h0]
  · injection hv with _ h1 _
theorem ly_row {W w5 : World} {F A : Nat → Prop} {p mm ma : Nat} {E : List Ent} {ss : List Stp} {T : List (List UInt8)} {sv kv : Value} {V cs : List Value} {o : Obj} (h : LyA W F A p E ss T mm ma sv kv V cs) (hg : (W.alloc o).grownBy w5 kv.ownBlock) : w5.heap[p]? = some (.cells #[.map (some mm), sv, kv, .map (some ma)] 60 (0, 0)) :=
  (hg.block p (by have := h.foot p (h.sub p h.fp); simp; omega) (fun e => (h.ne.2.2 p e.symm).1 rfl)).trans ((Below.heap_alloc W o p (h.foot p (h.sub p h.fp))).trans h.cells)
theorem turn_own {W w' : World} {v : Value} {o : Obj} (hg : (W.alloc o).grownBy w' v.ownBlock) : Turn (fun b => v.ownBlock = some b) W w' :=
  ⟨hg.os.trans rfl, hg.tape.trans rfl, hg.output.trans rfl, by have := hg.size; rw [World.size_alloc] at this; omega, fun b hb hn => (hg.block b (by simp; omega) (fun e => hn e.symm)).trans (Below.heap_alloc W _ b hb)⟩
variable {was : List (List UInt8)} {U : Tm → Prop}
/-- What holds while the origins are laid out. -/
structure LyIn (was : List (List UInt8)) (p : Nat) (E : List Ent) (k : Nat) (O : List (List UInt8)) (ss : List Stp) (T : List (List UInt8)) (F A : Nat → Prop) (L : List ByteArray) (ao : Option Addr) (org : Array Value) (w wr : World) (j : Nat) (v : Value) (is : List Nat) (ss1 : List Stp) (T1 : List (List UInt8)) (F1 : Nat → Prop) : Prop where
  own : OwnJ wr v is
  out : ∀ b, v.ownBlock = some b → ¬ (A b ∨ F1 b)
  len : is.length = j
  low : ∀ i ∈ is, i < T1.length
  gives : is.map (fun i => T1.getD i []) = O.take j
  ly : Ly wr F1 (fun b => (A b ∨ F1 b) ∨ v.ownBlock = some b) p E ss1 T1
  laid : LaidTo was E k ss T (O.take j) ss1 T1
  more : ∀ b, F1 b → F b ∨ w.heap.size ≤ b
  turn : Turn F w wr
  row : RowOut (fun b => (A b ∨ F1 b) ∨ v.ownBlock = some b) wr ao L
  org : wr.heap[w.heap.size]? = some (.cells org 96 (0, 0))
  off : ¬ F1 w.heap.size
  vnew : ∀ b, v.ownBlock = some b → w.heap.size < b
set_option maxHeartbeats 8000000 in
set_option maxRecDepth 100000 in
theorem lay11_at (E : List Ent) (hg : Good was U E) (hE : E.length ≤ 1000000) : ∀ (m k : Nat), k < m → (hk : k < E.length) → ∀ (s : ByteArray), bl s = (E[k]).t → ∀ (p : Nat) (ss : List Stp) (T : List (List UInt8)) (F A : Nat → Prop) (w : World), Ly w F A p E ss T → Laid was E ss T →
    Calls Try.prog 33 #[ptr11 p, .string s] w (LayPost was p E (k + 1) ss T F A (E[k]).t w) := by
  intro m
  induction m with
  | zero => exact fun k h => absurd h (Nat.not_lt_zero _)
  | succ m ih =>
    intro k hkm hk s hs p ss T F A w hL hD
    obtain ⟨T0, hv, _, hte⟩ := hg.inU (E[k]).t (List.mem_map_of_mem (List.getElem_mem hk))
    have hsz := valid_size hv (hs.trans hte.symm)
    have hkey := key10 s (by omega)
    rw [hs] at hkey
    obtain ⟨hlen, hTle⟩ := laid_size hD
    have hL0 := hL
    obtain ⟨mm, ma, sv, kv, V, cs, hA⟩ := hL
    have cp3 : w.cell? ⟨p, 3, none⟩ = some (.map (some ma)) := cell_of_row _ _ _ _ _ _ hA.cells
    have cp0 : w.cell? ⟨p, 0, none⟩ = some (.map (some mm)) := cell_of_row _ _ _ _ _ _ hA.cells
    by_cases hT : (E[k]).t ∈ T
    · obtain ⟨i, hi, hit⟩ := List.getElem_of_mem hT
      have hpr := ats_at hi
      rw [hit] at hpr
      have HLK := Lib.hid (fun V2 (hb : Below w.heap.size w V2) => ((hA.at_.below hb).look keyed10 Try.underlying57 (zero_int11 V2) hkey hpr).2)
      have HP : Hid (∀ w', Below w.heap.size w w' → LayPost was p E (k + 1) ss T F A (E[k]).t w (.returned (.int .i64 (i : Int))) w') := Lib.hid (fun w' hb => ⟨i, ss, T, F, rfl, hi, by rw [List.getD_eq_getElem?_getD, List.getElem?_eq_getElem hi]; exact hit, fun q => absurd hT q, (hL0.below hb).fewer (fun b q => q.elim id (hA.sub b)) (fun b q => .inr q), laidTo_in hD hT, fun b q => .inl q, turn_below hb⟩)
      generalize (E[k]).t = t at *
      clear ih hkm hs hD hv hte hsz hkey hL0 hA hT hit hpr hlen hTle
      go_enter Try.func33, Try.ntmps33
      go_wp2_with (first | (at_lookup; refine wpList_lookV rfl _ _ 57 true rfl _ _ _ rfl rfl (HLK.out _ (Below.refl _ _)) ?_) | fail)
      go_ret
      exact HP.out _ (Below.refl _ _)
    · have HLK := Lib.hid (fun V2 (hb : Below w.heap.size w V2) => ((hA.at_.below hb).miss keyed10 Try.underlying57 (zero_int11 V2) hkey (fun q => hT ((ats_key T _).1 q))).2)
      obtain ⟨f, n, tx, ao, cap, L, he, hfit, hvk, hLo, hrow⟩ := hA.org k hk
      have hpr := prs_at hA.len hk
      rw [hvk] at hpr
      have HLM := Lib.hid (fun V2 (hb : Below w.heap.size w V2) => ((hA.made.below hb).look keyed10 Try.underlying56 (zero_org V2) hkey hpr).1)
      obtain ⟨q, hq⟩ : ∃ q, q = L.length := ⟨_, rfl⟩
      rw [← hq] at HLM
      obtain ⟨W1, hW1⟩ : ∃ V2, V2 = w.alloc (.cells #[.int .u8 f, .int .i64 0, .int .i64 0, .int .i64 0, .int .i64 n, .string tx, .slice none 0 0, .slice ao q cap] 96) := ⟨_, rfl⟩
      have B1 : Hid (Below w.heap.size w W1) := Lib.hid (by rw [hW1]; exact (Below.refl _ _).alloc (Nat.le_refl _) _)
      have hb1 : W1.heap[w.heap.size]? = some (.cells #[.int .u8 f, .int .i64 0, .int .i64 0, .int .i64 0, .int .i64 n, .string tx, .slice none 0 0, .slice ao q cap] 96 (0, 0)) := by rw [hW1]; exact Go.heap_alloc_new w _
      have HW1 := Lib.hid hW1
      obtain ⟨Og, hOr⟩ : ∃ o, o = (E[k]).o := ⟨_, rfl⟩
      have hOL : Og.length = q := by rw [hOr, hq, ← hLo, List.length_map]
      have IN0 : Hid (LyIn was p E k Og ss T F A L ao #[.int .u8 f, .int .i64 0, .int .i64 0, .int .i64 0, .int .i64 n, .string tx, .slice none 0 0, .slice ao q cap] w W1 0 (.slice none 0 0) [] ss T F) := Lib.hid (by
        refine ⟨ownJ_nil _, fun b hb => (by cases hb), rfl, fun i hi => (by cases hi), by simp, (hL0.below B1.out).fewer (fun b q => q.elim (fun q => q.elim id (hA.sub b)) (fun q => (by cases q))) (fun b q => .inl (.inr q)), ?_, fun b q => .inl q, turn_below B1.out, hrow.still ⟨B1.out.size, fun b hb _ => B1.out.block b hb, fun b q => .inl (q.elim (fun q => q.elim id (hA.sub b)) (fun q => (by cases q)))⟩, hb1, fun q => absurd (hA.foot _ (hA.sub _ q)) (Nat.lt_irrefl _), fun b q => (by cases q)⟩
        rw [List.take_zero]
        exact laidTo_nil hD)
      have HQ : Hid (q ≤ 1000000) := Lib.hid (by
        have h1 := (hg.made _ (List.getElem_mem hk)).1
        rw [← hOr, hOL] at h1
        omega)
      have HIH : Hid (∀ (j : Nat) (hj : j < q) (ss1 : List Stp) (T1 : List (List UInt8)) (F1 A1 : Nat → Prop) (W : World), Ly W F1 A1 p E ss1 T1 → Laid was E ss1 T1 → Calls Try.prog 33 #[ptr11 p, .string (L.getD j ByteArray.empty)] W (LayPost was p E k ss1 T1 F1 A1 (Og.getD j []) W)) := Lib.hid (fun j hj ss1 T1 F1 A1 W hL1 hD1 => by
        have hjO : j < (E[k]).o.length := by rw [← hOr, hOL]; exact hj
        have hin := hg.ahead k hk ((E[k]).o[j]) (List.getElem_mem hjO)
        obtain ⟨e1, he1, hee⟩ := List.mem_map.1 hin
        obtain ⟨k1, hk1, rfl⟩ := List.getElem_of_mem he1
        have hk1' : k1 < k := by simp at hk1; omega
        rw [List.getElem_take] at hee
        have e2 : Og.getD j [] = (E[k1]'(by omega)).t := by rw [hOr, List.getD_eq_getElem?_getD, List.getElem?_eq_getElem hjO]; exact hee.symm
        rw [e2]
        have e3 : bl (L.getD j ByteArray.empty) = (E[k1]'(by omega)).t := by
          have hjL : j < L.length := by rw [← hq]; exact hj
          rw [← e2, hOr, ← hLo, List.getD_eq_getElem?_getD, List.getD_eq_getElem?_getD, List.getElem?_map, List.getElem?_eq_getElem hjL]
          rfl
        refine (ih k1 (by omega) (by omega) _ e3 p ss1 T1 F1 A1 W hL1 hD1).mono fun e w' h => ?_
        obtain ⟨i, ss', T', F', a1, a2, a3, a9, a4, a5, a6, a7⟩ := h
        exact ⟨i, ss', T', F', a1, a2, a3, a9, a4, laidTo_more (by omega) a5, a6, a7⟩)
      have HG := Lib.hid hg
      have HFRESH : Hid (∀ xs ss1 T1, LaidTo was E k ss T xs ss1 T1 → (E[k]).t ∉ T1) := Lib.hid (fun xs ss1 T1 h => laid_fresh hg hk hT h)
      have HSTEP : Hid (∀ (is : List Nat) ss1 T1, LaidTo was E k ss T Og ss1 T1 → (∀ i ∈ is, i < T1.length) → is.map (fun i => T1.getD i []) = Og → LaidTo was E (k + 1) ss T [(E[k]).t] (ss1 ++ [referP (stp0 f n tx) (idx is)]) (T1 ++ [(E[k]).t])) := Lib.hid (fun is ss1 T1 h h1 h2 => by
        have := laidTo_step hg hk hT (hOr ▸ h) h1 (h2.trans hOr)
        rw [he] at this
        exact this)
      have HFIT := Lib.hid (he ▸ hfit)
      have HKEY := Lib.hid hkey
      have HOL := Lib.hid hOL
      have HLQ := Lib.hid hq
      have HE := Lib.hid hE
      have HFOOT := Lib.hid hA.foot
      generalize (E[k]).t = t at *
      clear ih hkm hs hD hv hte hsz hkey hL0 hA hT hlen hTle he hfit hvk hLo hrow hpr hq hW1 hb1 hOr hOL
      go_enter Try.func33, Try.ntmps33
      go_wp2_with (first | (at_lookup; refine wpList_lookV rfl _ _ 57 true rfl _ _ _ rfl rfl (HLK.out _ (Below.refl _ _)) ?_) | (at_lookup; refine wpList_lookV rfl _ _ 56 false rfl _ _ _ rfl rfl (HLM.out _ (Below.refl _ _)) ?_) | fail)
      rw [← HW1.out]
      go_loopw [31, 8] (fun iv rv wr => ∃ (j : Nat) (v : Value) (is : List Nat) (ss1 : List Stp) (T1 : List (List UInt8)) (F1 : Nat → Prop), iv = .int .i64 j ∧ rv = v ∧ j ≤ q ∧ Hid (LyIn was p E k Og ss T F A L ao #[.int .u8 f, .int .i64 0, .int .i64 0, .int .i64 0, .int .i64 n, .string tx, .slice none 0 0, .slice ao q cap] w wr j v is ss1 T1 F1)) (fun iv _ _ => q - (intOf iv).toNat)
      case atStart => exact ⟨0, _, [], ss, T, F, rfl, rfl, Nat.zero_le _, IN0⟩
      case round =>
        clear IN0 HLK HLM cp0 cp3
        obtain ⟨j, v, is, ss1, T1, F1, rfl, hvv, hjq, hI⟩ := hrel
        have hvs := hvv.symm
        clear hvv
        subst hvs
        have hz1 := HQ.out
        by_cases hj : j < q
        · have hj' : (j : Int) < (q : Int) := by omega
          have hI' := hI.out
          have HCK := Lib.hid (HIH.out j hj ss1 T1 F1 _ wr hI'.ly hI'.laid.laid)
          have hr := hI'.row
          rcases hr with e | ⟨g, off, rfl, hlt, hng, hc⟩
          · exfalso
            have := HLQ.out
            rw [e] at this
            simp at this
            omega
          have ck := hc j (by rw [← HLQ.out]; exact hj)
          obtain ⟨y, hy⟩ : ∃ y, y = L.getD j ByteArray.empty := ⟨_, rfl⟩
          rw [← hy] at ck HCK
          clear hc hlt hng hy hI'
          go_wp2_with fail
          refine HCK.out.mono ?_; rintro e w7 ⟨i, ss2, T2, F2, rfl, h1, h2, _, h3, h4, h5, h6⟩
          have hI' := hI.out
          have hvlt : ∀ b, v.ownBlock = some b → b < wr.heap.size := fun b hb => (World.ownsRow.lt hI'.own b hb).2
          have hwr : w.heap.size < wr.heap.size := (Array.getElem?_eq_some_iff.1 hI'.org).1
          have hsz7 := h6.size
          have out2 : ∀ b, v.ownBlock = some b → ¬ (A b ∨ F2 b) := fun b hb k => k.elim (fun q => hI'.out b hb (.inl q)) (fun q => (h5 b q).elim (fun q => hI'.out b hb (.inr q)) (fun q => absurd (hvlt b hb) (by omega)))
          have OUT2 := Lib.hid out2
          have OJ : Hid (OwnJ w7 v is) := Lib.hid (ownJ_other hI'.own (fun b hb => h6.block b (hvlt b hb) (fun q => hI'.out b hb (.inr q))))
          have LY7 : Hid (Ly w7 F2 (fun b => (A b ∨ F2 b) ∨ v.ownBlock = some b) p E ss2 T2) := Lib.hid (h3.fewer (fun b q => q.elim (fun q => q.elim (fun q => .inl (.inl (.inl q))) .inr) (fun q => .inl (.inr q))) (fun b q => .inl (.inr q)))
          have ST7 : Still (fun b => (A b ∨ F1 b) ∨ v.ownBlock = some b) (fun b => (A b ∨ F2 b) ∨ v.ownBlock = some b) wr w7 := ⟨h6.size, fun b hb hn => h6.block b hb (fun q => hn (.inl (.inr q))), fun b q => q.elim (fun q => q.elim (fun q => .inl (.inl (.inl q))) (fun q => (h5 b q).elim (fun q => .inl (.inl (.inr q))) .inr)) (fun q => .inl (.inr q))⟩
          have RO7 := Lib.hid (hI'.row.still ST7)
          have HIL : Hid (is.length ≤ 1000000000) := Lib.hid (by have := hI'.len; omega)
          have hjO : j < Og.length := by rw [HOL.out]; exact hj
          have HT7 := Lib.hid (turn_trans hI'.turn h6 hI'.more)
          have org7 : w7.heap[w.heap.size]? = _ := (h6.block _ hwr hI'.off).trans hI'.org
          have HORG := Lib.hid org7
          have HMORE : Hid (∀ b, F2 b → F b ∨ w.heap.size ≤ b) := Lib.hid (fun b q => (h5 b q).elim (hI'.more b) (fun q => .inr (Nat.le_trans hI'.turn.size q)))
          have HOFF : Hid (¬ F2 w.heap.size) := Lib.hid (fun q => (h5 _ q).elim hI'.off (fun q => absurd hwr (by omega)))
          have HLOW : Hid (∀ x ∈ is ++ [i], x < T2.length) := Lib.hid (fun x hx => by
            rcases List.mem_append.1 hx with hx | hx
            · exact Nat.lt_of_lt_of_le (hI'.low x hx) h4.terms.length_le
            · rw [List.mem_singleton.1 hx]; exact h1)
          have htk : Og.take (j + 1) = Og.take j ++ [Og.getD j []] := by
            rw [List.take_succ_eq_append_getElem hjO, List.getD_eq_getElem?_getD, List.getElem?_eq_getElem hjO]
            rfl
          have HGIVES : Hid ((is ++ [i]).map (fun i => T2.getD i []) = Og.take (j + 1)) := Lib.hid (by
            rw [List.map_append, map_front h4.terms hI'.low, hI'.gives, htk, List.map_cons, List.map_nil, h2])
          have HLAID : Hid (LaidTo was E k ss T (Og.take (j + 1)) ss2 T2) := Lib.hid (by rw [htk]; exact laidTo_next hI'.laid h4)
          have HLEN : Hid ((is ++ [i]).length = j + 1) := Lib.hid (by rw [List.length_append, hI'.len]; rfl)
          have HVN := Lib.hid hI'.vnew
          have HWR : Hid (w.heap.size < w7.heap.size) := Lib.hid (by omega)
          clear h1 h2 h3 h4 h5 h6 hI' hvlt hwr hsz7 out2 ST7 org7 htk hjO ck HCK
          go_wp2_with (at_builtin; go_loud (refine wpList_appJ (W1 := w7) (v := v) (is := is) rfl (.tmp 35) (.tmp 39) rfl rfl i rfl rfl OJ.out HIL.out ?_))
          intro v' w8 ho8 hg8 hl8
          have HO8 := Lib.hid ho8
          have HG8 := Lib.hid hg8
          have HL8 := Lib.hid hl8
          clear ho8 hg8 hl8
          go_wp2_with fail
          go_roundw
          case rel =>
            obtain ⟨ly8, out8, st8⟩ := LY7.out.grown (B := fun b => A b ∨ F2 b) OUT2.out (fun b q => .inr q) HO8.out HG8.out HL8.out
            have hw7 := HWR.out
            refine ⟨j + 1, v', is ++ [i], ss2, T2, F2, by go_num, rfl, by omega, Lib.hid ⟨HO8.out, out8, HLEN.out, HLOW.out, HGIVES.out, ly8, HLAID.out, HMORE.out, turn_trans HT7.out (turn_own HG8.out) (fun b q => .inr (Nat.le_of_lt (HVN.out b q))), RO7.out.still st8, (HG8.out.block _ (by simp; omega) (fun e => absurd (HVN.out _ e.symm) (Nat.lt_irrefl _))).trans ((Below.heap_alloc w7 _ _ hw7).trans HORG.out), HOFF.out, fun b q => (HL8.out b q).elim (HVN.out b) (fun q => by omega)⟩⟩
          case measure => simp [intOf]; omega
        · obtain rfl : q = j := by omega
          have hI' := hI.out
          have hOt : Og.take q = Og := List.take_of_length_le (by rw [HOL.out]; exact Nat.le_refl _)
          have hLD := hI'.laid
          rw [hOt] at hLD
          have hGV := hI'.gives
          rw [hOt] at hGV
          obtain ⟨ro, rc, hvr, hrc, hio⟩ := ownJ_row hI'.own hI'.out
          have hly := hI'.ly.fewer (A' := fun b => A b ∨ F1 b) (fun b q => .inl q) (fun b q => .inr q)
          obtain ⟨mm1, ma1, sv1, kv1, V1, cs1, hA1⟩ := hly
          obtain ⟨hl1, hl2⟩ := laid_size hLD.laid
          obtain ⟨ko, n1, kcap, hkv⟩ := own_shape11 hA1.rows
          subst hkv
          have hn1 : n1 = ss1.length := own_n hA1.rows
          subst hn1
          have hfresh := HFRESH.out _ _ _ hLD
          have hA2 := hA1.below (drew11 wr)
          obtain ⟨w4, run4, hm4, ht4⟩ := hA2.at_.store (by rw [ats_len]; have := HE.out; omega) keyed10 Try.underlying57 (.string s) (.int .i64 (ss1.length : Int)) (.string t) HKEY.out trivial (fun q => hfresh ((ats_key T1 _).1 q))
          have hA4 := hA2.noted (t := t) (by rw [← hl1]; exact hm4) ht4
          have hT4 : Turn F w w4 := turn_trans (turn_trans hI'.turn (turn_below (drew11 wr)) (fun _ hb => .inl hb)) (turned_turn ht4 hA2.fa) hI'.more
          have hwr : w.heap.size < wr.heap.size := (Array.getElem?_eq_some_iff.1 hI'.org).1
          have hob : w.heap.size ≠ ma1 := fun e => hI'.off (e ▸ hA1.fa)
          have org4 := (ht4.grown.block w.heap.size hwr (fun e => hob (Option.some.inj e))).trans hI'.org
          have KS : wr.cell? ⟨p, 3, none⟩ = some (.map (some ma1)) ∧ wr.cell? ⟨p, 2, none⟩ = some (.slice ko ss1.length kcap) := ⟨cell_of_row _ _ _ _ _ _ hA1.cells, cell_of_row _ _ _ _ _ _ hA1.cells⟩
          have KA : w4.cell? ⟨p, 3, none⟩ = some (.map (some ma1)) ∧ w4.cell? ⟨p, 2, none⟩ = some (.slice ko ss1.length kcap) := ⟨cell_of_row _ _ _ _ _ _ hA4.cells, cell_of_row _ _ _ _ _ _ hA4.cells⟩
          obtain ⟨r, hr⟩ : ∃ r, r = idx is := ⟨_, rfl⟩
          have hrl : is.length = r.length := by rw [hr]; unfold idx; rw [List.length_map]
          obtain ⟨a, b, c, lo, q2, lc, hcv, hlc, hlo, hcall⟩ := refer11_any f n tx ro r rc hrc
          have hD4 := drew11 w4
          have L4d := hA4.below hD4
          have io4 : IntOut (fun b => A b ∨ F1 b) w4.drew ro r := by
            have s1 : Still (fun b => A b ∨ F1 b) (fun b => A b ∨ F1 b) wr w4.drew := by
              have tt : Turn F1 wr w4.drew := turn_trans (turn_trans (turn_below (drew11 wr)) (turned_turn ht4 hA2.fa) (fun _ hb => .inl hb)) (turn_below hD4) (fun _ hb => .inl hb)
              exact ⟨tt.size, fun b hb hn => tt.block b hb (fun q => hn (.inr q)), fun b q => .inl q⟩
            rw [hr]
            exact hio.still s1
          have HCALL := Lib.hid (hcall w4.drew io4.row)
          have HCV := Lib.hid hcv
          have HLC := Lib.hid hlc
          have IO4 := Lib.hid (hlo _ _ io4)
          have HRF : Hid ((referP (stp0 f n tx) r).Fit) := Lib.hid (by
            rw [hr]
            have h1 := HE.out
            exact refer_fit HFIT.out (fun i hi => by have := hI'.low i hi; omega) (by have := hI'.len; omega))
          have L4 := Lib.hid L4d
          have HN1 : Hid (ss1.length ≤ 1000000000) := Lib.hid (by have := HE.out; omega)
          have HT4 := Lib.hid hT4
          have HFIN : Hid (LaidTo was E (k + 1) ss T [t] (ss1 ++ [referP (stp0 f n tx) r]) (T1 ++ [t])) := Lib.hid (by rw [hr]; exact HSTEP.out is ss1 T1 hLD hI'.low hGV)
          have HAT : Hid ((Lit.string t, Value.int .i64 (T1.length : Int)) ∈ ats (T1 ++ [t])) := Lib.hid (by rw [ats_snoc]; simp)
          have HGET : Hid ((T1 ++ [t]).getD T1.length [] = t) := Lib.hid (by rw [List.getD_eq_getElem?_getD]; simp)
          have HMORE := Lib.hid hI'.more
          have HOFF := Lib.hid hI'.off
          have HBP : Hid (w.heap.size ≠ p) := Lib.hid (fun e => hI'.off (e ▸ hA1.fp))
          have HSZ4 : Hid (w.heap.size ≤ w4.drew.heap.size) := Lib.hid (Nat.le_trans hT4.size (drew11 w4).size)
          have KS7 : w4.drew.cell? ⟨w.heap.size, 0, none⟩ = some (.int .u8 f) ∧ w4.drew.cell? ⟨w.heap.size, 1, none⟩ = some (.int .i64 0) ∧ w4.drew.cell? ⟨w.heap.size, 2, none⟩ = some (.int .i64 0) ∧ w4.drew.cell? ⟨w.heap.size, 3, none⟩ = some (.int .i64 0) ∧ w4.drew.cell? ⟨w.heap.size, 4, none⟩ = some (.int .i64 n) ∧ w4.drew.cell? ⟨w.heap.size, 5, none⟩ = some (.string tx) ∧ w4.drew.cell? ⟨w.heap.size, 6, none⟩ = some (.slice none 0 0) := ⟨cell_of_row _ _ _ _ _ _ org4, cell_of_row _ _ _ _ _ _ org4, cell_of_row _ _ _ _ _ _ org4, cell_of_row _ _ _ _ _ _ org4, cell_of_row _ _ _ _ _ _ org4, cell_of_row _ _ _ _ _ _ org4, cell_of_row _ _ _ _ _ _ org4⟩
          have c42 : w4.drew.cell? ⟨p, 2, none⟩ = some (.slice ko ss1.length kcap) := cell_of_row _ _ _ _ _ _ L4d.cells
          rw [hrl] at hvr
          subst hvr
          obtain ⟨n1, hn1⟩ : ∃ x, x = ss1.length := ⟨_, rfl⟩
          rw [← hn1] at KS KA run4 c42
          have L4 : Hid (LyA w4.drew F1 (fun b => A b ∨ F1 b) p E ss1 (T1 ++ [t]) mm1 ma1 sv1 (.slice ko n1 kcap) V1 cs1) := Lib.hid (by rw [hn1]; exact L4.out)
          clear hI' hOt hLD hGV hrc hio hA1 hl1 hl2 hfresh hA2 hm4 ht4 hA4 hT4 hwr hob org4 hr hrl hcv hlc hlo hcall hD4 L4d io4 hn1 hI
          go_wp2_with fail
          go_region_held3 (fun W => W.cell? ⟨p, 3, none⟩ = some (.map (some ma1)) ∧ W.cell? ⟨p, 2, none⟩ = some (.slice ko n1 kcap)) (first | assumption | exact KA) (first | fail)
          clear KS KA run4
          go_wp2_with fail
          refine wp_region_held_drew (S := fun W => W.cell? ⟨w.heap.size, 0, none⟩ = some (.int .u8 f) ∧ W.cell? ⟨w.heap.size, 1, none⟩ = some (.int .i64 0) ∧ W.cell? ⟨w.heap.size, 2, none⟩ = some (.int .i64 0) ∧ W.cell? ⟨w.heap.size, 3, none⟩ = some (.int .i64 0) ∧ W.cell? ⟨w.heap.size, 4, none⟩ = some (.int .i64 n) ∧ W.cell? ⟨w.heap.size, 5, none⟩ = some (.string tx) ∧ W.cell? ⟨w.heap.size, 6, none⟩ = some (.slice none 0 0)) (by kernel_rfl) (by first | assumption | (exact KS7)) (fun hHeld => ?_)
          refine wpAnyH_take (i := 0) (oi := { dst := some 52, op := Op.move (Operand.tmp 0), type := 55, pos := "forge.go:261", after := #[], guard := none }) (v := ?_) rfl (by kernel_rfl) (by kernel_rfl) (by kernel_rfl) (fun _ _ _ h => h) (Or.inl ⟨by rfl, ?_⟩) (by assumption) ?_
          rotate_left 1
          · (intro w hSw; (try dsimp only at hSw); go_simp; try with_reducible rfl)
          (try simp only [Act.put, List.setIfInBounds_toArray, List.set_cons_zero, List.set_cons_succ])
          refine wpAnyH_take (i := 1) (oi := { dst := some 53, op := Op.move (Operand.tmp 0), type := 55, pos := "forge.go:261", after := #[], guard := none }) (v := ?_) rfl (by kernel_rfl) (by kernel_rfl) (by kernel_rfl) (fun _ _ _ h => h) (Or.inl ⟨by rfl, ?_⟩) (by assumption) ?_
          rotate_left 1
          · (intro w hSw; (try dsimp only at hSw); go_simp; try with_reducible rfl)
          (try simp only [Act.put, List.setIfInBounds_toArray, List.set_cons_zero, List.set_cons_succ])
          refine wpAnyH_take (i := 2) (oi := { dst := some 54, op := Op.nilCheck (Operand.tmp 53), type := 0, pos := "forge.go:261", after := #[{ on := 1, ground := Ground.data }], guard := none }) (v := ?_) rfl (by kernel_rfl) (by kernel_rfl) (by kernel_rfl) (fun _ _ _ h => h) (Or.inl ⟨by rfl, ?_⟩) (by assumption) ?_
          rotate_left 1
          · (intro w hSw; (try dsimp only at hSw); go_simp; try with_reducible rfl)
          (try simp only [Act.put, List.setIfInBounds_toArray, List.set_cons_zero, List.set_cons_succ])
          refine wpAnyH_take (i := 3) (oi := { dst := some 55, op := Op.fieldAddr 60 (Operand.tmp 54) 2, type := 0, pos := "forge.go:261", after := #[{ on := 2, ground := Ground.data }], guard := none }) (v := ?_) rfl (by kernel_rfl) (by kernel_rfl) (by kernel_rfl) (fun _ _ _ h => h) (Or.inl ⟨by rfl, ?_⟩) (by assumption) ?_
          rotate_left 1
          · (intro w hSw; (try dsimp only at hSw); go_simp; try with_reducible rfl)
          (try simp only [Act.put, List.setIfInBounds_toArray, List.set_cons_zero, List.set_cons_succ])
          refine wpAnyH_take (i := 5) (oi := { dst := some 57, op := Op.fieldAddr 96 (Operand.tmp 7) 0, type := 0, pos := "forge.go:261", after := #[], guard := none }) (v := ?_) rfl (by kernel_rfl) (by kernel_rfl) (by kernel_rfl) (fun _ _ _ h => h) (Or.inl ⟨by rfl, ?_⟩) (by assumption) ?_
          rotate_left 1
          · (intro w hSw; (try dsimp only at hSw); go_simp; try with_reducible rfl)
          (try simp only [Act.put, List.setIfInBounds_toArray, List.set_cons_zero, List.set_cons_succ])
          refine wpAnyH_take (i := 6) (oi := { dst := some 58, op := Op.load 46 (Operand.tmp 57), type := 46, pos := "forge.go:261", after := #[{ on := 5, ground := Ground.data }], guard := none }) (v := ?_) rfl (by kernel_rfl) (by kernel_rfl) (by kernel_rfl) (fun _ _ _ h => h) (Or.inl ⟨by rfl, ?_⟩) (by assumption) ?_
          rotate_left 1
          · (intro w hSw; (try dsimp only at hSw); go_simp; try with_reducible rfl)
          (try simp only [Act.put, List.setIfInBounds_toArray, List.set_cons_zero, List.set_cons_succ])
          refine wpAnyH_take (i := 7) (oi := { dst := some 59, op := Op.move (Operand.tmp 8), type := 44, pos := "forge.go:261", after := #[], guard := none }) (v := ?_) rfl (by kernel_rfl) (by kernel_rfl) (by kernel_rfl) (fun _ _ _ h => h) (Or.inl ⟨by rfl, ?_⟩) (by assumption) ?_
          rotate_left 1
          · (intro w hSw; (try dsimp only at hSw); go_simp; try with_reducible rfl)
          (try simp only [Act.put, List.setIfInBounds_toArray, List.set_cons_zero, List.set_cons_succ])
          refine wpAnyH_ready (rs := [4, 8]) (by kernel_rfl) (by simp) ?_
          refine AllReadyH.cons (o := { dst := some 56, op := Op.load 23 (Operand.tmp 55), type := 23, pos := "forge.go:261", after := #[{ on := 3, ground := Ground.data }], guard := none }) rfl (fun K hK => ?_) ?_
          · go_simp
            refine hK.out _ _ (by exact KS7) (fun hHeld => ?_)
            clear hK K
            (try simp only [Act.put, List.setIfInBounds_toArray, List.set_cons_zero, List.set_cons_succ])
            refine wpAnyH_ready (rs := [8]) (by kernel_rfl) (by simp) ?_
            refine AllReadyH.cons (o := { dst := some 60, op := Op.call { callee := Callee.value (Operand.func 59), args := #[Operand.tmp 58, Operand.tmp 59], argTypes := #[46, 44] }, type := 46, pos := "forge.go:261", after := #[{ on := 6, ground := Ground.data }, { on := 7, ground := Ground.data }], guard := none }) rfl (fun K hK => ?_) AllReadyH.nil
            go_simp
            refine HCALL.out.mono ?_; rintro e w7 ⟨rfl, b7⟩
            have B7 := Lib.hid b7
            have L7 := Lib.hid (L4.out.below b7)
            have IO7 : Hid (IntOut (fun b => A b ∨ F1 b) w7 lo (referP (stp0 f n tx) r).list) := Lib.hid (IO4.out.still (still_below b7))
            have HT7 := Lib.hid (turn_trans (turn_trans HT4.out (turn_below (drew11 w4)) (fun _ hb => .inl hb)) (turn_below b7) (fun _ hb => .inl hb))
            have HSZ : Hid (w.heap.size ≤ w7.heap.size) := Lib.hid (Nat.le_trans HSZ4.out b7.size)
            have KS4 := KS7
            have KS7 : w7.cell? ⟨w.heap.size, 0, none⟩ = some (.int .u8 f) ∧ w7.cell? ⟨w.heap.size, 1, none⟩ = some (.int .i64 0) ∧ w7.cell? ⟨w.heap.size, 2, none⟩ = some (.int .i64 0) ∧ w7.cell? ⟨w.heap.size, 3, none⟩ = some (.int .i64 0) ∧ w7.cell? ⟨w.heap.size, 4, none⟩ = some (.int .i64 n) ∧ w7.cell? ⟨w.heap.size, 5, none⟩ = some (.string tx) ∧ w7.cell? ⟨w.heap.size, 6, none⟩ = some (.slice none 0 0) := by exact ⟨cell_keep b7 KS4.1, cell_keep b7 KS4.2.1, cell_keep b7 KS4.2.2.1, cell_keep b7 KS4.2.2.2.1, cell_keep b7 KS4.2.2.2.2.1, cell_keep b7 KS4.2.2.2.2.2.1, cell_keep b7 KS4.2.2.2.2.2.2⟩
            have c72 : w7.cell? ⟨p, 2, none⟩ = some (.slice ko n1 kcap) := cell_keep b7 c42
            clear b7
            refine hK.out _ _ (by exact KS7) (fun hHeld => ?_)
            clear hK K
            (try simp only [Act.put, List.setIfInBounds_toArray, List.set_cons_zero, List.set_cons_succ])
            refine wpAnyH_ready (rs := [9]) (by kernel_rfl) (by simp) ?_
            refine AllReadyH.cons (o := { dst := some 61, op := Op.buildSlice 23 1 #[(0, Operand.tmp 60)], type := 23, pos := "forge.go:261", after := #[{ on := 8, ground := Ground.data }], guard := none }) rfl (fun K hK => ?_) AllReadyH.nil
            go_simp
            refine hK.out _ _ (by exact ⟨cell_keep ((Below.refl _ _).alloc (Nat.le_refl _) _) KS7.1, cell_keep ((Below.refl _ _).alloc (Nat.le_refl _) _) KS7.2.1, cell_keep ((Below.refl _ _).alloc (Nat.le_refl _) _) KS7.2.2.1, cell_keep ((Below.refl _ _).alloc (Nat.le_refl _) _) KS7.2.2.2.1, cell_keep ((Below.refl _ _).alloc (Nat.le_refl _) _) KS7.2.2.2.2.1, cell_keep ((Below.refl _ _).alloc (Nat.le_refl _) _) KS7.2.2.2.2.2.1, cell_keep ((Below.refl _ _).alloc (Nat.le_refl _) _) KS7.2.2.2.2.2.2⟩) (fun hHeld => ?_)
            clear hK K
            (try simp only [Act.put, List.setIfInBounds_toArray, List.set_cons_zero, List.set_cons_succ])
            refine wpAnyH_ready (rs := [10]) (by kernel_rfl) (by simp) ?_
            refine AllReadyH.cons (o := { dst := some 62, op := Op.call { callee := Callee.builtin Builtin.append, args := #[Operand.tmp 56, Operand.tmp 61], argTypes := #[23, 23] }, type := 23, pos := "forge.go:261", after := #[{ on := 4, ground := Ground.data }, { on := 9, ground := Ground.data }, { on := 8, ground := Ground.chain }], guard := none }) rfl (fun K hK => ?_) AllReadyH.nil
            refine wpOp_appK (W1 := w7) (by rfl) _ _ rfl rfl L7.out HN1.out (referP (stp0 f n tx) r) lo lc (refV f a b c n tx (.slice lo q2 lc)) HCV.out rfl rfl ?_
            intro v8 w8 ho8 hg8 hl8
            have KS8 : w8.cell? ⟨w.heap.size, 0, none⟩ = some (.int .u8 f) ∧ w8.cell? ⟨w.heap.size, 1, none⟩ = some (.int .i64 0) ∧ w8.cell? ⟨w.heap.size, 2, none⟩ = some (.int .i64 0) ∧ w8.cell? ⟨w.heap.size, 3, none⟩ = some (.int .i64 0) ∧ w8.cell? ⟨w.heap.size, 4, none⟩ = some (.int .i64 n) ∧ w8.cell? ⟨w.heap.size, 5, none⟩ = some (.string tx) ∧ w8.cell? ⟨w.heap.size, 6, none⟩ = some (.slice none 0 0) := by
              exact ⟨cell_grown hg8 (World.block_lt_of_cell? _ _ KS7.1) (fun e => HOFF.out (L7.out.fk _ e.symm)) KS7.1, cell_grown hg8 (World.block_lt_of_cell? _ _ KS7.2.1) (fun e => HOFF.out (L7.out.fk _ e.symm)) KS7.2.1, cell_grown hg8 (World.block_lt_of_cell? _ _ KS7.2.2.1) (fun e => HOFF.out (L7.out.fk _ e.symm)) KS7.2.2.1, cell_grown hg8 (World.block_lt_of_cell? _ _ KS7.2.2.2.1) (fun e => HOFF.out (L7.out.fk _ e.symm)) KS7.2.2.2.1, cell_grown hg8 (World.block_lt_of_cell? _ _ KS7.2.2.2.2.1) (fun e => HOFF.out (L7.out.fk _ e.symm)) KS7.2.2.2.2.1, cell_grown hg8 (World.block_lt_of_cell? _ _ KS7.2.2.2.2.2.1) (fun e => HOFF.out (L7.out.fk _ e.symm)) KS7.2.2.2.2.2.1, cell_grown hg8 (World.block_lt_of_cell? _ _ KS7.2.2.2.2.2.2) (fun e => HOFF.out (L7.out.fk _ e.symm)) KS7.2.2.2.2.2.2⟩
            refine hK.out _ _ (by exact KS8) (fun hHeld => ?_)
            clear hK K
            (try simp only [Act.put, List.setIfInBounds_toArray, List.set_cons_zero, List.set_cons_succ])
            have hMS := L7.out.stepped ho8 hg8 hl8 IO7.out HLC.out HRF.out
            have M9 := Lib.hid hMS.1
            have T9 := Lib.hid hMS.2
            have HL9 := Lib.hid hl8
            have r81 := ly_row L7.out hg8
            have c81 : w8.cell? ⟨p, 2, none⟩ = some (.slice ko n1 kcap) := cell_of_row _ _ _ _ _ _ r81
            have f81 : w8.frozen? ⟨p, 2, none⟩ = false := frozen_row11 r81
            have c93 : (w8.setCell ⟨p, 2, none⟩ v8).cell? ⟨p, 3, none⟩ = some (.map (some ma1)) := cell_of_row _ _ _ _ _ _ hMS.1.cells
            have HLK9 := Lib.hid (hMS.1.at_.look keyed10 Try.underlying57 (zero_int11 _) HKEY.out HAT.out).1
            obtain ⟨a8, k8, c8, hv8⟩ := own_shape11 ho8
            subst hv8
            clear hMS ho8 hg8 hl8 r81
            refine wpAnyH_take (i := 11) (oi := { dst := some 63, op := Op.nilCheck (Operand.tmp 52), type := 0, pos := "forge.go:261", after := #[{ on := 0, ground := Ground.data }, { on := 0, ground := Ground.phase }, { on := 1, ground := Ground.phase }, { on := 2, ground := Ground.phase }, { on := 3, ground := Ground.phase }, { on := 4, ground := Ground.phase }, { on := 5, ground := Ground.phase }, { on := 6, ground := Ground.phase }, { on := 7, ground := Ground.phase }, { on := 8, ground := Ground.phase }, { on := 9, ground := Ground.phase }, { on := 10, ground := Ground.phase }], guard := none }) (v := ?_) rfl (by kernel_rfl) (by kernel_rfl) (by kernel_rfl) (fun _ _ _ h => h) (Or.inl ⟨by rfl, ?_⟩) (by assumption) ?_
            rotate_left 1
            · (intro w hSw; (try dsimp only at hSw); go_simp; try with_reducible rfl)
            (try simp only [Act.put, List.setIfInBounds_toArray, List.set_cons_zero, List.set_cons_succ])
            refine wpAnyH_take (i := 12) (oi := { dst := some 64, op := Op.fieldAddr 60 (Operand.tmp 63) 2, type := 0, pos := "forge.go:261", after := #[{ on := 11, ground := Ground.data }, { on := 0, ground := Ground.phase }, { on := 1, ground := Ground.phase }, { on := 2, ground := Ground.phase }, { on := 3, ground := Ground.phase }, { on := 4, ground := Ground.phase }, { on := 5, ground := Ground.phase }, { on := 6, ground := Ground.phase }, { on := 7, ground := Ground.phase }, { on := 8, ground := Ground.phase }, { on := 9, ground := Ground.phase }, { on := 10, ground := Ground.phase }], guard := none }) (v := ?_) rfl (by kernel_rfl) (by kernel_rfl) (by kernel_rfl) (fun _ _ _ h => h) (Or.inl ⟨by rfl, ?_⟩) (by assumption) ?_
            rotate_left 1
            · (intro w hSw; (try dsimp only at hSw); go_simp; try with_reducible rfl)
            (try simp only [Act.put, List.setIfInBounds_toArray, List.set_cons_zero, List.set_cons_succ])
            refine wpAnyH_ready (rs := [13]) (by kernel_rfl) (by simp) ?_
            refine AllReadyH.cons (o := { dst := none, op := Op.store 23 (Operand.tmp 64) (Operand.tmp 62), type := 0, pos := "forge.go:261", after := #[{ on := 12, ground := Ground.data }, { on := 10, ground := Ground.data }, { on := 10, ground := Ground.chain }, { on := 0, ground := Ground.phase }, { on := 1, ground := Ground.phase }, { on := 2, ground := Ground.phase }, { on := 3, ground := Ground.phase }, { on := 4, ground := Ground.phase }, { on := 5, ground := Ground.phase }, { on := 6, ground := Ground.phase }, { on := 7, ground := Ground.phase }, { on := 8, ground := Ground.phase }, { on := 9, ground := Ground.phase }, { on := 10, ground := Ground.phase }], guard := none }) rfl (fun K hK => ?_) AllReadyH.nil
            go_simp
            refine hK.out _ _ (by exact ⟨cell_set HBP.out KS8.1, cell_set HBP.out KS8.2.1, cell_set HBP.out KS8.2.2.1, cell_set HBP.out KS8.2.2.2.1, cell_set HBP.out KS8.2.2.2.2.1, cell_set HBP.out KS8.2.2.2.2.2.1, cell_set HBP.out KS8.2.2.2.2.2.2⟩) (fun hHeld => ?_)
            clear hK K
            (try simp only [Act.put, List.setIfInBounds_toArray, List.set_cons_zero, List.set_cons_succ])
            refine wpAnyH_done (by kernel_rfl) ?_ _
            go_wp2_with (first | (at_lookup; refine wpList_lookV rfl _ _ 57 false rfl _ _ _ rfl rfl HLK9.out ?_) | fail)
            go_ret
            exact ⟨T1.length, _, _, fun b' => F1 b' ∨ Value.ownBlock (.slice a8 k8 c8) = some b', rfl, by simp, HGET.out, fun _ => (by simp), Ly.fewer ⟨_, _, _, _, _, _, M9.out⟩ (fun b' e => e.elim (fun e => .inl (.inl e)) (fun e => e.elim (fun e => .inl (.inr e)) .inr)) (fun b' e => .inr e), HFIN.out, fun b' e => e.elim (HMORE.out b') (fun e => (HL9.out b' e).elim (fun e => HMORE.out b' (L7.out.fk b' e)) (fun e => .inr (Nat.le_trans HSZ.out e))), turn_trans HT7.out T9.out HMORE.out⟩
          refine AllReadyH.cons (o := { dst := some 60, op := Op.call { callee := Callee.value (Operand.func 59), args := #[Operand.tmp 58, Operand.tmp 59], argTypes := #[46, 44] }, type := 46, pos := "forge.go:261", after := #[{ on := 6, ground := Ground.data }, { on := 7, ground := Ground.data }], guard := none }) rfl (fun K hK => ?_) AllReadyH.nil
          go_simp
          refine HCALL.out.mono ?_; rintro e w7 ⟨rfl, b7⟩
          have B7 := Lib.hid b7
          have L7 := Lib.hid (L4.out.below b7)
          have IO7 : Hid (IntOut (fun b => A b ∨ F1 b) w7 lo (referP (stp0 f n tx) r).list) := Lib.hid (IO4.out.still (still_below b7))
          have HT7 := Lib.hid (turn_trans (turn_trans HT4.out (turn_below (drew11 w4)) (fun _ hb => .inl hb)) (turn_below b7) (fun _ hb => .inl hb))
          have HSZ : Hid (w.heap.size ≤ w7.heap.size) := Lib.hid (Nat.le_trans HSZ4.out b7.size)
          have KS4 := KS7
          have KS7 : w7.cell? ⟨w.heap.size, 0, none⟩ = some (.int .u8 f) ∧ w7.cell? ⟨w.heap.size, 1, none⟩ = some (.int .i64 0) ∧ w7.cell? ⟨w.heap.size, 2, none⟩ = some (.int .i64 0) ∧ w7.cell? ⟨w.heap.size, 3, none⟩ = some (.int .i64 0) ∧ w7.cell? ⟨w.heap.size, 4, none⟩ = some (.int .i64 n) ∧ w7.cell? ⟨w.heap.size, 5, none⟩ = some (.string tx) ∧ w7.cell? ⟨w.heap.size, 6, none⟩ = some (.slice none 0 0) := by exact ⟨cell_keep b7 KS4.1, cell_keep b7 KS4.2.1, cell_keep b7 KS4.2.2.1, cell_keep b7 KS4.2.2.2.1, cell_keep b7 KS4.2.2.2.2.1, cell_keep b7 KS4.2.2.2.2.2.1, cell_keep b7 KS4.2.2.2.2.2.2⟩
          have c72 : w7.cell? ⟨p, 2, none⟩ = some (.slice ko n1 kcap) := cell_keep b7 c42
          clear b7
          refine hK.out _ _ (by exact KS7) (fun hHeld => ?_)
          clear hK K
          (try simp only [Act.put, List.setIfInBounds_toArray, List.set_cons_zero, List.set_cons_succ])
          refine wpAnyH_ready (rs := [4, 9]) (by kernel_rfl) (by simp) ?_
          refine AllReadyH.cons (o := { dst := some 56, op := Op.load 23 (Operand.tmp 55), type := 23, pos := "forge.go:261", after := #[{ on := 3, ground := Ground.data }], guard := none }) rfl (fun K hK => ?_) ?_
          · go_simp
            refine hK.out _ _ (by exact KS7) (fun hHeld => ?_)
            clear hK K
            (try simp only [Act.put, List.setIfInBounds_toArray, List.set_cons_zero, List.set_cons_succ])
            refine wpAnyH_ready (rs := [9]) (by kernel_rfl) (by simp) ?_
            refine AllReadyH.cons (o := { dst := some 61, op := Op.buildSlice 23 1 #[(0, Operand.tmp 60)], type := 23, pos := "forge.go:261", after := #[{ on := 8, ground := Ground.data }], guard := none }) rfl (fun K hK => ?_) AllReadyH.nil
            go_simp
            refine hK.out _ _ (by exact ⟨cell_keep ((Below.refl _ _).alloc (Nat.le_refl _) _) KS7.1, cell_keep ((Below.refl _ _).alloc (Nat.le_refl _) _) KS7.2.1, cell_keep ((Below.refl _ _).alloc (Nat.le_refl _) _) KS7.2.2.1, cell_keep ((Below.refl _ _).alloc (Nat.le_refl _) _) KS7.2.2.2.1, cell_keep ((Below.refl _ _).alloc (Nat.le_refl _) _) KS7.2.2.2.2.1, cell_keep ((Below.refl _ _).alloc (Nat.le_refl _) _) KS7.2.2.2.2.2.1, cell_keep ((Below.refl _ _).alloc (Nat.le_refl _) _) KS7.2.2.2.2.2.2⟩) (fun hHeld => ?_)
            clear hK K
            (try simp only [Act.put, List.setIfInBounds_toArray, List.set_cons_zero, List.set_cons_succ])
            refine wpAnyH_ready (rs := [10]) (by kernel_rfl) (by simp) ?_
            refine AllReadyH.cons (o := { dst := some 62, op := Op.call { callee := Callee.builtin Builtin.append, args := #[Operand.tmp 56, Operand.tmp 61], argTypes := #[23, 23] }, type := 23, pos := "forge.go:261", after := #[{ on := 4, ground := Ground.data }, { on := 9, ground := Ground.data }, { on := 8, ground := Ground.chain }], guard := none }) rfl (fun K hK => ?_) AllReadyH.nil
            refine wpOp_appK (W1 := w7) (by rfl) _ _ rfl rfl L7.out HN1.out (referP (stp0 f n tx) r) lo lc (refV f a b c n tx (.slice lo q2 lc)) HCV.out rfl rfl ?_
            intro v8 w8 ho8 hg8 hl8
            have KS8 : w8.cell? ⟨w.heap.size, 0, none⟩ = some (.int .u8 f) ∧ w8.cell? ⟨w.heap.size, 1, none⟩ = some (.int .i64 0) ∧ w8.cell? ⟨w.heap.size, 2, none⟩ = some (.int .i64 0) ∧ w8.cell? ⟨w.heap.size, 3, none⟩ = some (.int .i64 0) ∧ w8.cell? ⟨w.heap.size, 4, none⟩ = some (.int .i64 n) ∧ w8.cell? ⟨w.heap.size, 5, none⟩ = some (.string tx) ∧ w8.cell? ⟨w.heap.size, 6, none⟩ = some (.slice none 0 0) := by
              exact ⟨cell_grown hg8 (World.block_lt_of_cell? _ _ KS7.1) (fun e => HOFF.out (L7.out.fk _ e.symm)) KS7.1, cell_grown hg8 (World.block_lt_of_cell? _ _ KS7.2.1) (fun e => HOFF.out (L7.out.fk _ e.symm)) KS7.2.1, cell_grown hg8 (World.block_lt_of_cell? _ _ KS7.2.2.1) (fun e => HOFF.out (L7.out.fk _ e.symm)) KS7.2.2.1, cell_grown hg8 (World.block_lt_of_cell? _ _ KS7.2.2.2.1) (fun e => HOFF.out (L7.out.fk _ e.symm)) KS7.2.2.2.1, cell_grown hg8 (World.block_lt_of_cell? _ _ KS7.2.2.2.2.1) (fun e => HOFF.out (L7.out.fk _ e.symm)) KS7.2.2.2.2.1, cell_grown hg8 (World.block_lt_of_cell? _ _ KS7.2.2.2.2.2.1) (fun e => HOFF.out (L7.out.fk _ e.symm)) KS7.2.2.2.2.2.1, cell_grown hg8 (World.block_lt_of_cell? _ _ KS7.2.2.2.2.2.2) (fun e => HOFF.out (L7.out.fk _ e.symm)) KS7.2.2.2.2.2.2⟩
            refine hK.out _ _ (by exact KS8) (fun hHeld => ?_)
            clear hK K
            (try simp only [Act.put, List.setIfInBounds_toArray, List.set_cons_zero, List.set_cons_succ])
            have hMS := L7.out.stepped ho8 hg8 hl8 IO7.out HLC.out HRF.out
            have M9 := Lib.hid hMS.1
            have T9 := Lib.hid hMS.2
            have HL9 := Lib.hid hl8
            have r81 := ly_row L7.out hg8
            have c81 : w8.cell? ⟨p, 2, none⟩ = some (.slice ko n1 kcap) := cell_of_row _ _ _ _ _ _ r81
            have f81 : w8.frozen? ⟨p, 2, none⟩ = false := frozen_row11 r81
            have c93 : (w8.setCell ⟨p, 2, none⟩ v8).cell? ⟨p, 3, none⟩ = some (.map (some ma1)) := cell_of_row _ _ _ _ _ _ hMS.1.cells
            have HLK9 := Lib.hid (hMS.1.at_.look keyed10 Try.underlying57 (zero_int11 _) HKEY.out HAT.out).1
            obtain ⟨a8, k8, c8, hv8⟩ := own_shape11 ho8
            subst hv8
            clear hMS ho8 hg8 hl8 r81
            refine wpAnyH_take (i := 11) (oi := { dst := some 63, op := Op.nilCheck (Operand.tmp 52), type := 0, pos := "forge.go:261", after := #[{ on := 0, ground := Ground.data }, { on := 0, ground := Ground.phase }, { on := 1, ground := Ground.phase }, { on := 2, ground := Ground.phase }, { on := 3, ground := Ground.phase }, { on := 4, ground := Ground.phase }, { on := 5, ground := Ground.phase }, { on := 6, ground := Ground.phase }, { on := 7, ground := Ground.phase }, { on := 8, ground := Ground.phase }, { on := 9, ground := Ground.phase }, { on := 10, ground := Ground.phase }], guard := none }) (v := ?_) rfl (by kernel_rfl) (by kernel_rfl) (by kernel_rfl) (fun _ _ _ h => h) (Or.inl ⟨by rfl, ?_⟩) (by assumption) ?_
            rotate_left 1
            · (intro w hSw; (try dsimp only at hSw); go_simp; try with_reducible rfl)
            (try simp only [Act.put, List.setIfInBounds_toArray, List.set_cons_zero, List.set_cons_succ])
            refine wpAnyH_take (i := 12) (oi := { dst := some 64, op := Op.fieldAddr 60 (Operand.tmp 63) 2, type := 0, pos := "forge.go:261", after := #[{ on := 11, ground := Ground.data }, { on := 0, ground := Ground.phase }, { on := 1, ground := Ground.phase }, { on := 2, ground := Ground.phase }, { on := 3, ground := Ground.phase }, { on := 4, ground := Ground.phase }, { on := 5, ground := Ground.phase }, { on := 6, ground := Ground.phase }, { on := 7, ground := Ground.phase }, { on := 8, ground := Ground.phase }, { on := 9, ground := Ground.phase }, { on := 10, ground := Ground.phase }], guard := none }) (v := ?_) rfl (by kernel_rfl) (by kernel_rfl) (by kernel_rfl) (fun _ _ _ h => h) (Or.inl ⟨by rfl, ?_⟩) (by assumption) ?_
            rotate_left 1
            · (intro w hSw; (try dsimp only at hSw); go_simp; try with_reducible rfl)
            (try simp only [Act.put, List.setIfInBounds_toArray, List.set_cons_zero, List.set_cons_succ])
            refine wpAnyH_ready (rs := [13]) (by kernel_rfl) (by simp) ?_
            refine AllReadyH.cons (o := { dst := none, op := Op.store 23 (Operand.tmp 64) (Operand.tmp 62), type := 0, pos := "forge.go:261", after := #[{ on := 12, ground := Ground.data }, { on := 10, ground := Ground.data }, { on := 10, ground := Ground.chain }, { on := 0, ground := Ground.phase }, { on := 1, ground := Ground.phase }, { on := 2, ground := Ground.phase }, { on := 3, ground := Ground.phase }, { on := 4, ground := Ground.phase }, { on := 5, ground := Ground.phase }, { on := 6, ground := Ground.phase }, { on := 7, ground := Ground.phase }, { on := 8, ground := Ground.phase }, { on := 9, ground := Ground.phase }, { on := 10, ground := Ground.phase }], guard := none }) rfl (fun K hK => ?_) AllReadyH.nil
            go_simp
            refine hK.out _ _ (by exact ⟨cell_set HBP.out KS8.1, cell_set HBP.out KS8.2.1, cell_set HBP.out KS8.2.2.1, cell_set HBP.out KS8.2.2.2.1, cell_set HBP.out KS8.2.2.2.2.1, cell_set HBP.out KS8.2.2.2.2.2.1, cell_set HBP.out KS8.2.2.2.2.2.2⟩) (fun hHeld => ?_)
            clear hK K
            (try simp only [Act.put, List.setIfInBounds_toArray, List.set_cons_zero, List.set_cons_succ])
            refine wpAnyH_done (by kernel_rfl) ?_ _
            go_wp2_with (first | (at_lookup; refine wpList_lookV rfl _ _ 57 false rfl _ _ _ rfl rfl HLK9.out ?_) | fail)
            go_ret
            exact ⟨T1.length, _, _, fun b' => F1 b' ∨ Value.ownBlock (.slice a8 k8 c8) = some b', rfl, by simp, HGET.out, fun _ => (by simp), Ly.fewer ⟨_, _, _, _, _, _, M9.out⟩ (fun b' e => e.elim (fun e => .inl (.inl e)) (fun e => e.elim (fun e => .inl (.inr e)) .inr)) (fun b' e => .inr e), HFIN.out, fun b' e => e.elim (HMORE.out b') (fun e => (HL9.out b' e).elim (fun e => HMORE.out b' (L7.out.fk b' e)) (fun e => .inr (Nat.le_trans HSZ.out e))), turn_trans HT7.out T9.out HMORE.out⟩
          refine AllReadyH.cons (o := { dst := some 61, op := Op.buildSlice 23 1 #[(0, Operand.tmp 60)], type := 23, pos := "forge.go:261", after := #[{ on := 8, ground := Ground.data }], guard := none }) rfl (fun K hK => ?_) AllReadyH.nil
          go_simp
          refine hK.out _ _ (by exact ⟨cell_keep ((Below.refl _ _).alloc (Nat.le_refl _) _) KS7.1, cell_keep ((Below.refl _ _).alloc (Nat.le_refl _) _) KS7.2.1, cell_keep ((Below.refl _ _).alloc (Nat.le_refl _) _) KS7.2.2.1, cell_keep ((Below.refl _ _).alloc (Nat.le_refl _) _) KS7.2.2.2.1, cell_keep ((Below.refl _ _).alloc (Nat.le_refl _) _) KS7.2.2.2.2.1, cell_keep ((Below.refl _ _).alloc (Nat.le_refl _) _) KS7.2.2.2.2.2.1, cell_keep ((Below.refl _ _).alloc (Nat.le_refl _) _) KS7.2.2.2.2.2.2⟩) (fun hHeld => ?_)
          clear hK K
          (try simp only [Act.put, List.setIfInBounds_toArray, List.set_cons_zero, List.set_cons_succ])
          have c73 : (w7.alloc (.cells (refV f a b c n tx (.slice lo q2 lc)) 46)).cell? ⟨p, 2, none⟩ = some (.slice ko n1 kcap) := cell_keep ((Below.refl _ _).alloc (Nat.le_refl _) _) c72
          refine wpAnyH_ready (rs := [4]) (by kernel_rfl) (by simp) ?_
          refine AllReadyH.cons (o := { dst := some 56, op := Op.load 23 (Operand.tmp 55), type := 23, pos := "forge.go:261", after := #[{ on := 3, ground := Ground.data }], guard := none }) rfl (fun K hK => ?_) AllReadyH.nil
          go_simp
          refine hK.out _ _ (by exact ⟨cell_keep ((Below.refl _ _).alloc (Nat.le_refl _) _) KS7.1, cell_keep ((Below.refl _ _).alloc (Nat.le_refl _) _) KS7.2.1, cell_keep ((Below.refl _ _).alloc (Nat.le_refl _) _) KS7.2.2.1, cell_keep ((Below.refl _ _).alloc (Nat.le_refl _) _) KS7.2.2.2.1, cell_keep ((Below.refl _ _).alloc (Nat.le_refl _) _) KS7.2.2.2.2.1, cell_keep ((Below.refl _ _).alloc (Nat.le_refl _) _) KS7.2.2.2.2.2.1, cell_keep ((Below.refl _ _).alloc (Nat.le_refl _) _) KS7.2.2.2.2.2.2⟩) (fun hHeld => ?_)
          clear hK K
          (try simp only [Act.put, List.setIfInBounds_toArray, List.set_cons_zero, List.set_cons_succ])
          clear c73
          refine wpAnyH_ready (rs := [10]) (by kernel_rfl) (by simp) ?_
          refine AllReadyH.cons (o := { dst := some 62, op := Op.call { callee := Callee.builtin Builtin.append, args := #[Operand.tmp 56, Operand.tmp 61], argTypes := #[23, 23] }, type := 23, pos := "forge.go:261", after := #[{ on := 4, ground := Ground.data }, { on := 9, ground := Ground.data }, { on := 8, ground := Ground.chain }], guard := none }) rfl (fun K hK => ?_) AllReadyH.nil
          refine wpOp_appK (W1 := w7) (by rfl) _ _ rfl rfl L7.out HN1.out (referP (stp0 f n tx) r) lo lc (refV f a b c n tx (.slice lo q2 lc)) HCV.out rfl rfl ?_
          intro v8 w8 ho8 hg8 hl8
          have KS8 : w8.cell? ⟨w.heap.size, 0, none⟩ = some (.int .u8 f) ∧ w8.cell? ⟨w.heap.size, 1, none⟩ = some (.int .i64 0) ∧ w8.cell? ⟨w.heap.size, 2, none⟩ = some (.int .i64 0) ∧ w8.cell? ⟨w.heap.size, 3, none⟩ = some (.int .i64 0) ∧ w8.cell? ⟨w.heap.size, 4, none⟩ = some (.int .i64 n) ∧ w8.cell? ⟨w.heap.size, 5, none⟩ = some (.string tx) ∧ w8.cell? ⟨w.heap.size, 6, none⟩ = some (.slice none 0 0) := by
            exact ⟨cell_grown hg8 (World.block_lt_of_cell? _ _ KS7.1) (fun e => HOFF.out (L7.out.fk _ e.symm)) KS7.1, cell_grown hg8 (World.block_lt_of_cell? _ _ KS7.2.1) (fun e => HOFF.out (L7.out.fk _ e.symm)) KS7.2.1, cell_grown hg8 (World.block_lt_of_cell? _ _ KS7.2.2.1) (fun e => HOFF.out (L7.out.fk _ e.symm)) KS7.2.2.1, cell_grown hg8 (World.block_lt_of_cell? _ _ KS7.2.2.2.1) (fun e => HOFF.out (L7.out.fk _ e.symm)) KS7.2.2.2.1, cell_grown hg8 (World.block_lt_of_cell? _ _ KS7.2.2.2.2.1) (fun e => HOFF.out (L7.out.fk _ e.symm)) KS7.2.2.2.2.1, cell_grown hg8 (World.block_lt_of_cell? _ _ KS7.2.2.2.2.2.1) (fun e => HOFF.out (L7.out.fk _ e.symm)) KS7.2.2.2.2.2.1, cell_grown hg8 (World.block_lt_of_cell? _ _ KS7.2.2.2.2.2.2) (fun e => HOFF.out (L7.out.fk _ e.symm)) KS7.2.2.2.2.2.2⟩
          refine hK.out _ _ (by exact KS8) (fun hHeld => ?_)
          clear hK K
          (try simp only [Act.put, List.setIfInBounds_toArray, List.set_cons_zero, List.set_cons_succ])
          have hMS := L7.out.stepped ho8 hg8 hl8 IO7.out HLC.out HRF.out
          have M9 := Lib.hid hMS.1
          have T9 := Lib.hid hMS.2
          have HL9 := Lib.hid hl8
          have r81 := ly_row L7.out hg8
          have c81 : w8.cell? ⟨p, 2, none⟩ = some (.slice ko n1 kcap) := cell_of_row _ _ _ _ _ _ r81
          have f81 : w8.frozen? ⟨p, 2, none⟩ = false := frozen_row11 r81
          have c93 : (w8.setCell ⟨p, 2, none⟩ v8).cell? ⟨p, 3, none⟩ = some (.map (some ma1)) := cell_of_row _ _ _ _ _ _ hMS.1.cells
          have HLK9 := Lib.hid (hMS.1.at_.look keyed10 Try.underlying57 (zero_int11 _) HKEY.out HAT.out).1
          obtain ⟨a8, k8, c8, hv8⟩ := own_shape11 ho8
          subst hv8
          clear hMS ho8 hg8 hl8 r81
          refine wpAnyH_take (i := 11) (oi := { dst := some 63, op := Op.nilCheck (Operand.tmp 52), type := 0, pos := "forge.go:261", after := #[{ on := 0, ground := Ground.data }, { on := 0, ground := Ground.phase }, { on := 1, ground := Ground.phase }, { on := 2, ground := Ground.phase }, { on := 3, ground := Ground.phase }, { on := 4, ground := Ground.phase }, { on := 5, ground := Ground.phase }, { on := 6, ground := Ground.phase }, { on := 7, ground := Ground.phase }, { on := 8, ground := Ground.phase }, { on := 9, ground := Ground.phase }, { on := 10, ground := Ground.phase }], guard := none }) (v := ?_) rfl (by kernel_rfl) (by kernel_rfl) (by kernel_rfl) (fun _ _ _ h => h) (Or.inl ⟨by rfl, ?_⟩) (by assumption) ?_
          rotate_left 1
          · (intro w hSw; (try dsimp only at hSw); go_simp; try with_reducible rfl)
          (try simp only [Act.put, List.setIfInBounds_toArray, List.set_cons_zero, List.set_cons_succ])
          refine wpAnyH_take (i := 12) (oi := { dst := some 64, op := Op.fieldAddr 60 (Operand.tmp 63) 2, type := 0, pos := "forge.go:261", after := #[{ on := 11, ground := Ground.data }, { on := 0, ground := Ground.phase }, { on := 1, ground := Ground.phase }, { on := 2, ground := Ground.phase }, { on := 3, ground := Ground.phase }, { on := 4, ground := Ground.phase }, { on := 5, ground := Ground.phase }, { on := 6, ground := Ground.phase }, { on := 7, ground := Ground.phase }, { on := 8, ground := Ground.phase }, { on := 9, ground := Ground.phase }, { on := 10, ground := Ground.phase }], guard := none }) (v := ?_) rfl (by kernel_rfl) (by kernel_rfl) (by kernel_rfl) (fun _ _ _ h => h) (Or.inl ⟨by rfl, ?_⟩) (by assumption) ?_
          rotate_left 1
          · (intro w hSw; (try dsimp only at hSw); go_simp; try with_reducible rfl)
          (try simp only [Act.put, List.setIfInBounds_toArray, List.set_cons_zero, List.set_cons_succ])
          refine wpAnyH_ready (rs := [13]) (by kernel_rfl) (by simp) ?_
          refine AllReadyH.cons (o := { dst := none, op := Op.store 23 (Operand.tmp 64) (Operand.tmp 62), type := 0, pos := "forge.go:261", after := #[{ on := 12, ground := Ground.data }, { on := 10, ground := Ground.data }, { on := 10, ground := Ground.chain }, { on := 0, ground := Ground.phase }, { on := 1, ground := Ground.phase }, { on := 2, ground := Ground.phase }, { on := 3, ground := Ground.phase }, { on := 4, ground := Ground.phase }, { on := 5, ground := Ground.phase }, { on := 6, ground := Ground.phase }, { on := 7, ground := Ground.phase }, { on := 8, ground := Ground.phase }, { on := 9, ground := Ground.phase }, { on := 10, ground := Ground.phase }], guard := none }) rfl (fun K hK => ?_) AllReadyH.nil
          go_simp
          refine hK.out _ _ (by exact ⟨cell_set HBP.out KS8.1, cell_set HBP.out KS8.2.1, cell_set HBP.out KS8.2.2.1, cell_set HBP.out KS8.2.2.2.1, cell_set HBP.out KS8.2.2.2.2.1, cell_set HBP.out KS8.2.2.2.2.2.1, cell_set HBP.out KS8.2.2.2.2.2.2⟩) (fun hHeld => ?_)
          clear hK K
          (try simp only [Act.put, List.setIfInBounds_toArray, List.set_cons_zero, List.set_cons_succ])
          refine wpAnyH_done (by kernel_rfl) ?_ _
          go_wp2_with (first | (at_lookup; refine wpList_lookV rfl _ _ 57 false rfl _ _ _ rfl rfl HLK9.out ?_) | fail)
          go_ret
          exact ⟨T1.length, _, _, fun b' => F1 b' ∨ Value.ownBlock (.slice a8 k8 c8) = some b', rfl, by simp, HGET.out, fun _ => (by simp), Ly.fewer ⟨_, _, _, _, _, _, M9.out⟩ (fun b' e => e.elim (fun e => .inl (.inl e)) (fun e => e.elim (fun e => .inl (.inr e)) .inr)) (fun b' e => .inr e), HFIN.out, fun b' e => e.elim (HMORE.out b') (fun e => (HL9.out b' e).elim (fun e => HMORE.out b' (L7.out.fk b' e)) (fun e => .inr (Nat.le_trans HSZ.out e))), turn_trans HT7.out T9.out HMORE.out⟩
end Go.Proofs.Ytpajcalfjfkogaa.Pl

namespace Go.Proofs.Ytpajcalfjfkogaa.Pl
open Go.RowKit Go.Maps

/-- How much is closed up, as memory tells. -/
def wtMem (p : Nat) (w : World) : Nat := match w.cell? ⟨p, 1, none⟩ with
  | some (.slice (some a) n _) => ((List.range n).map fun j => (match w.cell? ⟨a.block, j * 3 + 2, none⟩ with | some (.string s) => s.size + 1 | _ => 0)).sum
  | _ => 0
theorem wt_mem {w : World} {F : Nat → Prop} {p mm ma : Nat} {E : List Ent} {S : List Shut} {sv : Value} {V : List Value} (h : MkA w F p E S mm ma sv V) : wtMem p w = wtS S := by
  have hc : w.cell? ⟨p, 1, none⟩ = some sv := cell_of_row _ _ _ _ _ _ h.cells
  obtain ⟨ao, cap, e, hr⟩ := ownC_row h.seals
  unfold wtMem
  rw [hc, e]
  rcases hr with hr | ⟨g, e2, _, hc⟩
  · rw [hr]
    cases ao <;> rfl
  · rw [e2]
    show ((List.range S.length).map _).sum = wtS S
    unfold wtS
    congr 1
    refine List.ext_getElem (by simp) fun j h1 h2 => ?_
    have hj : j < S.length := by simpa using h1
    rw [List.getElem_map, List.getElem_map, List.getElem_range]
    rw [(hc j hj).2.2]
    show (tb10 (S[j]).b).size + 1 = _
    rw [size_bl]
    rfl
theorem LyA.row {w : World} {F A : Nat → Prop} {p mm ma : Nat} {E : List Ent} {ss : List Stp} {T : List (List UInt8)} {sv kv : Value} {V cs : List Value} (h : LyA w F A p E ss T mm ma sv kv V cs) : ∃ ao cap, kv = .slice ao ss.length cap ∧ StpRow w ao ss ∧ (ao = none → cap = 0) := by
  have h1 := h.rows
  have h1' := h1
  have h2 : flatS w cs ss := flatG_S (flatG_mono (fun _ _ k => k.row) h.flat)
  rcases h1.2 with ⟨hv, hn⟩ | ⟨g, cap, cur, hv, _, hg, _⟩
  · exact ⟨none, 0, by rw [hv, hn], .inl (List.length_eq_zero_iff.1 hn), fun _ => rfl⟩
  · refine ⟨some ⟨g, 0, none⟩, cap, hv, .inr ⟨g, 0, rfl, (Array.getElem?_eq_some_iff.1 hg).1, fun j hj => ?_⟩, fun h => by cases h⟩
    obtain ⟨⟨lo, lc, g1, g2, g3⟩, g4⟩ := flat_at h2 j hj
    refine ⟨⟨lo, lc, fun k hk => ?_, g1, g2⟩, g4⟩
    have := h1'.cells (g := g) (by rw [hv]; rfl) _ _ (g3 k hk)
    rw [addr_add] at this
    rw [← this]
    congr 2
    omega
variable {was : List (List UInt8)} {U : Tm → Prop}
set_option maxHeartbeats 8000000 in
set_option maxRecDepth 100000 in
theorem comp11_none (s : ByteArray) (hs : s.size ≤ 281474976710656) (hc : checkP (bl s) ≠ 0) (p : Nat) (E : List Ent) (S : List Shut) (F : Nat → Prop) (w : World) (hq : Mk w F p E S) (hg : Good was U E) :
    Calls Try.prog 32 #[ptr11 p, .string s] w fun e w' => e = .returned (.bool false) ∧ Below w.heap.size w w' := by
  have hkey := key10 s hs
  obtain ⟨mm, ma, sv, V, hA⟩ := hq
  have cp : w.cell? ⟨p, 0, none⟩ = some (.map (some mm)) := cell_of_row _ _ _ _ _ _ hA.cells
  have hE : bl s ∉ keysE E := fun hin => by
    obtain ⟨T, hv, _, e⟩ := hg.inU _ hin
    exact hc (by rw [← e]; exact check_enc hv)
  have HLK := Lib.hid (fun V2 (hb : Below w.heap.size w V2) => ((hA.made.below hb).miss keyed10 Try.underlying56 (zero_org V2) hkey (fun k => hE ((prs_key hA.len _).1 k))).2)
  have HK := Lib.hid (fun V => tkind_any s hs V)
  have h0 : kindP (bl s) = 0 := by unfold kindP; rw [if_neg hc]
  rw [h0] at HK
  have HCO := Lib.hid (fun V => composing_any 0 (by decide) V)
  have B1 := Lib.hid ((Below.refl w.heap.size w).alloc (Nat.le_refl _) (.cells #[.int .u8 0, .int .i64 0, .int .i64 0, .int .i64 0, .int .i64 0, .string ⟨#[]⟩, .slice none 0 0, .slice none 0 0] 96))
  clear hkey hA hE h0 hc hs hg
  go_enter Try.func32, Try.ntmps32
  go_wp2_with (first | (at_lookup; refine wpList_lookV rfl _ _ 56 true rfl _ _ _ rfl rfl (HLK.out _ (Below.refl _ _)) ?_) | fail)
  refine (HK.out _).mono ?_; rintro e w2 ⟨rfl, b2⟩
  have B2 := Lib.hid (below_step B1.out b2)
  clear b2
  go_wp2_with fail
  refine (HCO.out _).mono ?_; rintro e w3 ⟨rfl, b3⟩
  have B3 := Lib.hid (below_step B2.out b3)
  clear b3
  rw [show ((doOf 0 : Nat) : Int) = 0 from rfl]
  go_wp2_with fail
  go_ret
  exact ⟨rfl, B3.out⟩
/-- What holds while How takes what was seen, and opens. -/
structure HowIn (was : List (List UInt8)) (U : Tm → Prop) (p : Nat) (w wr : World) (i : Nat) (E : List Ent) (S : List Shut) (F : Nat → Prop) : Prop where
  isMk : Mk wr F p E S
  good : Good was U E
  slok : SlOK U E S
  closed : Closed E S
  wt : wtS S ≤ ((was.take i).map List.length).sum
  seen : ∀ x ∈ was.take i, checkP x = 0 → x ∈ keysE E
  fresh : ∀ b, F b → w.heap.size ≤ b
  below : Below w.heap.size w wr
variable {p i : Nat} {w wr w' : World} {E E' : List Ent} {S S' : List Shut} {F F' : Nat → Prop}
theorem HowIn.turned (hb : Below w.heap.size w wr) (hf : ∀ b, F b → w.heap.size ≤ b) (ht : Turn F wr w') : Below w.heap.size w w' := hb.trans (turn_to ht hf hb.size)
theorem sum_take {L : List (List UInt8)} {i : Nat} (hi : i < L.length) : ((L.take (i + 1)).map List.length).sum = ((L.take i).map List.length).sum + L[i].length := by
  rw [List.take_succ_eq_append_getElem hi, List.map_append, List.sum_append]
  simp
theorem sum_take_le (L : List (List UInt8)) (i : Nat) : ((L.take i).map List.length).sum ≤ (L.map List.length).sum := by
  have h : L = L.take i ++ L.drop i := (List.take_append_drop _ _).symm
  rw [congrArg (fun x => (List.map List.length x).sum) h, List.map_append, List.sum_append]
  omega
theorem HowIn.took (h : HowIn was U p w wr i E S F) (hi : i < was.length) {T : Tm} (hT : T.enc = was[i]) (k : Took was U E S [T] E' S') (hm : Mk w' F' p E' S') (hF : ∀ b, F' b → F b ∨ wr.heap.size ≤ b) (ht : Turn F wr w') : HowIn was U p w w' (i + 1) E' S' F' := by
  refine ⟨hm, k.good, k.slok, fun T' hT' => ?_, ?_, fun x hx hc => ?_, fun b hb => ?_, HowIn.turned h.below h.fresh ht⟩
  · by_cases h1 : T'.enc ∈ keysE E
    · exact closedAt_mono (h.closed T' ⟨hT'.1, h1⟩) k.ext (fun c hc => k.sl.subset hc)
    · exact k.new T' hT' h1
  · have h1 := k.wt
    have h2 := h.wt
    simp only [encs, List.append_nil] at h1
    rw [sum_take hi, ← hT]
    omega
  · rw [List.take_succ_eq_append_getElem hi] at hx
    rcases List.mem_append.1 hx with hx | hx
    · exact keysE_mono k.ext (h.seen x hx hc)
    · rw [List.mem_singleton.1 hx, ← hT]
      exact k.mem T (by simp)
  · have := h.below.size
    rcases hF b hb with q | q
    · exact h.fresh b q
    · omega
theorem HowIn.skip (h : HowIn was U p w wr i E S F) (hi : i < was.length) (hc : checkP was[i] ≠ 0) (hb : Below wr.heap.size wr w') : HowIn was U p w w' (i + 1) E S F := by
  refine ⟨h.isMk.kept hb, h.good, h.slok, h.closed, ?_, fun x hx hc2 => ?_, h.fresh, h.below.trans (hb.mono h.below.size)⟩
  · have h2 := h.wt
    rw [sum_take hi]
    omega
  · rw [List.take_succ_eq_append_getElem hi] at hx
    rcases List.mem_append.1 hx with hx | hx
    · exact h.seen x hx hc2
    · rw [List.mem_singleton.1 hx] at hc2
      exact absurd hc2 hc
theorem HowIn.still (h : HowIn was U p w wr i E S F) (hb : Below wr.heap.size wr w') : HowIn was U p w w' i E S F :=
  ⟨h.isMk.kept hb, h.good, h.slok, h.closed, h.wt, h.seen, h.fresh, h.below.trans (hb.mono h.below.size)⟩
theorem HowIn.opened (h : HowIn was U p w wr i E S F) {op : Bool} (k : Opn was U E S S.length op E' S') (hm : Mk w' F' p E' S') (hF : ∀ b, F' b → F b ∨ wr.heap.size ≤ b) (ht : Turn F wr w') : HowIn was U p w w' i E' S' F' ∧ wtS S' + (if op then 1 else 0) ≤ wtS S := by
  have h1 := k.slok
  have h2 := k.closed
  have h3 := k.wt
  rw [List.drop_length, List.append_nil] at h1 h2 h3
  refine ⟨⟨hm, k.good, h1, h2, ?_, fun x hx hc => keysE_mono k.ext (h.seen x hx hc), fun b hb => ?_, HowIn.turned h.below h.fresh ht⟩, h3⟩
  · have := h.wt
    omega
  · have := h.below.size
    rcases hF b hb with q | q
    · exact h.fresh b q
    · omega
/-- What How is to leave. -/
def HowPost (was : List (List UInt8)) (t : List UInt8) (w : World) : Ending → World → Prop := fun e w' =>
  ∃ (v : Value) (b : Bool), e = .returned (.tuple #[v, .bool b]) ∧ (b = true ↔ canP was t) ∧ (b = false → v = .slice none 0 0) ∧ (b = true → ∃ (ao : Option Addr) (cap : Nat) (ss : List Stp) (T : List (List UInt8)), v = .slice ao ss.length cap ∧ StpRow w' ao ss ∧ (ao = none → cap = 0) ∧ (∀ s ∈ ss, s.text.size ≤ 1024) ∧ ss.length ≤ 12000 ∧ stepsP was ss [] = (T, 0, 0) ∧ T.getLast? = some t) ∧ Below w.heap.size w w'
end Go.Proofs.Ytpajcalfjfkogaa.Pl

namespace Go.Proofs.Ytpajcalfjfkogaa.Pl
open Go.RowKit Go.Maps

variable {was : List (List UInt8)} {U : Tm → Prop}
set_option maxHeartbeats 8000000 in
set_option maxRecDepth 100000 in
theorem how11_any (l : List ByteArray) (ao : Option Addr) (cap : Nat) (hlen : l.length ≤ 1000000) (hl : ((l.map bl).map List.length).sum ≤ 6000) (s : ByteArray) (hs : s.size ≤ 6000) (w : World) (hrow : TxtRow w ao l) (hM : MX w) :
    Calls Try.prog 17 #[.slice ao l.length cap, .string s] w (HowPost (l.map bl) (bl s) w) := by
  have hmm := @run_makeMap Try.prog
  obtain ⟨U, hUd⟩ : ∃ U, U = InS (l.map bl ++ [bl s]) := ⟨_, rfl⟩
  have hU : ∀ h l', U (.node h l') → ∀ t ∈ l', U t := fun h l' k => by rw [hUd] at k ⊢; exact inS_part k
  have hself : ∀ T : Tm, T.valid → T.enc ∈ l.map bl ++ [bl s] → U T := fun T hT k => by rw [hUd]; exact inS_self hT k
  have hbulk : ((l.map bl ++ [bl s]).map List.length).sum ≤ 12000 := by
    rw [List.map_append, List.sum_append, List.map_cons, List.map_nil, List.sum_cons, List.sum_nil]
    have := size_bl s
    omega
  have hfew : ∀ E, Good (l.map bl) U E → E.length ≤ 12000 := fun E hg => by
    rw [hUd] at hg
    have := keys_few hg (T := keysE E) hg.nodup (fun _ h => h)
    unfold keysE at this
    rw [List.length_map] at this
    omega
  have hfin : ∀ E, Good (l.map bl) U E → E.length ≤ 1000000 := fun E hg => by have := hfew E hg; omega
  have HSP := Lib.hid (hasspace11_any l ao cap hlen hl w hrow hM)
  have HU := Lib.hid hU
  have HSELF := Lib.hid hself
  have HFEW := Lib.hid hfew
  have HFIN := Lib.hid hfin
  have HROW := Lib.hid hrow
  have HL := Lib.hid hl
  have HLEN := Lib.hid hlen
  have HS := Lib.hid hs
  obtain ⟨z, hz⟩ : ∃ z, z = l.length := ⟨_, rfl⟩
  have HZ := Lib.hid hz
  rw [← hz] at HSP ⊢
  clear hUd hU hself hbulk hfew hfin hrow hM hlen hl hs hz
  go_enter Try.func17, Try.ntmps17
  go_wp2_with fail
  refine HSP.out.mono ?_; rintro e w1 ⟨rfl, b1⟩
  have B1 := Lib.hid b1
  clear b1 HSP
  obtain ⟨p, hp⟩ : ∃ p, p = w1.heap.size + 1 + 1 := ⟨_, rfl⟩
  obtain ⟨W4, hW4⟩ : ∃ V2, V2 = ((w1.alloc (.map #[] 0)).alloc (.map #[] 0)).alloc (.cells #[.map (some w1.heap.size), .slice none 0 0, .slice none 0 0, .map (some (w1.heap.size + 1))] 60) := ⟨_, rfl⟩
  have n1 : (w1.alloc (.map #[] 0)).heap.size = w1.heap.size + 1 := by simp
  have n2 : ((w1.alloc (.map #[] 0)).alloc (.map #[] 0)).heap.size = w1.heap.size + 1 + 1 := by simp
  have IN0 : Hid (HowIn (l.map bl) U p w W4 0 [] [] (fun b => w1.heap.size ≤ b ∧ b < w1.heap.size + 3)) := Lib.hid (by
    have hb : Below w.heap.size w W4 := by
      rw [hW4]
      have := B1.out.size
      exact ((B1.out.alloc this _).alloc (by simp; omega) _).alloc (by simp; omega) _
    have hc := Go.heap_alloc_new ((w1.alloc (.map #[] 0)).alloc (.map #[] 0)) (.cells #[.map (some w1.heap.size), .slice none 0 0, .slice none 0 0, .map (some (w1.heap.size + 1))] 60)
    rw [n2, ← hW4, ← hp] at hc
    have m1 : MapV W4 9 w1.heap.size [] := (mapV_new w1 9).of_block (by rw [hW4]; exact (Below.heap_alloc _ _ _ (by simp; omega)).trans (Below.heap_alloc _ _ _ (by simp)))
    have m2 : MapV W4 9 (w1.heap.size + 1) [] := by
      have := mapV_new (w1.alloc (.map #[] 0)) 9
      rw [n1] at this
      exact this.of_block (by rw [hW4]; exact Below.heap_alloc _ _ _ (by simp))
    refine ⟨⟨w1.heap.size, w1.heap.size + 1, .slice none 0 0, [], hc, rfl, m1, fun k hk => absurd hk (Nat.not_lt_zero _), ownC_nil _, m2, ⟨by omega, by omega⟩, ⟨Nat.le_refl _, by omega⟩, ⟨Nat.le_succ _, by omega⟩, fun b hb => (by cases hb), fun b hb => by rw [hW4]; simp; omega, by omega⟩, good_nil _ _, fun c hc => (by cases hc), fun T hT => (by cases hT.2), Nat.zero_le _, fun x hx => (by simp at hx), fun b hb => Nat.le_trans B1.out.size hb.1, hb⟩)
  have HW4 := Lib.hid hW4
  have HP := Lib.hid hp
  clear hW4 n1 n2 hp
  go_wp2_with fail
  rw [← HP.out, ← HW4.out]
  go_loopw [18] (fun iv wr => ∃ (i : Nat) (E : List Ent) (S : List Shut) (F : Nat → Prop), iv = .int .i64 i ∧ i ≤ z ∧ Hid (HowIn (l.map bl) U p w wr i E S F)) (fun iv _ => z - (intOf iv).toNat)
  case atStart => exact ⟨0, [], [], _, rfl, Nat.zero_le _, IN0⟩
  case round =>
    clear IN0
    obtain ⟨i, E, S, F, rfl, hiz, hI⟩ := hrel
    have hz1 : z ≤ 1000000 := by rw [HZ.out]; exact HLEN.out
    by_cases hi : i < z
    · have hi' : (i : Int) < (z : Int) := by omega
      have hil : i < l.length := by rw [← HZ.out]; exact hi
      have him : i < (l.map bl).length := by rw [List.length_map]; exact hil
      have hgi : (l.map bl)[i] = bl l[i] := List.getElem_map _
      have hsz : (l[i]).size ≤ 6000 := by
        have h1 := sum_take_le (l.map bl) (i + 1)
        rw [sum_take him, hgi] at h1
        have h2 := HL.out
        have h3 := size_bl l[i]
        omega
      have hrow := HROW.out.below hI.out.below
      rcases hrow with e | ⟨g, off, rfl, hlt, hc⟩
      · rw [e] at hil
        exact absurd hil (Nat.not_lt_zero _)
      have ck := hc i hil
      rw [show l.getD i ByteArray.empty = l[i] by simp [List.getD_eq_getElem?_getD, hil]] at ck
      have HCH := Lib.hid (fun V => check_any10 l[i] (by omega) V)
      have HIM := Lib.hid him
      by_cases hc0 : checkP (bl l[i]) = 0
      · rw [hc0] at HCH
        obtain ⟨T, hT, hTe⟩ := check_iff.1 hc0
        have hin : T.enc ∈ l.map bl := by rw [hTe]; exact List.mem_map_of_mem (List.getElem_mem hil)
        have HTK : Hid (∀ W, Mk W F p E S → Calls Try.prog 30 #[ptr11 p, .string l[i], .agg #[.int .u8 1, .int .i64 0, .int .i64 0, .int .i64 0, .int .i64 i, .string ⟨#[]⟩, .slice none 0 0], .slice none 0 0] W (TakePost (l.map bl) U p E S F T W)) := Lib.hid (fun W hW => by
          have h1 := hI.out.wt
          have h2 := sum_take_le (l.map bl) (i + 1)
          rw [sum_take him, hgi, ← hTe] at h2
          have h3 := HL.out
          refine take11_at HU.out HFIN.out T.deep T hT (Nat.le_refl _) (HSELF.out T hT (List.mem_append.2 (.inl hin))) l[i] hTe.symm p 1 i none 0 [] E S F W hW hI.out.good hI.out.slok (by omega) ?_ (fit0 (by decide) ⟨by omega, by omega⟩) (fun x hx => by cases hx) (.inl rfl)
          have := makes_seen (was := l.map bl) (n := i) him (by rw [List.getD_eq_getElem?_getD, List.getElem?_eq_getElem him]; exact (congrArg checkP hgi).trans hc0)
          rw [show (l.map bl).getD i [] = T.enc by rw [List.getD_eq_getElem?_getD, List.getElem?_eq_getElem him]; exact hgi.trans hTe.symm] at this
          exact this)
        have HTE : Hid (T.enc = (l.map bl)[i]) := Lib.hid (hTe.trans hgi.symm)
        generalize l[i] = y at *
        clear hc hlt hil hsz hc0 hT hTe hin hgi him
        go_wp2_with fail
        refine (HCH.out _).mono ?_; rintro e w5 ⟨rfl, b5⟩
        have I5 := Lib.hid (hI.out.still b5)
        clear b5
        go_wp2_with fail
        refine (HTK.out _ I5.out.isMk).mono ?_; rintro e w6 ⟨rfl, E', S', F', m6, k6, f6, t6⟩
        have I6 := Lib.hid (I5.out.took HIM.out HTE.out k6 m6 f6 t6)
        clear m6 k6 f6 t6
        go_wp2_with fail
        go_roundw
        case rel => exact ⟨i + 1, E', S', F', by go_num, by omega, I6⟩
        case measure => simp [intOf]; omega
      · have hq : ((checkP (bl l[i]) : Int) == 0) = false := by rw [beq_eq_false_iff_ne]; omega
        have HSK : Hid (∀ W, Below wr.heap.size wr W → HowIn (l.map bl) U p w W (i + 1) E S F) := Lib.hid (fun W hb => hI.out.skip him (fun q => hc0 ((congrArg checkP hgi).symm.trans q)) hb)
        generalize checkP (bl l[i]) = cv at *
        generalize l[i] = y at *
        clear hc hlt hil hsz hc0 hgi him
        go_wp2_with fail
        refine (HCH.out _).mono ?_; rintro e w5 ⟨rfl, b5⟩
        have I5 := Lib.hid (HSK.out _ b5)
        clear b5
        go_wp2_with fail
        go_roundw
        case rel => exact ⟨i + 1, E, S, F, by go_num, by omega, I5⟩
        case measure => simp [intOf]; omega
    · obtain rfl : i = z := by omega
      clear hi hiz
      go_wp2_with fail
      go_loopw [] (fun wr => ∃ (E : List Ent) (S : List Shut) (F : Nat → Prop), Hid (HowIn (l.map bl) U p w wr i E S F)) (fun wr => wtMem p wr)
      case atStart => exact ⟨E, S, F, hI⟩
      case round =>
        clear hI
        obtain ⟨E1, S1, F1, hI1⟩ := hrel
        have hwt : wtS S1 ≤ 1000000 := by
          have h1 := hI1.out.wt
          have h2 := sum_take_le (l.map bl) i
          have h3 := HL.out
          omega
        have HOPN := Lib.hid (open11_at HU.out HFIN.out p E1 S1 F1 wr hI1.out.isMk hI1.out.good hI1.out.slok hI1.out.closed hwt)
        clear hwt
        go_wp2_with fail
        refine HOPN.out.mono ?_; rintro e w7 ⟨op, E2, S2, F2, rfl, m7, k7, f7, t7⟩
        have hop := hI1.out.opened k7 m7 f7 t7
        cases op
        · have HNO := Lib.hid (k7.no rfl)
          have I7 := Lib.hid hop.1
          have HALL : Hid (∀ x ∈ l.map bl, checkP x = 0 → x ∈ keysE E2) := Lib.hid (fun x hx hc => I7.out.seen x (by rw [List.take_of_length_le (by rw [List.length_map, ← HZ.out]; exact Nat.le_refl _)]; exact hx) hc)
          clear hop m7 k7 f7 t7 HOPN hI1
          go_wp2_with fail
          by_cases hc : checkP (bl s) = 0
          · obtain ⟨T, hT, hTe⟩ := check_iff.1 hc
            have HCO := Lib.hid (comp11_at HU.out HFIN.out T.deep T hT (Nat.le_refl _) (HSELF.out T hT (by rw [hTe]; exact List.mem_append.2 (.inr (by simp)))) s hTe.symm p E2 S2 F2 w7 I7.out.isMk I7.out.good)
            go_wp2_with fail
            refine HCO.out.mono ?_; rintro e w8 ⟨b, E3, rfl, m8, k8, t8⟩
            have B8 : Hid (Below w.heap.size w w8) := Lib.hid (HowIn.turned I7.out.below I7.out.fresh t8)
            cases b
            · have HN : Hid (¬ canP (l.map bl) (bl s)) := Lib.hid (fun h => by
                obtain ⟨t', ht', hno⟩ := k8.no rfl
                rw [List.mem_singleton.1 ht'] at hno
                exact hno (opn_last HALL.out I7.out.closed (fun c hc k hk e h2 => HNO.out.2 c hc k hk e (can_idem HNO.out.1 k h2)) hT (by rw [hTe]; exact h)))
              clear m8 k8 t8 hc hT hTe HCO
              go_wp2_with fail
              go_ret2
              exact ⟨.slice none 0 0, false, rfl, ⟨fun e => (by cases e), fun e => absurd e HN.out⟩, fun _ => rfl, fun e => (by cases e), B8.out⟩
            · have hin : bl s ∈ keysE E3 := by
                have := k8.yes rfl T (by simp)
                rwa [hTe] at this
              obtain ⟨e0, he0, hee⟩ := List.mem_map.1 hin
              obtain ⟨k, hk, rfl⟩ := List.getElem_of_mem he0
              obtain ⟨mm, ma, sv, V, hA8⟩ := m8
              have HLA := Lib.hid (lay11_at E3 k8.good (HFIN.out _ k8.good) (k + 1) k (Nat.lt_succ_self _) hk s hee.symm p [] [] F2 F2 w8 ⟨_, _, _, _, _, _, hA8.ly⟩ laid_nil)
              have HFR := Lib.hid I7.out.fresh
              have HE3 := Lib.hid (HFEW.out _ k8.good)
              have HEE := Lib.hid hee
              clear k8 t8 hc hT hTe HCO hin he0 hee hA8
              go_wp2_with fail
              refine HLA.out.mono ?_; rintro e w9 ⟨x, ss, T9, F9, rfl, a1, a2, a3, a4, a5, a6, a7⟩
              obtain ⟨mm9, ma9, sv9, kv9, V9, cs9, hL9⟩ := a4
              have c92 : w9.cell? ⟨p, 2, none⟩ = some kv9 := cell_of_row _ _ _ _ _ _ hL9.cells
              obtain ⟨so, sc, rfl, hst, hso⟩ := hL9.row
              have hsz := laid_size a5.laid
              have hle : ss.length ≤ 12000 := by have := HE3.out; omega
              have hlast := a3 (by simp)
              rw [HEE.out] at hlast
              have hcan : canP (l.map bl) (bl s) := steps_can (H := l.map bl) (fun _ hx _ => hx) ss [] _ _ (fun y hy => by cases hy) a5.laid.run (bl s) (by rw [List.getLast?_eq_some_iff] at hlast; obtain ⟨ys, e⟩ := hlast; rw [e]; simp)
              have HPOST : Hid (HowPost (l.map bl) (bl s) w (.returned (.tuple #[.slice so ss.length sc, .bool true])) w9) := Lib.hid ⟨_, true, rfl, ⟨fun _ => hcan, fun _ => rfl⟩, fun e => (by cases e), fun _ => ⟨so, sc, ss, T9, rfl, hst, hso, a5.laid.small, hle, a5.laid.run, hlast⟩, HowIn.turned B8.out HFR.out a7⟩
              have hq2 : ¬ (32768 : Int) < (ss.length : Int) := by omega
              generalize ss.length = q at *
              clear a1 a2 a3 a5 a6 a7 hL9 hst hso hsz hle hlast hcan
              go_wp2_with fail
              go_ret2
              exact HPOST.out
          · have HCO := Lib.hid (comp11_none s (by have := HS.out; omega) hc p E2 S2 F2 w7 I7.out.isMk I7.out.good)
            have HN : Hid (¬ canP (l.map bl) (bl s)) := Lib.hid (fun e => hc (can_check e))
            clear hc
            go_wp2_with fail
            refine HCO.out.mono ?_; rintro e w8 ⟨rfl, b8⟩
            have B8 := Lib.hid (I7.out.below.trans (b8.mono I7.out.below.size))
            clear b8
            go_wp2_with fail
            go_ret2
            exact ⟨.slice none 0 0, false, rfl, ⟨fun e => (by cases e), fun e => absurd e HN.out⟩, fun _ => rfl, fun e => (by cases e), B8.out⟩
        · have I7 := Lib.hid hop.1
          have HLT : Hid (wtMem p w7 < wtMem p wr) := Lib.hid (by
            have h1 := hop.2
            obtain ⟨_, _, _, _, x1⟩ := hI1.out.isMk
            obtain ⟨_, _, _, _, x2⟩ := m7
            rw [wt_mem x1, wt_mem x2]
            simp only [if_true] at h1
            omega)
          clear hop m7 k7 f7 t7 HOPN hI1
          go_wp2_with fail
          go_roundw
          case rel => exact ⟨E2, S2, F2, I7⟩
          case measure => exact HLT.out
end Go.Proofs.Ytpajcalfjfkogaa.Pl
