/- What is listed while a term is learnt: the program's own observe. -/
import Derived.Test.YtkebfabmcajbmaaKnowTaken
import Derived.Test.YtkebfabmcajbmaaKnowOpened
import Derived.Test.YtkebfabmcajbmaaKnowCut
import Derived.Laws.EntriesVeiled
namespace Go.Proofs.Ytkebfabmcajbmaa.Pl
open Go.RowKit

theorem MX.turn {w w' : World} {F : Nat → Prop} (h : MX w) (ht : Turn F w w') (hF : ¬ F 0) : MX w' := by
  have hp := h.pos
  obtain ⟨m, hm⟩ := h
  exact ⟨m, (World.cell?_of_block (a := ⟨0, 0, none⟩) (ht.block _ hp hF)).trans hm⟩
theorem MX.ne {w : World} {m : Nat} {X : List (List UInt8)} (h : MX w) (hk : MapK w m X) : 0 ≠ m := by
  rintro rfl
  obtain ⟨es, clock, hm⟩ := hk.ex
  obtain ⟨z, hz⟩ := h
  unfold World.cell? at hz
  simp only [hm] at hz
  cases hz
/-- What there is when it ends: all that is known, or too much. -/
def Full10 (H : List (List UInt8)) (T : Tm) (X : List (List UInt8)) : Prop := X.Nodup ∧ (∀ s ∈ X, knownP (T.enc :: H) s) ∧ ((X.length ≤ 2048 ∧ IsK (T.enc :: H) X) ∨ (2048 < X.length ∧ X.length ≤ 100000 ∧ 2048 < cntP (T.enc :: H)))
def ObsPost10 (w : World) (p m : Nat) (H X0 : List (List UInt8)) (T : Tm) (e : Ending) (w' : World) : Prop :=
  ∃ v fr, e = .returned v ∧ KP w' p m (X0 ++ fr.map bl) ∧ OwnT w' w.heap.size v fr ∧ Turn (fun b => b = m ∨ w.heap.size ≤ b) w w' ∧ Full10 H T (X0 ++ fr.map bl)
/-- The boxes are laid. -/
theorem start10 (w : World) (p m : Nat) (X0 : List (List UInt8)) (s : ByteArray) (hq : KP w p m X0) :
    ∀ W0, W0 = (((((w.alloc (.cells #[ptr10 p] 25)).alloc (.cells #[.slice none 0 0] 22)).alloc (.cells #[.func (.func 39) #[] #[.pointer (some ⟨w.heap.size, 0, none⟩), .pointer (some ⟨w.heap.size + 1, 0, none⟩)]] 65)).alloc (.cells #[.func (.func 40) #[] #[.pointer (some ⟨w.heap.size + 1 + 1 + 1, 0, none⟩), .pointer (some ⟨w.heap.size + 1 + 1, 0, none⟩)]] 66)).alloc (.cells #[.string s] 9)) →
      St10 W0 w.heap.size w.heap.size (w.heap.size + 1) (w.heap.size + 1 + 1) (w.heap.size + 1 + 1 + 1) p m X0 (.slice none 0 0) [] ∧ Below w.heap.size w W0 ∧ TxtRow W0 (some ⟨w.heap.size + 1 + 1 + 1 + 1, 0, none⟩) [s] := by
  rintro W0 rfl
  have n1 : (w.alloc (.cells #[ptr10 p] 25)).heap.size = w.heap.size + 1 := by simp
  have n2 : ((w.alloc (.cells #[ptr10 p] 25)).alloc (.cells #[.slice none 0 0] 22)).heap.size = w.heap.size + 1 + 1 := by simp
  have n3 : (((w.alloc (.cells #[ptr10 p] 25)).alloc (.cells #[.slice none 0 0] 22)).alloc (.cells #[.func (.func 39) #[] #[.pointer (some ⟨w.heap.size, 0, none⟩), .pointer (some ⟨w.heap.size + 1, 0, none⟩)]] 65)).heap.size = w.heap.size + 1 + 1 + 1 := by simp
  have n4 : ((((w.alloc (.cells #[ptr10 p] 25)).alloc (.cells #[.slice none 0 0] 22)).alloc (.cells #[.func (.func 39) #[] #[.pointer (some ⟨w.heap.size, 0, none⟩), .pointer (some ⟨w.heap.size + 1, 0, none⟩)]] 65)).alloc (.cells #[.func (.func 40) #[] #[.pointer (some ⟨w.heap.size + 1 + 1 + 1, 0, none⟩), .pointer (some ⟨w.heap.size + 1 + 1, 0, none⟩)]] 66)).heap.size = w.heap.size + 1 + 1 + 1 + 1 := by simp
  have hB : Below w.heap.size w (((((w.alloc (.cells #[ptr10 p] 25)).alloc (.cells #[.slice none 0 0] 22)).alloc (.cells #[.func (.func 39) #[] #[.pointer (some ⟨w.heap.size, 0, none⟩), .pointer (some ⟨w.heap.size + 1, 0, none⟩)]] 65)).alloc (.cells #[.func (.func 40) #[] #[.pointer (some ⟨w.heap.size + 1 + 1 + 1, 0, none⟩), .pointer (some ⟨w.heap.size + 1 + 1, 0, none⟩)]] 66)).alloc (.cells #[.string s] 9)) := (((((Below.refl w.heap.size w).alloc (Nat.le_refl _) _).alloc (by omega) _).alloc (by omega) _).alloc (by omega) _).alloc (by omega) _
  refine ⟨⟨hq.below hB, ?_, ?_, ?_, ?_, ownT_nil _ _, by omega, hB.size⟩, hB, .inr ⟨_, 0, rfl, by simp, fun j hj => ?_⟩⟩
  · exact (Below.heap_alloc _ _ _ (by omega)).trans ((Below.heap_alloc _ _ _ (by omega)).trans ((Below.heap_alloc _ _ _ (by omega)).trans ((Below.heap_alloc _ _ _ (by omega)).trans (Go.heap_alloc_new w _))))
  · have h := Go.heap_alloc_new (w.alloc (.cells #[ptr10 p] 25)) (.cells #[.slice none 0 0] 22)
    rw [n1] at h
    exact (Below.heap_alloc _ _ _ (by omega)).trans ((Below.heap_alloc _ _ _ (by omega)).trans ((Below.heap_alloc _ _ _ (by omega)).trans h))
  · have h := Go.heap_alloc_new ((w.alloc (.cells #[ptr10 p] 25)).alloc (.cells #[.slice none 0 0] 22)) (.cells #[.func (.func 39) #[] #[.pointer (some ⟨w.heap.size, 0, none⟩), .pointer (some ⟨w.heap.size + 1, 0, none⟩)]] 65)
    rw [n2] at h
    exact (Below.heap_alloc _ _ _ (by omega)).trans ((Below.heap_alloc _ _ _ (by omega)).trans h)
  · have h := Go.heap_alloc_new (((w.alloc (.cells #[ptr10 p] 25)).alloc (.cells #[.slice none 0 0] 22)).alloc (.cells #[.func (.func 39) #[] #[.pointer (some ⟨w.heap.size, 0, none⟩), .pointer (some ⟨w.heap.size + 1, 0, none⟩)]] 65)) (.cells #[.func (.func 40) #[] #[.pointer (some ⟨w.heap.size + 1 + 1 + 1, 0, none⟩), .pointer (some ⟨w.heap.size + 1 + 1, 0, none⟩)]] 66)
    rw [n3] at h
    exact (Below.heap_alloc _ _ _ (by omega)).trans h
  · have h := Go.heap_alloc_new ((((w.alloc (.cells #[ptr10 p] 25)).alloc (.cells #[.slice none 0 0] 22)).alloc (.cells #[.func (.func 39) #[] #[.pointer (some ⟨w.heap.size, 0, none⟩), .pointer (some ⟨w.heap.size + 1, 0, none⟩)]] 65)).alloc (.cells #[.func (.func 40) #[] #[.pointer (some ⟨w.heap.size + 1 + 1 + 1, 0, none⟩), .pointer (some ⟨w.heap.size + 1 + 1, 0, none⟩)]] 66)) (.cells #[.string s] 9)
    rw [n4] at h
    obtain rfl : j = 0 := by simp at hj; exact hj
    exact cell_of_row _ _ _ _ _ _ h
theorem turn_to2 {w w' : World} {B m : Nat} (h : Below B w w') : Turn (fun b => b = m ∨ B ≤ b) w w' := ⟨h.os, h.tape, h.output, h.size, fun b _ hn => h.block b (by have := fun e => hn (.inr e); omega)⟩
def lenV : Value → Nat
  | .slice _ n _ => n
  | _ => 0
/-- How much is left to do. -/
def msr10 (fb : Nat) (v : Value) (w : World) : Nat := (2049 - lenV ((w.cell? ⟨fb, 0, none⟩).getD (.bool false))) + (if lenV v = 0 then 0 else 1)
theorem msr10_at {fb n c k d : Nat} {a b : Option Addr} {w : World} (h : w.cell? ⟨fb, 0, none⟩ = some (.slice a n c)) : msr10 fb (.slice b k d) w = (2049 - n) + (if k = 0 then 0 else 1) := by
  unfold msr10
  rw [h]
  rfl
theorem old_row10 {w : World} {v : Value} {n : Nat} {ao : Option Addr} {l : List ByteArray} (h : OldS w v n ao l) (k : Nat) (hk : k < l.length) : ∃ g off, ao = some ⟨g, off, none⟩ ∧ w.cell? ⟨g, off + k, none⟩ = some (.string l[k]) := by
  rcases h.1 with rfl | ⟨g, off, rfl, hlt, hc⟩
  · cases hk
  · refine ⟨g, off, rfl, ?_⟩
    rw [hc k hk]
    simp [List.getD_eq_getElem?_getD, hk]
/-- What is opened is what matters. -/
theorem opens_next {H X0 : List (List UInt8)} {T : Tm} (hT : T.valid) {fr fr' On L : List ByteArray} (h : Opens H X0 T (X0 ++ fr.map bl) (On.map bl)) (k : Tells H X0 T (X0 ++ fr.map bl) (On.map bl) On.length (X0 ++ fr'.map bl)) (hp : fr <+: fr')
    (h1 : ∀ b ∈ L, Opn10 (X0 ++ fr'.map bl) (bl b)) (h2 : ∀ s ∈ X0 ++ fr'.map bl, Met10 (X0 ++ fr'.map bl) (fr'.drop fr.length) s L) : Opens H X0 T (X0 ++ fr'.map bl) (L.map bl) := by
  refine tells_end hT h (by rw [List.length_map]; exact k) (fun b hb => ?_) (fun a n x hs hc hy => ?_)
  · obtain ⟨b', hb', rfl⟩ := List.mem_map.1 hb
    exact h1 b' hb'
  · obtain ⟨y, hy, hn, hm⟩ := hy
    obtain ⟨r, rfl⟩ := hp
    have hy2 : y ∈ r.map bl := by
      rw [List.map_append, List.mem_append, List.mem_append] at hy
      rw [List.mem_append] at hn
      rcases hy with hy | hy | hy
      · exact absurd (.inl hy) hn
      · exact absurd (.inr hy) hn
      · exact hy
    obtain ⟨y', hy', rfl⟩ := List.mem_map.1 hy2
    obtain ⟨b, hb, e⟩ := h2 _ hs.2 a n x hs rfl hc ⟨y', by rw [List.drop_left]; exact hy', hm.imp id (fun ⟨u, v, e⟩ => by rw [e]; exact contains_in _ _ _)⟩
    rw [← e]
    exact List.mem_map_of_mem hb

set_option maxHeartbeats 4000000 in
set_option maxRecDepth 100000 in
theorem observe10_any (p m : Nat) (H X0 : List (List UInt8)) (T : Tm) (hT : T.valid) (s : ByteArray) (hs : bl s = T.enc) (w : World) (hq : KP w p m X0) (hI : IsK H X0) (hX : X0.length ≤ 2048) (hM : MX w) :
    Calls Try.prog 25 #[ptr10 p, .string s] w (ObsPost10 w p m H X0 T) := by
  have HI := Lib.hid hI
  have HX := Lib.hid hX
  have HM := Lib.hid hM
  have HT := Lib.hid hT
  have HNE := Lib.hid (hM.ne hq.2)
  have HPOS := Lib.hid hM.pos
  obtain ⟨W0, hW0⟩ : ∃ W0, W0 = (((((w.alloc (.cells #[ptr10 p] 25)).alloc (.cells #[.slice none 0 0] 22)).alloc (.cells #[.func (.func 39) #[] #[.pointer (some ⟨w.heap.size, 0, none⟩), .pointer (some ⟨w.heap.size + 1, 0, none⟩)]] 65)).alloc (.cells #[.func (.func 40) #[] #[.pointer (some ⟨w.heap.size + 1 + 1 + 1, 0, none⟩), .pointer (some ⟨w.heap.size + 1 + 1, 0, none⟩)]] 66)).alloc (.cells #[.string s] 9)) := ⟨_, rfl⟩
  obtain ⟨hS0, hB0, hR0⟩ := start10 w p m X0 s hq W0 hW0
  have HO : Hid (Opens H X0 T (X0 ++ ([] : List ByteArray).map bl) ([s].map bl)) := Lib.hid (by show Opens H X0 T (X0 ++ []) [bl s]; rw [List.append_nil, hs]; exact opens_start hT hI)
  have S0 : Hid (St10 W0 w.heap.size w.heap.size (w.heap.size + 1) (w.heap.size + 1 + 1) (w.heap.size + 1 + 1 + 1) p m (X0 ++ ([] : List ByteArray).map bl) (.slice none 0 0) []) := Lib.hid (by rw [List.map_nil, List.append_nil]; exact hS0)
  have T0 : Hid (Turn (fun b => b = m ∨ w.heap.size ≤ b) w W0) := Lib.hid (turn_below hB0)
  have O0 : Hid (OldS W0 (.slice none 0 0) ([] : List ByteArray).length (some ⟨w.heap.size + 1 + 1 + 1 + 1, 0, none⟩) [s]) := Lib.hid ⟨hR0, fun b off _ _ e => by cases e⟩
  have HX0 : Hid ((X0 ++ ([] : List ByteArray).map bl).length ≤ 2048) := Lib.hid (by rw [List.map_nil, List.append_nil]; exact hX)
  clear hq hI hX hM hT hs hS0 hB0 hR0
  go_enter Try.func25, Try.ntmps25
  go_wp2_with fail
  refine wp_scope_straight ?_
  go_wp2_with fail
  apply wp_label
  go_wp2_with fail
  rw [← hW0]
  clear hW0
  generalize hkb : w.heap.size = kb at *
  have HKB := Lib.hid hkb
  clear hkb
  generalize hfb : kb + 1 = fb at *
  generalize hlb : fb + 1 = lb at *
  generalize htb : lb + 1 = tb at *
  generalize hob : tb + 1 = ob at *
  have HFB := Lib.hid hfb
  clear hfb hlb htb hob
  go_loopw [7] (fun v7 wr => ∃ (v : Value) (fr On : List ByteArray) (ao : Option Addr) (cap : Nat), v7 = .slice ao On.length cap ∧ Hid (St10 wr kb kb fb lb tb p m (X0 ++ fr.map bl) v fr) ∧ Hid (Opens H X0 T (X0 ++ fr.map bl) (On.map bl)) ∧ Hid (OldS wr v fr.length ao On) ∧ Hid ((X0 ++ fr.map bl).length ≤ 2048) ∧ Hid (On.length ≤ 100000) ∧ Hid (Turn (fun b => b = m ∨ kb ≤ b) w wr)) (fun v7 wr => msr10 fb v7 wr)
  case atStart => exact ⟨_, [], [s], _, 1, rfl, S0, HO, O0, HX0, Lib.hid (by simp), T0⟩
  case round =>
    obtain ⟨v, fr, On, ao, cap, rfl, hst, hop, hold, hxl, hol, htn⟩ := hrel
    obtain ⟨a0, c0, rfl, _⟩ := ownT_row hst.out.own
    have cf : wr.cell? ⟨fb, 0, none⟩ = some (.slice a0 fr.length c0) := cell_of_row _ _ _ _ _ _ hst.out.cf
    have ff : wr.frozen? ⟨fb, 0, none⟩ = false := (show Boxed wr fb 22 (.slice a0 fr.length c0) from hst.out.cf).frozen
    have hol2 := hol.out
    by_cases h0 : On.length = 0
    · have HE : Hid (Full10 H T (X0 ++ fr.map bl)) := Lib.hid ⟨hop.out.nodup, hop.out.known, .inl ⟨hxl.out, opens_end HT.out HI.out (by have h := hop.out; rw [List.length_eq_zero_iff.1 h0] at h; exact h)⟩⟩
      have HSET := Lib.hid (St10.again hst.out)
      rw [h0]
      clear h0 hol2
      go_wp2_with fail
      rw [Exit.noGoto_ret]
      have cz : (wr.setCell ⟨fb, 0, none⟩ (.slice a0 fr.length c0)).cell? ⟨fb, 0, none⟩ = some (.slice a0 fr.length c0) := cell_of_row _ _ _ _ _ _ HSET.out.1.cf
      refine bodyPost_ret (v := (.slice a0 fr.length c0)) (by simp [results, Try.results25, go_sem, cz]) rfl ?_
      have hk := HKB.out
      exact ⟨_, fr, rfl, HSET.out.1.kp, by rw [hk]; exact HSET.out.1.own, by rw [hk]; exact turn_trans htn.out (turn_to2 HSET.out.2) (fun b hb => .inl hb), HE.out⟩
    · have h0' : (0 : Int) < (On.length : Int) := by omega
      obtain ⟨n, hn⟩ : ∃ n, n = On.length := ⟨_, rfl⟩
      have HN := Lib.hid hn
      rw [← hn] at h0 h0' hol2
      rw [← hn]
      clear hn
      have hd0 : decide (0 < n) = true := decide_eq_true (by omega)
      have hd1 : decide ((0 : Int) < (n : Int)) = true := decide_eq_true h0'
      obtain ⟨V0, rfl⟩ : ∃ V0, V0 = wr := ⟨wr, rfl⟩
      go_wp2_with fail
      go_loopw [22] (fun iv wr => ∃ (i : Nat) (u : Value) (gr : List ByteArray), iv = .int .i64 i ∧ i ≤ n ∧ Hid (St10 wr kb kb fb lb tb p m (X0 ++ gr.map bl) u gr) ∧ Hid (Tells H X0 T (X0 ++ fr.map bl) (On.map bl) i (X0 ++ gr.map bl)) ∧ Hid (fr <+: gr) ∧ Hid (OldS wr u gr.length ao On) ∧ Hid ((X0 ++ gr.map bl).length ≤ 2048) ∧ Hid (Turn (fun b => b = m ∨ kb ≤ b) w wr)) (fun iv _ => n - (intOf iv).toNat)
      case atStart => exact ⟨0, _, fr, rfl, Nat.zero_le _, hst, Lib.hid (tells_start hop.out), Lib.hid (List.prefix_refl _), hold, hxl, htn⟩
      case round =>
        obtain ⟨i, u, gr, rfl, hin, gst, gte, gpre, gold, gxl, gtn⟩ := hrel
        by_cases hi : i < n
        · have hi' : (i : Int) < (n : Int) := by omega
          have hil : i < On.length := by rw [← HN.out]; exact hi
          obtain ⟨g, off, rfl, ci⟩ := old_row10 gold.out i hil
          have ct := gst.out.cells.2
          have him : i < (On.map bl).length := by rw [List.length_map]; exact hil
          have hei : (On.map bl)[i] = bl On[i] := by simp
          obtain ⟨Y, hYv, hYe, _⟩ := hop.out.told (bl On[i]) (List.mem_map_of_mem (List.getElem_mem hil))
          have hY2 := hYv.2.2
          have HCK := Lib.hid (taken10_at Y.deep Y hYv (Nat.le_refl _) On[i] hYe.symm kb kb fb lb tb p m X0 u gr wr gst.out (by have := gxl.out; omega))
          have HTS := Lib.hid (tells_step hop.out him gte.out hYv (hYe.trans hei.symm))
          have HLL : Hid ((lstL (X0 ++ gr.map bl) Y).length ≤ 100000) := Lib.hid (by have h1 := lst_len (X0 ++ gr.map bl) hYv.1; have h2 := gxl.out; omega)
          have HI1 : Hid (i + 1 ≤ n) := Lib.hid hi
          generalize On[i] = si at *
          clear him hei hYv hYe hY2 hil
          go_wp2_with fail
          refine HCK.out.mono ?_; rintro e w4 ⟨⟨y, rfl⟩, u4, gr4, s4, e4, p4, l4⟩
          have S4 := Lib.hid s4
          have E4 := Lib.hid e4
          have P4 := Lib.hid (gpre.out.trans p4)
          have O4 := Lib.hid (l4.old _ _ gold.out)
          have T4 := Lib.hid (turn_trans gtn.out l4.turn (fun b hb => .inl hb))
          have ck : w4.cell? ⟨kb, 0, none⟩ = some (ptr10 p) := cell_of_row _ _ _ _ _ _ s4.ck
          have cp : w4.cell? ⟨p, 0, none⟩ = some (.map (some m)) := s4.kp.cell
          obtain ⟨z, hz⟩ : ∃ z, (X0 ++ gr4.map bl).length = z := ⟨_, rfl⟩
          have HZ := Lib.hid hz
          by_cases hbig : 2048 < z
          · have hb2 : (2048 : Int) < (z : Int) := by omega
            have HE : Hid (Full10 H T (X0 ++ gr4.map bl)) := Lib.hid (by
              rw [E4.out]
              refine ⟨HTS.out.nodup, HTS.out.known, .inr ⟨by rw [← E4.out, hz]; exact hbig, HLL.out, ?_⟩⟩
              have h1 := opens_cnt HTS.out.nodup HTS.out.known
              rw [← E4.out, hz] at h1
              omega)
            have HSET := Lib.hid (St10.again S4.out)
            obtain ⟨a4, c4, rfl, _⟩ := ownT_row S4.out.own
            have cf4 : w4.cell? ⟨fb, 0, none⟩ = some (.slice a4 gr4.length c4) := cell_of_row _ _ _ _ _ _ S4.out.cf
            have ff4 : w4.frozen? ⟨fb, 0, none⟩ = false := (show Boxed w4 fb 22 (.slice a4 gr4.length c4) from S4.out.cf).frozen
            clear s4 e4 p4 l4 ct ci hz hbig
            go_wp2_with (first | (at_len; refine wpList_len10 rfl _ rfl m (X0 ++ gr4.map bl) z HZ.out rfl S4.out.kp.2 ?_) | fail)
            rw [Exit.noGoto_ret]
            have cz : (w4.setCell ⟨fb, 0, none⟩ (.slice a4 gr4.length c4)).cell? ⟨fb, 0, none⟩ = some (.slice a4 gr4.length c4) := cell_of_row _ _ _ _ _ _ HSET.out.1.cf
            refine bodyPost_ret (v := (.slice a4 gr4.length c4)) (by simp [results, Try.results25, go_sem, cz]) rfl ?_
            have hk := HKB.out
            exact ⟨_, gr4, rfl, HSET.out.1.kp, by rw [hk]; exact HSET.out.1.own, by rw [hk]; exact turn_trans T4.out (turn_to2 HSET.out.2) (fun b hb => .inl hb), HE.out⟩
          · have hb2 : (z : Int) ≤ 2048 := by omega
            have XL4 : Hid ((X0 ++ gr4.map bl).length ≤ 2048) := Lib.hid (by rw [hz]; omega)
            have TE4 : Hid (Tells H X0 T (X0 ++ fr.map bl) (On.map bl) (i + 1) (X0 ++ gr4.map bl)) := Lib.hid (by rw [E4.out]; exact HTS.out)
            clear s4 e4 p4 l4 ct ci hz hbig
            go_wp2_with (first | (at_len; refine wpList_len10 rfl _ rfl m (X0 ++ gr4.map bl) z HZ.out rfl S4.out.kp.2 ?_) | fail)
            go_roundw
            case rel => exact ⟨i + 1, u4, gr4, by go_num, HI1.out, S4, TE4, P4, O4, XL4, T4⟩
            case measure => simp [intOf]; omega
        · obtain rfl : i = n := by omega
          obtain ⟨a1, c1, sh1, hs1, hc1, ht1⟩ := own_shape gst.out.own
          obtain rfl := sh1
          have hd : fr.length ≤ gr.length := gpre.out.length_le
          have hcut := cut_rest a1 gr.length c1 fr.length hd
          have hrow := rest_row ht1 hs1 hc1 fr.length
          generalize (if c1 = fr.length then a1 else a1.map (·.add fr.length)) = ao2 at hcut hrow
          have hXv : ∀ x ∈ X0 ++ gr.map bl, ∃ t : Tm, t.valid ∧ t.enc = x := fun x hx => by
            obtain ⟨y, h1, h2⟩ := gte.out.known x hx
            exact ⟨y, cl_valid h1, h2⟩
          have hgl : gr.length ≤ 2048 := by have := gxl.out; rw [List.length_append, List.length_map] at this; omega
          have hMr : MX wr := HM.out.turn gtn.out (by
            rintro (h | h)
            · exact HNE.out h
            · have := HPOS.out; omega)
          have HOPN := opened10_any p m (X0 ++ gr.map bl) (gr.drop fr.length) ao2 (c1 - fr.length) wr.drew (gst.out.kp.below (drew10 wr)) (hMr.step (drew10 wr)) (hrow.below (drew10 wr)) (by rw [List.length_drop]; omega) (by have := gxl.out; omega) hXv
          rw [List.length_drop] at HOPN
          have HOP := Lib.hid HOPN
          have GD := Lib.hid (gst.out.below (drew10 wr))
          have KS : wr.drew.cell? ⟨kb, 0, none⟩ = some (ptr10 p) ∧ wr.drew.cell? ⟨fb, 0, none⟩ = some (.slice a1 gr.length c1) := ⟨cell_of_row _ _ _ _ _ _ GD.out.ck, cell_of_row _ _ _ _ _ _ GD.out.cf⟩
          have HDL := Lib.hid hd
          have HGL := Lib.hid hgl
          obtain ⟨k2, hk2⟩ : ∃ k2, gr.length - fr.length = k2 := ⟨_, rfl⟩
          have HK2 := Lib.hid hk2
          rw [hk2] at hcut HOP
          obtain ⟨c2, hc2⟩ : ∃ c2, c1 - fr.length = c2 := ⟨_, rfl⟩
          rw [hc2] at hcut HOP
          clear hXv hgl hMr HOPN hrow hd hk2 hc2 hs1 hc1 ht1 cf ff
          go_wp2_with fail
          go_region_held3 (fun W => W.cell? ⟨kb, 0, none⟩ = some (ptr10 p) ∧ W.cell? ⟨fb, 0, none⟩ = some (.slice a1 gr.length c1)) (first | assumption) (first | (go_at_call 41; (with_reducible refine HOP.out.mono ?_); rintro e w4 ⟨v4, L, rfl, ho4, hop4, hmet4, hlen4, hnil4, b4⟩; obtain ⟨ao4, cap4, rfl, old4⟩ := old_new10 GD.out.own ho4; have KA : w4.cell? ⟨kb, 0, none⟩ = some (ptr10 p) ∧ w4.cell? ⟨fb, 0, none⟩ = some (.slice a1 gr.length c1) := ⟨cell_of_row _ _ _ _ _ _ (GD.out.below b4).ck, cell_of_row _ _ _ _ _ _ (GD.out.below b4).cf⟩; have S4 := Lib.hid (GD.out.below b4); have T4 := Lib.hid (turn_trans gtn.out (turn_below (F := fun b => b = m ∨ kb ≤ b) (below_step (drew10 wr) b4)) (fun b hb => .inl hb)); have OP4 := Lib.hid hop4; have ME4 := Lib.hid hmet4; have LE4 := Lib.hid hlen4; have NI4 := Lib.hid hnil4; have OL4 := Lib.hid old4; clear hop4 hmet4 hlen4 hnil4 old4 ho4 b4))
          have HOPS := Lib.hid (opens_next HT.out hop.out (by rw [← HN.out]; exact gte.out) gpre.out OP4.out ME4.out)
          have HLB : Hid (L.length ≤ 100000) := Lib.hid (by have h1 := LE4.out; have h2 := gxl.out; omega)
          have HMS : Hid ((2049 - gr.length) + (if L.length = 0 then 0 else 1) < (2049 - fr.length) + (if i = 0 then 0 else 1)) := Lib.hid (by
            have h1 := HDL.out
            have h2 := HGL.out
            rw [if_neg h0]
            by_cases he : gr.length = fr.length
            · have hL : L = [] := NI4.out (List.drop_eq_nil_of_le (by omega))
              rw [hL, if_pos List.length_nil]
              omega
            · split <;> omega)
          clear hcut KS KA HOP OP4 ME4 LE4 NI4
          go_wp2_with fail
          go_roundw
          case rel => exact ⟨_, gr, L, ao4, cap4, rfl, S4, HOPS, OL4, gxl, HLB, T4⟩
          case measure =>
            rw [msr10_at (cell_of_row _ _ _ _ _ _ S4.out.cf), msr10_at (cell_of_row _ _ _ _ _ _ hst.out.cf)]
            exact HMS.out
end Go.Proofs.Ytkebfabmcajbmaa.Pl
