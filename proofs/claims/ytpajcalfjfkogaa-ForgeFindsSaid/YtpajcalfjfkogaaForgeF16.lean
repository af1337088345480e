/- What is listed while a term is learnt: the program's own observe. What the program's own know answers of who has seen some texts. Who has seen some texts: what two statements of layer 11 begin with; whether there is space for them. -/
import Derived.Test.YtpajcalfjfkogaaForgeF14
import Derived.Test.YtpajcalfjfkogaaForgeF12
import Derived.Test.YtpajcalfjfkogaaForgeF3
import Derived.Laws.EntriesVeiled
import Derived.Carry
namespace Go.Proofs.Ytpajcalfjfkogaa.Pl
open Go.RowKit

theorem MX.turn {w w' : World} {F : Nat → Prop} (h : MX w) (ht : Turn F w w') (hF : ¬ F 0) : MX w' := by
  have hp := h.pos
  obtain ⟨m, hm⟩ := h
  exact ⟨m, (World.cell?_of_block (a := ⟨0, 0, none⟩) (ht.block _ hp hF)).trans hm⟩
theorem MX.ne {w : World} {m : Nat} {X : List (List UInt8)} (h : MX w) (hk : MapK w m X) : 0 ≠ m := by
  rintro rfl
  obtain ⟨es, clock, hm⟩ := hk.ex
  obtain ⟨z, hz⟩ := h
  unfold World.cell? at hz
  simp only [hm] at hz
  cases hz
/-- What there is when it ends: all that is known, or too much. -/
def Full10 (H : List (List UInt8)) (T : Tm) (X : List (List UInt8)) : Prop := X.Nodup ∧ (∀ s ∈ X, knownP (T.enc :: H) s) ∧ ((X.length ≤ 2048 ∧ IsK (T.enc :: H) X) ∨ (2048 < X.length ∧ X.length ≤ 100000 ∧ 2048 < cntP (T.enc :: H)))
def ObsPost10 (w : World) (p m : Nat) (H X0 : List (List UInt8)) (T : Tm) (e : Ending) (w' : World) : Prop :=
  ∃ v fr, e = .returned v ∧ KP w' p m (X0 ++ fr.map bl) ∧ OwnT w' w.heap.size v fr ∧ Turn (fun b => b = m ∨ w.heap.size ≤ b) w w' ∧ Full10 H T (X0 ++ fr.map bl)
/-- The boxes are laid. -/
theorem start10 (w : World) (p m : Nat) (X0 : List (List UInt8)) (s : ByteArray) (hq : KP w p m X0) :
    ∀ W0, W0 = (((((w.alloc (.cells #[ptr10 p] 37)).alloc (.cells #[.slice none 0 0] 22)).alloc (.cells #[.func (.func 78) #[] #[.pointer (some ⟨w.heap.size, 0, none⟩), .pointer (some ⟨w.heap.size + 1, 0, none⟩)]] 114)).alloc (.cells #[.func (.func 79) #[] #[.pointer (some ⟨w.heap.size + 1 + 1 + 1, 0, none⟩), .pointer (some ⟨w.heap.size + 1 + 1, 0, none⟩)]] 115)).alloc (.cells #[.string s] 9)) →
      St10 W0 w.heap.size w.heap.size (w.heap.size + 1) (w.heap.size + 1 + 1) (w.heap.size + 1 + 1 + 1) p m X0 (.slice none 0 0) [] ∧ Below w.heap.size w W0 ∧ TxtRow W0 (some ⟨w.heap.size + 1 + 1 + 1 + 1, 0, none⟩) [s] := by
  rintro W0 rfl
  have n1 : (w.alloc (.cells #[ptr10 p] 37)).heap.size = w.heap.size + 1 := by simp
  have n2 : ((w.alloc (.cells #[ptr10 p] 37)).alloc (.cells #[.slice none 0 0] 22)).heap.size = w.heap.size + 1 + 1 := by simp
  have n3 : (((w.alloc (.cells #[ptr10 p] 37)).alloc (.cells #[.slice none 0 0] 22)).alloc (.cells #[.func (.func 78) #[] #[.pointer (some ⟨w.heap.size, 0, none⟩), .pointer (some ⟨w.heap.size + 1, 0, none⟩)]] 114)).heap.size = w.heap.size + 1 + 1 + 1 := by simp
  have n4 : ((((w.alloc (.cells #[ptr10 p] 37)).alloc (.cells #[.slice none 0 0] 22)).alloc (.cells #[.func (.func 78) #[] #[.pointer (some ⟨w.heap.size, 0, none⟩), .pointer (some ⟨w.heap.size + 1, 0, none⟩)]] 114)).alloc (.cells #[.func (.func 79) #[] #[.pointer (some ⟨w.heap.size + 1 + 1 + 1, 0, none⟩), .pointer (some ⟨w.heap.size + 1 + 1, 0, none⟩)]] 115)).heap.size = w.heap.size + 1 + 1 + 1 + 1 := by simp
  have hB : Below w.heap.size w (((((w.alloc (.cells #[ptr10 p] 37)).alloc (.cells #[.slice none 0 0] 22)).alloc (.cells #[.func (.func 78) #[] #[.pointer (some ⟨w.heap.size, 0, none⟩), .pointer (some ⟨w.heap.size + 1, 0, none⟩)]] 114)).alloc (.cells #[.func (.func 79) #[] #[.pointer (some ⟨w.heap.size + 1 + 1 + 1, 0, none⟩), .pointer (some ⟨w.heap.size + 1 + 1, 0, none⟩)]] 115)).alloc (.cells #[.string s] 9)) := (((((Below.refl w.heap.size w).alloc (Nat.le_refl _) _).alloc (by omega) _).alloc (by omega) _).alloc (by omega) _).alloc (by omega) _
  refine ⟨⟨hq.below hB, ?_, ?_, ?_, ?_, ownT_nil _ _, by omega, hB.size⟩, hB, .inr ⟨_, 0, rfl, by simp, fun j hj => ?_⟩⟩
  · exact (Below.heap_alloc _ _ _ (by omega)).trans ((Below.heap_alloc _ _ _ (by omega)).trans ((Below.heap_alloc _ _ _ (by omega)).trans ((Below.heap_alloc _ _ _ (by omega)).trans (Go.heap_alloc_new w _))))
  · have h := Go.heap_alloc_new (w.alloc (.cells #[ptr10 p] 37)) (.cells #[.slice none 0 0] 22)
    rw [n1] at h
    exact (Below.heap_alloc _ _ _ (by omega)).trans ((Below.heap_alloc _ _ _ (by omega)).trans ((Below.heap_alloc _ _ _ (by omega)).trans h))
  · have h := Go.heap_alloc_new ((w.alloc (.cells #[ptr10 p] 37)).alloc (.cells #[.slice none 0 0] 22)) (.cells #[.func (.func 78) #[] #[.pointer (some ⟨w.heap.size, 0, none⟩), .pointer (some ⟨w.heap.size + 1, 0, none⟩)]] 114)
    rw [n2] at h
    exact (Below.heap_alloc _ _ _ (by omega)).trans ((Below.heap_alloc _ _ _ (by omega)).trans h)
  · have h := Go.heap_alloc_new (((w.alloc (.cells #[ptr10 p] 37)).alloc (.cells #[.slice none 0 0] 22)).alloc (.cells #[.func (.func 78) #[] #[.pointer (some ⟨w.heap.size, 0, none⟩), .pointer (some ⟨w.heap.size + 1, 0, none⟩)]] 114)) (.cells #[.func (.func 79) #[] #[.pointer (some ⟨w.heap.size + 1 + 1 + 1, 0, none⟩), .pointer (some ⟨w.heap.size + 1 + 1, 0, none⟩)]] 115)
    rw [n3] at h
    exact (Below.heap_alloc _ _ _ (by omega)).trans h
  · have h := Go.heap_alloc_new ((((w.alloc (.cells #[ptr10 p] 37)).alloc (.cells #[.slice none 0 0] 22)).alloc (.cells #[.func (.func 78) #[] #[.pointer (some ⟨w.heap.size, 0, none⟩), .pointer (some ⟨w.heap.size + 1, 0, none⟩)]] 114)).alloc (.cells #[.func (.func 79) #[] #[.pointer (some ⟨w.heap.size + 1 + 1 + 1, 0, none⟩), .pointer (some ⟨w.heap.size + 1 + 1, 0, none⟩)]] 115)) (.cells #[.string s] 9)
    rw [n4] at h
    obtain rfl : j = 0 := by simp at hj; exact hj
    exact cell_of_row _ _ _ _ _ _ h
theorem turn_to2 {w w' : World} {B m : Nat} (h : Below B w w') : Turn (fun b => b = m ∨ B ≤ b) w w' := ⟨h.os, h.tape, h.output, h.size, fun b _ hn => h.block b (by have := fun e => hn (.inr e); omega)⟩
def lenV : Value → Nat
  | .slice _ n _ => n
  | _ => 0
/-- How much is left to do. -/
def msr10 (fb : Nat) (v : Value) (w : World) : Nat := (2049 - lenV ((w.cell? ⟨fb, 0, none⟩).getD (.bool false))) + (if lenV v = 0 then 0 else 1)
theorem msr10_at {fb n c k d : Nat} {a b : Option Addr} {w : World} (h : w.cell? ⟨fb, 0, none⟩ = some (.slice a n c)) : msr10 fb (.slice b k d) w = (2049 - n) + (if k = 0 then 0 else 1) := by
  unfold msr10
  rw [h]
  rfl
theorem old_row10 {w : World} {v : Value} {n : Nat} {ao : Option Addr} {l : List ByteArray} (h : OldS w v n ao l) (k : Nat) (hk : k < l.length) : ∃ g off, ao = some ⟨g, off, none⟩ ∧ w.cell? ⟨g, off + k, none⟩ = some (.string l[k]) := by
  rcases h.1 with rfl | ⟨g, off, rfl, hlt, hc⟩
  · cases hk
  · refine ⟨g, off, rfl, ?_⟩
    rw [hc k hk]
    simp [List.getD_eq_getElem?_getD, hk]
/-- What is opened is what matters. -/
theorem opens_next {H X0 : List (List UInt8)} {T : Tm} (hT : T.valid) {fr fr' On L : List ByteArray} (h : Opens H X0 T (X0 ++ fr.map bl) (On.map bl)) (k : Tells H X0 T (X0 ++ fr.map bl) (On.map bl) On.length (X0 ++ fr'.map bl)) (hp : fr <+: fr')
    (h1 : ∀ b ∈ L, Opn10 (X0 ++ fr'.map bl) (bl b)) (h2 : ∀ s ∈ X0 ++ fr'.map bl, Met10 (X0 ++ fr'.map bl) (fr'.drop fr.length) s L) : Opens H X0 T (X0 ++ fr'.map bl) (L.map bl) := by
  refine tells_end hT h (by rw [List.length_map]; exact k) (fun b hb => ?_) (fun a n x hs hc hy => ?_)
  · obtain ⟨b', hb', rfl⟩ := List.mem_map.1 hb
    exact h1 b' hb'
  · obtain ⟨y, hy, hn, hm⟩ := hy
    obtain ⟨r, rfl⟩ := hp
    have hy2 : y ∈ r.map bl := by
      rw [List.map_append, List.mem_append, List.mem_append] at hy
      rw [List.mem_append] at hn
      rcases hy with hy | hy | hy
      · exact absurd (.inl hy) hn
      · exact absurd (.inr hy) hn
      · exact hy
    obtain ⟨y', hy', rfl⟩ := List.mem_map.1 hy2
    obtain ⟨b, hb, e⟩ := h2 _ hs.2 a n x hs rfl hc ⟨y', by rw [List.drop_left]; exact hy', hm.imp id (fun ⟨u, v, e⟩ => by rw [e]; exact contains_in _ _ _)⟩
    rw [← e]
    exact List.mem_map_of_mem hb

set_option maxHeartbeats 4000000 in
set_option maxRecDepth 100000 in
theorem observe10_any (p m : Nat) (H X0 : List (List UInt8)) (T : Tm) (hT : T.valid) (s : ByteArray) (hs : bl s = T.enc) (w : World) (hq : KP w p m X0) (hI : IsK H X0) (hX : X0.length ≤ 2048) (hM : MX w) :
    Calls Try.prog 52 #[ptr10 p, .string s] w (ObsPost10 w p m H X0 T) := by
  have HI := Lib.hid hI
  have HX := Lib.hid hX
  have HM := Lib.hid hM
  have HT := Lib.hid hT
  have HNE := Lib.hid (hM.ne hq.2)
  have HPOS := Lib.hid hM.pos
  obtain ⟨W0, hW0⟩ : ∃ W0, W0 = (((((w.alloc (.cells #[ptr10 p] 37)).alloc (.cells #[.slice none 0 0] 22)).alloc (.cells #[.func (.func 78) #[] #[.pointer (some ⟨w.heap.size, 0, none⟩), .pointer (some ⟨w.heap.size + 1, 0, none⟩)]] 114)).alloc (.cells #[.func (.func 79) #[] #[.pointer (some ⟨w.heap.size + 1 + 1 + 1, 0, none⟩), .pointer (some ⟨w.heap.size + 1 + 1, 0, none⟩)]] 115)).alloc (.cells #[.string s] 9)) := ⟨_, rfl⟩
  obtain ⟨hS0, hB0, hR0⟩ := start10 w p m X0 s hq W0 hW0
  have HO : Hid (Opens H X0 T (X0 ++ ([] : List ByteArray).map bl) ([s].map bl)) := Lib.hid (by show Opens H X0 T (X0 ++ []) [bl s]; rw [List.append_nil, hs]; exact opens_start hT hI)
  have S0 : Hid (St10 W0 w.heap.size w.heap.size (w.heap.size + 1) (w.heap.size + 1 + 1) (w.heap.size + 1 + 1 + 1) p m (X0 ++ ([] : List ByteArray).map bl) (.slice none 0 0) []) := Lib.hid (by rw [List.map_nil, List.append_nil]; exact hS0)
  have T0 : Hid (Turn (fun b => b = m ∨ w.heap.size ≤ b) w W0) := Lib.hid (turn_below hB0)
  have O0 : Hid (OldS W0 (.slice none 0 0) ([] : List ByteArray).length (some ⟨w.heap.size + 1 + 1 + 1 + 1, 0, none⟩) [s]) := Lib.hid ⟨hR0, fun b off _ _ e => by cases e⟩
  have HX0 : Hid ((X0 ++ ([] : List ByteArray).map bl).length ≤ 2048) := Lib.hid (by rw [List.map_nil, List.append_nil]; exact hX)
  clear hq hI hX hM hT hs hS0 hB0 hR0
  go_enter Try.func52, Try.ntmps52
  go_wp2_with fail
  refine wp_scope_straight ?_
  go_wp2_with fail
  apply wp_label
  go_wp2_with fail
  rw [← hW0]
  clear hW0
  generalize hkb : w.heap.size = kb at *
  have HKB := Lib.hid hkb
  clear hkb
  generalize hfb : kb + 1 = fb at *
  generalize hlb : fb + 1 = lb at *
  generalize htb : lb + 1 = tb at *
  generalize hob : tb + 1 = ob at *
  have HFB := Lib.hid hfb
  clear hfb hlb htb hob
  go_loopw [7] (fun v7 wr => ∃ (v : Value) (fr On : List ByteArray) (ao : Option Addr) (cap : Nat), v7 = .slice ao On.length cap ∧ Hid (St10 wr kb kb fb lb tb p m (X0 ++ fr.map bl) v fr) ∧ Hid (Opens H X0 T (X0 ++ fr.map bl) (On.map bl)) ∧ Hid (OldS wr v fr.length ao On) ∧ Hid ((X0 ++ fr.map bl).length ≤ 2048) ∧ Hid (On.length ≤ 100000) ∧ Hid (Turn (fun b => b = m ∨ kb ≤ b) w wr)) (fun v7 wr => msr10 fb v7 wr)
  case atStart => exact ⟨_, [], [s], _, 1, rfl, S0, HO, O0, HX0, Lib.hid (by simp), T0⟩
  case round =>
    obtain ⟨v, fr, On, ao, cap, rfl, hst, hop, hold, hxl, hol, htn⟩ := hrel
    obtain ⟨a0, c0, rfl, _⟩ := ownT_row hst.out.own
    have cf : wr.cell? ⟨fb, 0, none⟩ = some (.slice a0 fr.length c0) := cell_of_row _ _ _ _ _ _ hst.out.cf
    have ff : wr.frozen? ⟨fb, 0, none⟩ = false := (show Boxed wr fb 22 (.slice a0 fr.length c0) from hst.out.cf).frozen
    have hol2 := hol.out
    by_cases h0 : On.length = 0
    · have HE : Hid (Full10 H T (X0 ++ fr.map bl)) := Lib.hid ⟨hop.out.nodup, hop.out.known, .inl ⟨hxl.out, opens_end HT.out HI.out (by have h := hop.out; rw [List.length_eq_zero_iff.1 h0] at h; exact h)⟩⟩
      have HSET := Lib.hid (St10.again hst.out)
      rw [h0]
      clear h0 hol2
      go_wp2_with fail
      rw [Exit.noGoto_ret]
      have cz : (wr.setCell ⟨fb, 0, none⟩ (.slice a0 fr.length c0)).cell? ⟨fb, 0, none⟩ = some (.slice a0 fr.length c0) := cell_of_row _ _ _ _ _ _ HSET.out.1.cf
      refine bodyPost_ret (v := (.slice a0 fr.length c0)) (by simp [results, Try.results52, go_sem, cz]) rfl ?_
      have hk := HKB.out
      exact ⟨_, fr, rfl, HSET.out.1.kp, by rw [hk]; exact HSET.out.1.own, by rw [hk]; exact turn_trans htn.out (turn_to2 HSET.out.2) (fun b hb => .inl hb), HE.out⟩
    · have h0' : (0 : Int) < (On.length : Int) := by omega
      obtain ⟨n, hn⟩ : ∃ n, n = On.length := ⟨_, rfl⟩
      have HN := Lib.hid hn
      rw [← hn] at h0 h0' hol2
      rw [← hn]
      clear hn
      have hd0 : decide (0 < n) = true := decide_eq_true (by omega)
      have hd1 : decide ((0 : Int) < (n : Int)) = true := decide_eq_true h0'
      obtain ⟨V0, rfl⟩ : ∃ V0, V0 = wr := ⟨wr, rfl⟩
      go_wp2_with fail
      go_loopw [22] (fun iv wr => ∃ (i : Nat) (u : Value) (gr : List ByteArray), iv = .int .i64 i ∧ i ≤ n ∧ Hid (St10 wr kb kb fb lb tb p m (X0 ++ gr.map bl) u gr) ∧ Hid (Tells H X0 T (X0 ++ fr.map bl) (On.map bl) i (X0 ++ gr.map bl)) ∧ Hid (fr <+: gr) ∧ Hid (OldS wr u gr.length ao On) ∧ Hid ((X0 ++ gr.map bl).length ≤ 2048) ∧ Hid (Turn (fun b => b = m ∨ kb ≤ b) w wr)) (fun iv _ => n - (intOf iv).toNat)
      case atStart => exact ⟨0, _, fr, rfl, Nat.zero_le _, hst, Lib.hid (tells_start hop.out), Lib.hid (List.prefix_refl _), hold, hxl, htn⟩
      case round =>
        obtain ⟨i, u, gr, rfl, hin, gst, gte, gpre, gold, gxl, gtn⟩ := hrel
        by_cases hi : i < n
        · have hi' : (i : Int) < (n : Int) := by omega
          have hil : i < On.length := by rw [← HN.out]; exact hi
          obtain ⟨g, off, rfl, ci⟩ := old_row10 gold.out i hil
          have ct := gst.out.cells.2
          have him : i < (On.map bl).length := by rw [List.length_map]; exact hil
          have hei : (On.map bl)[i] = bl On[i] := by simp
          obtain ⟨Y, hYv, hYe, _⟩ := hop.out.told (bl On[i]) (List.mem_map_of_mem (List.getElem_mem hil))
          have hY2 := hYv.2.2
          have HCK := Lib.hid (taken10_at Y.deep Y hYv (Nat.le_refl _) On[i] hYe.symm kb kb fb lb tb p m X0 u gr wr gst.out (by have := gxl.out; omega))
          have HTS := Lib.hid (tells_step hop.out him gte.out hYv (hYe.trans hei.symm))
          have HLL : Hid ((lstL (X0 ++ gr.map bl) Y).length ≤ 100000) := Lib.hid (by have h1 := lst_len (X0 ++ gr.map bl) hYv.1; have h2 := gxl.out; omega)
          have HI1 : Hid (i + 1 ≤ n) := Lib.hid hi
          generalize On[i] = si at *
          clear him hei hYv hYe hY2 hil
          go_wp2_with fail
          refine HCK.out.mono ?_; rintro e w4 ⟨⟨y, rfl⟩, u4, gr4, s4, e4, p4, l4⟩
          have S4 := Lib.hid s4
          have E4 := Lib.hid e4
          have P4 := Lib.hid (gpre.out.trans p4)
          have O4 := Lib.hid (l4.old _ _ gold.out)
          have T4 := Lib.hid (turn_trans gtn.out l4.turn (fun b hb => .inl hb))
          have ck : w4.cell? ⟨kb, 0, none⟩ = some (ptr10 p) := cell_of_row _ _ _ _ _ _ s4.ck
          have cp : w4.cell? ⟨p, 0, none⟩ = some (.map (some m)) := s4.kp.cell
          obtain ⟨z, hz⟩ : ∃ z, (X0 ++ gr4.map bl).length = z := ⟨_, rfl⟩
          have HZ := Lib.hid hz
          by_cases hbig : 2048 < z
          · have hb2 : (2048 : Int) < (z : Int) := by omega
            have HE : Hid (Full10 H T (X0 ++ gr4.map bl)) := Lib.hid (by
              rw [E4.out]
              refine ⟨HTS.out.nodup, HTS.out.known, .inr ⟨by rw [← E4.out, hz]; exact hbig, HLL.out, ?_⟩⟩
              have h1 := opens_cnt HTS.out.nodup HTS.out.known
              rw [← E4.out, hz] at h1
              omega)
            have HSET := Lib.hid (St10.again S4.out)
            obtain ⟨a4, c4, rfl, _⟩ := ownT_row S4.out.own
            have cf4 : w4.cell? ⟨fb, 0, none⟩ = some (.slice a4 gr4.length c4) := cell_of_row _ _ _ _ _ _ S4.out.cf
            have ff4 : w4.frozen? ⟨fb, 0, none⟩ = false := (show Boxed w4 fb 22 (.slice a4 gr4.length c4) from S4.out.cf).frozen
            clear s4 e4 p4 l4 ct ci hz hbig
            go_wp2_with (first | (at_len; refine wpList_len10 rfl _ rfl m (X0 ++ gr4.map bl) z HZ.out rfl S4.out.kp.2 ?_) | fail)
            rw [Exit.noGoto_ret]
            have cz : (w4.setCell ⟨fb, 0, none⟩ (.slice a4 gr4.length c4)).cell? ⟨fb, 0, none⟩ = some (.slice a4 gr4.length c4) := cell_of_row _ _ _ _ _ _ HSET.out.1.cf
            refine bodyPost_ret (v := (.slice a4 gr4.length c4)) (by simp [results, Try.results52, go_sem, cz]) rfl ?_
            have hk := HKB.out
            exact ⟨_, gr4, rfl, HSET.out.1.kp, by rw [hk]; exact HSET.out.1.own, by rw [hk]; exact turn_trans T4.out (turn_to2 HSET.out.2) (fun b hb => .inl hb), HE.out⟩
          · have hb2 : (z : Int) ≤ 2048 := by omega
            have XL4 : Hid ((X0 ++ gr4.map bl).length ≤ 2048) := Lib.hid (by rw [hz]; omega)
            have TE4 : Hid (Tells H X0 T (X0 ++ fr.map bl) (On.map bl) (i + 1) (X0 ++ gr4.map bl)) := Lib.hid (by rw [E4.out]; exact HTS.out)
            clear s4 e4 p4 l4 ct ci hz hbig
            go_wp2_with (first | (at_len; refine wpList_len10 rfl _ rfl m (X0 ++ gr4.map bl) z HZ.out rfl S4.out.kp.2 ?_) | fail)
            go_roundw
            case rel => exact ⟨i + 1, u4, gr4, by go_num, HI1.out, S4, TE4, P4, O4, XL4, T4⟩
            case measure => simp [intOf]; omega
        · obtain rfl : i = n := by omega
          obtain ⟨a1, c1, sh1, hs1, hc1, ht1⟩ := own_shape gst.out.own
          obtain rfl := sh1
          have hd : fr.length ≤ gr.length := gpre.out.length_le
          have hcut := cut_rest a1 gr.length c1 fr.length hd
          have hrow := rest_row ht1 hs1 hc1 fr.length
          generalize (if c1 = fr.length then a1 else a1.map (·.add fr.length)) = ao2 at hcut hrow
          have hXv : ∀ x ∈ X0 ++ gr.map bl, ∃ t : Tm, t.valid ∧ t.enc = x := fun x hx => by
            obtain ⟨y, h1, h2⟩ := gte.out.known x hx
            exact ⟨y, cl_valid h1, h2⟩
          have hgl : gr.length ≤ 2048 := by have := gxl.out; rw [List.length_append, List.length_map] at this; omega
          have hMr : MX wr := HM.out.turn gtn.out (by
            rintro (h | h)
            · exact HNE.out h
            · have := HPOS.out; omega)
          have HOPN := opened10_any p m (X0 ++ gr.map bl) (gr.drop fr.length) ao2 (c1 - fr.length) wr.drew (gst.out.kp.below (drew10 wr)) (hMr.step (drew10 wr)) (hrow.below (drew10 wr)) (by rw [List.length_drop]; omega) (by have := gxl.out; omega) hXv
          rw [List.length_drop] at HOPN
          have HOP := Lib.hid HOPN
          have GD := Lib.hid (gst.out.below (drew10 wr))
          have KS : wr.drew.cell? ⟨kb, 0, none⟩ = some (ptr10 p) ∧ wr.drew.cell? ⟨fb, 0, none⟩ = some (.slice a1 gr.length c1) := ⟨cell_of_row _ _ _ _ _ _ GD.out.ck, cell_of_row _ _ _ _ _ _ GD.out.cf⟩
          have HDL := Lib.hid hd
          have HGL := Lib.hid hgl
          obtain ⟨k2, hk2⟩ : ∃ k2, gr.length - fr.length = k2 := ⟨_, rfl⟩
          have HK2 := Lib.hid hk2
          rw [hk2] at hcut HOP
          obtain ⟨c2, hc2⟩ : ∃ c2, c1 - fr.length = c2 := ⟨_, rfl⟩
          rw [hc2] at hcut HOP
          clear hXv hgl hMr HOPN hrow hd hk2 hc2 hs1 hc1 ht1 cf ff
          go_wp2_with fail
          go_region_held3 (fun W => W.cell? ⟨kb, 0, none⟩ = some (ptr10 p) ∧ W.cell? ⟨fb, 0, none⟩ = some (.slice a1 gr.length c1)) (first | assumption) (first | (go_at_call 80; (with_reducible refine HOP.out.mono ?_); rintro e w4 ⟨v4, L, rfl, ho4, hop4, hmet4, hlen4, hnil4, b4⟩; obtain ⟨ao4, cap4, rfl, old4⟩ := old_new10 GD.out.own ho4; have KA : w4.cell? ⟨kb, 0, none⟩ = some (ptr10 p) ∧ w4.cell? ⟨fb, 0, none⟩ = some (.slice a1 gr.length c1) := ⟨cell_of_row _ _ _ _ _ _ (GD.out.below b4).ck, cell_of_row _ _ _ _ _ _ (GD.out.below b4).cf⟩; have S4 := Lib.hid (GD.out.below b4); have T4 := Lib.hid (turn_trans gtn.out (turn_below (F := fun b => b = m ∨ kb ≤ b) (below_step (drew10 wr) b4)) (fun b hb => .inl hb)); have OP4 := Lib.hid hop4; have ME4 := Lib.hid hmet4; have LE4 := Lib.hid hlen4; have NI4 := Lib.hid hnil4; have OL4 := Lib.hid old4; clear hop4 hmet4 hlen4 hnil4 old4 ho4 b4))
          have HOPS := Lib.hid (opens_next HT.out hop.out (by rw [← HN.out]; exact gte.out) gpre.out OP4.out ME4.out)
          have HLB : Hid (L.length ≤ 100000) := Lib.hid (by have h1 := LE4.out; have h2 := gxl.out; omega)
          have HMS : Hid ((2049 - gr.length) + (if L.length = 0 then 0 else 1) < (2049 - fr.length) + (if i = 0 then 0 else 1)) := Lib.hid (by
            have h1 := HDL.out
            have h2 := HGL.out
            rw [if_neg h0]
            by_cases he : gr.length = fr.length
            · have hL : L = [] := NI4.out (List.drop_eq_nil_of_le (by omega))
              rw [hL, if_pos List.length_nil]
              omega
            · split <;> omega)
          clear hcut KS KA HOP OP4 ME4 LE4 NI4
          go_wp2_with fail
          go_roundw
          case rel => exact ⟨_, gr, L, ao4, cap4, rfl, S4, HOPS, OL4, gxl, HLB, T4⟩
          case measure =>
            rw [msr10_at (cell_of_row _ _ _ _ _ _ S4.out.cf), msr10_at (cell_of_row _ _ _ _ _ _ hst.out.cf)]
            exact HMS.out
end Go.Proofs.Ytpajcalfjfkogaa.Pl

namespace Go.Proofs.Ytpajcalfjfkogaa.Pl
open Go.RowKit Go.Maps

theorem check_any10 (t : ByteArray) (ht : t.size ≤ 281474976710656) (w : World) : Calls Try.prog 27 #[.string t] w fun e w' => e = .returned (.int .i64 (checkP (bl t))) ∧ Below w.heap.size w w' := check_any t ht w
set_option maxRecDepth 100000 in
theorem know_nil_learn (t : ByteArray) (w : World) : Calls Try.prog 26 #[.pointer none, .string t] w fun e w' => e = .returned (.int .i64 1) ∧ Below w.heap.size w w' := by
  go_enter Try.func26, Try.ntmps26
  go_wp2_with fail
  go_ret
  exact ⟨rfl, Below.refl _ _⟩
set_option maxRecDepth 100000 in
theorem know_nil_can (t : ByteArray) (w : World) : Calls Try.prog 16 #[.pointer none, .string t] w fun e w' => e = .returned (.bool false) ∧ Below w.heap.size w w' := by
  go_enter Try.func16, Try.ntmps16
  go_wp2_with fail
  go_ret
  exact ⟨rfl, Below.refl _ _⟩
theorem isK_none : IsK [] [] := by
  refine ⟨List.nodup_nil, fun s => ⟨fun h => (by cases h), fun h => ?_⟩⟩
  have := known_cover h
  simp [coverP] at this
set_option maxRecDepth 100000 in
theorem know_new (w : World) : Calls Try.prog 25 #[] w fun e w' => (∃ p F, e = .returned (.pointer (some ⟨p, 0, none⟩)) ∧ KnowAt w' F p [] ∧ ∀ b, F b → w.heap.size ≤ b) ∧ Below w.heap.size w w' := by
  have hmm := @run_makeMap Try.prog
  go_enter Try.func25, Try.ntmps25
  go_wp2_with fail
  go_ret
  have n1 : (w.alloc (.map #[] 0)).heap.size = w.heap.size + 1 := by simp
  have b1 : Below w.heap.size w (w.alloc (.map #[] 0)) := (Below.refl _ _).alloc (Nat.le_refl _) _
  have b2 : Below w.heap.size w ((w.alloc (.map #[] 0)).alloc (.cells #[.map (some w.heap.size)] 88)) := b1.alloc (by omega) _
  refine ⟨⟨_, fun b => b = w.heap.size ∨ b = w.heap.size + 1, rfl, ⟨w.heap.size, [], ⟨?_, (mapK_new w).of_block (Below.heap_alloc _ _ _ (by omega))⟩, isK_none, Nat.zero_le _, .inr rfl, .inl rfl, fun b hb => by simp; omega⟩, fun b hb => by omega⟩, b2⟩
  have h := Go.heap_alloc_new (w.alloc (.map #[] 0)) (.cells #[.map (some w.heap.size)] 88)
  rw [n1] at h
  exact h
set_option maxHeartbeats 1000000 in
set_option maxRecDepth 100000 in
theorem know_can (F : Nat → Prop) (p : Nat) (H : List (List UInt8)) (t : ByteArray) (ht : t.size ≤ 281474976710656) (w : World) (h : KnowAt w F p H) :
    Calls Try.prog 16 #[.pointer (some ⟨p, 0, none⟩), .string t] w fun e w' => e = .returned (.bool (canPB H (bl t))) ∧ Below w.heap.size w w' := by
  obtain ⟨m, X, hq, hI, hX, _, _, _⟩ := h
  have HC := Lib.hid (check_any t ht w)
  by_cases hc : checkP (bl t) = 0
  · rw [hc] at HC
    obtain ⟨T, hT, hTe⟩ := check_iff.1 hc
    have HN := Lib.hid (fun V (hV : KP V p m X) => can10_at T.deep T hT (Nat.le_refl _) t hTe.symm p m X V hV)
    have he : canX X T = canPB H (bl t) := by
      rw [Bool.eq_iff_iff, canX_iff, canPB_iff, ← hTe, can_cl hT]
      exact isK_can hI T
    rw [he] at HN
    have HQ := Lib.hid hq
    clear hq hI hX hT hTe he hc ht
    go_enter Try.func16, Try.ntmps16
    go_wp2_with fail
    refine HC.out.mono ?_; rintro e w1 ⟨rfl, b1⟩
    have B1 := Lib.hid b1
    clear b1
    go_wp2_with fail
    refine (HN.out _ (HQ.out.below B1.out)).mono ?_; rintro e w2 ⟨rfl, b2⟩
    have B2 := Lib.hid (below_step B1.out b2)
    clear b2
    go_wp2_with fail
    go_ret
    exact ⟨rfl, B2.out⟩
  · have he : canPB H (bl t) = false := canPB_no (fun h => hc (can_check h))
    have hz : ((checkP (bl t) : Int) == 0) = false := by rw [beq_eq_false_iff_ne]; omega
    rw [he]
    generalize checkP (bl t) = z at *
    clear hq hI hX he hc ht
    go_enter Try.func16, Try.ntmps16
    go_wp2_with fail
    refine HC.out.mono ?_; rintro e w1 ⟨rfl, b1⟩
    have B1 := Lib.hid b1
    clear b1
    go_wp2_with fail
    go_ret
    exact ⟨rfl, B1.out⟩
theorem drop_at10 {fr : List ByteArray} {k : Nat} (hk : k < fr.length) : (fr.drop k).map bl = bl fr[k] :: (fr.drop (k + 1)).map bl := by
  rw [List.drop_eq_getElem_cons hk]
  rfl
theorem drop_nodup10 {X0 : List (List UInt8)} {fr : List ByteArray} (h : (X0 ++ fr.map bl).Nodup) (k : Nat) : (X0 ++ (fr.drop k).map bl).Nodup :=
  h.sublist ((List.Sublist.refl X0).append ((List.drop_sublist k fr).map bl))
set_option maxHeartbeats 4000000 in
set_option maxRecDepth 100000 in
theorem know_learn (F : Nat → Prop) (p : Nat) (H : List (List UInt8)) (t : ByteArray) (ht : t.size ≤ 281474976710656) (w : World) (h : KnowAt w F p H) (hM : MX w) :
    Calls Try.prog 26 #[.pointer (some ⟨p, 0, none⟩), .string t] w fun e w' => e = .returned (.int .i64 (learnE H (bl t))) ∧ (∃ F' : Nat → Prop, KnowAt w' F' p (learnH H (bl t)) ∧ ∀ b, F' b → F b ∨ w.heap.size ≤ b) ∧ Turn F w w' := by
  have HW := Lib.hid h
  obtain ⟨m, X, hq, hI, hX, hFp, hFm, hF⟩ := h
  have HC := Lib.hid (check_any t ht w)
  by_cases hc : checkP (bl t) = 0
  · rw [hc] at HC
    obtain ⟨T, hT, hTe⟩ := check_iff.1 hc
    have HCL := Lib.hid (fun V => clone_any t V ht)
    have HOB : Hid (∀ V, Below w.heap.size w V → Calls Try.prog 52 #[ptr10 p, .string t] V (ObsPost10 V p m H X T)) := Lib.hid (fun V hV => observe10_any p m H X T hT t hTe.symm V (hq.below hV) hI hX (hM.step hV))
    have HTT : Hid (∀ V V', Below w.heap.size w V → Turn (fun b => b = m ∨ V.heap.size ≤ b) V V' → Turn F w V') := Lib.hid (fun V V' h1 h2 => turn_trans (turn_below h1) h2 (fun b hb => hb.elim (fun e => .inl (e ▸ hFm)) (fun e => .inr (Nat.le_trans h1.size e))))
    have HI := Lib.hid hI
    have HX := Lib.hid hX
    have HFF := Lib.hid (And.intro hFp (And.intro hFm hF))
    have HTE := Lib.hid hTe
    have HCK := Lib.hid hc
    obtain ⟨LE, hLE⟩ : ∃ LE, learnE H (bl t) = LE := ⟨_, rfl⟩
    obtain ⟨LH, hLH⟩ : ∃ LH, learnH H (bl t) = LH := ⟨_, rfl⟩
    rw [hLE, hLH]
    have HLE := Lib.hid hLE
    have HLH := Lib.hid hLH
    clear hLE hLH
    clear hq hI hX hT hTe hc ht hM hFp hFm hF
    go_enter Try.func26, Try.ntmps26
    go_wp2_with fail
    refine HC.out.mono ?_; rintro e w1 ⟨rfl, b1⟩
    have B1 := Lib.hid b1
    clear b1
    go_wp2_with fail
    refine (HCL.out _).mono ?_; rintro e w2 ⟨rfl, b2⟩
    have B2 := Lib.hid (below_step B1.out b2)
    clear b2
    go_wp2_with fail
    refine (HOB.out _ B2.out).mono ?_; rintro e w3 ⟨v, fr, rfl, kp3, own3, tn3, nd3, kn3, full3⟩
    have T3 := Lib.hid (HTT.out _ _ B2.out tn3)
    have TN3 := Lib.hid tn3
    have K3 := Lib.hid kp3
    have cp := kp3.cell
    obtain ⟨z, hz⟩ : ∃ z, (X ++ fr.map bl).length = z := ⟨_, rfl⟩
    have HZ := Lib.hid hz
    rcases full3 with ⟨f1, f2⟩ | ⟨f1, f2, f3⟩
    · have hb : (z : Int) ≤ 2048 := by omega
      have hcn := cnt_eq f2
      have HE0 : learnE H (bl t) = 0 := learn_ok HCK.out (by rw [← HTE.out]; omega)
      have HE : Hid (LE = 0) := Lib.hid (by rw [← HLE.out]; exact HE0)
      have HK : Hid (KnowAt w3 F p LH) := Lib.hid (by
        have e : learnH H (bl t) = T.enc :: H := by unfold learnH; rw [if_pos HE0, HTE.out]
        rw [← HLH.out, e]
        exact ⟨m, _, kp3, f2, f1, HFF.out.1, HFF.out.2.1, fun b hb => Nat.lt_of_lt_of_le (HFF.out.2.2 b hb) T3.out.size⟩)
      clear kp3 own3 tn3 nd3 kn3 f1 f2 hcn hz HE0
      go_wp2_with (first | (at_len; refine wpList_len10 rfl _ rfl m (X ++ fr.map bl) z HZ.out rfl K3.out.2 ?_) | fail)
      go_ret
      exact ⟨by rw [HE.out]; rfl, ⟨F, HK.out, fun b hb => .inl hb⟩, T3.out⟩
    · have hb : (2048 : Int) < (z : Int) := by omega
      have HE0 : learnE H (bl t) = 4 := by unfold learnE; rw [if_neg (fun e => e HCK.out), ← HTE.out, if_pos f3]
      have HE : Hid (LE = 4) := Lib.hid (by rw [← HLE.out]; exact HE0)
      have HLH2 : Hid (LH = H) := Lib.hid (by rw [← HLH.out]; unfold learnH; rw [HE0, if_neg (by decide)])
      have HND := Lib.hid nd3
      have HSZ : Hid (∀ k, (hk : k < fr.length) → fr[k].size ≤ 281474976710656) := Lib.hid (fun k hk => by
        have := check_len (known_check (kn3 (bl fr[k]) (List.mem_append.2 (.inr (List.mem_map_of_mem (List.getElem_mem hk))))))
        rw [size_bl]
        omega)
      have hfl : fr.length ≤ 100000 := by rw [List.length_append, List.length_map] at f2; omega
      obtain ⟨ao, cap, rfl, hrow⟩ := ownT_row own3
      have R3 := Lib.hid hrow
      obtain ⟨n, hn⟩ : ∃ n, n = fr.length := ⟨_, rfl⟩
      have HN := Lib.hid hn
      rw [← hn] at hfl
      rw [← hn]
      have KP3 : Hid (KP w3 p m (X ++ (fr.drop 0).map bl)) := Lib.hid kp3
      clear kp3 own3 tn3 nd3 kn3 f1 f2 f3 hz hrow hn HC HCL HOB HE0
      go_wp2_with (first | (at_len; refine wpList_len10 rfl _ rfl m (X ++ fr.map bl) z HZ.out rfl K3.out.2 ?_) | fail)
      go_loopw [25] (fun iv wr => ∃ k : Nat, iv = .int .i64 k ∧ k ≤ n ∧ Hid (KP wr p m (X ++ (fr.drop k).map bl)) ∧ Hid (TxtRow wr ao fr) ∧ Hid (Turn (fun b => b = m ∨ w2.heap.size ≤ b) w2 wr)) (fun iv _ => n - (intOf iv).toNat)
      case atStart => exact ⟨0, rfl, Nat.zero_le _, KP3, R3, TN3⟩
      case round =>
        obtain ⟨k, rfl, hkn, hkp, hrw, htn⟩ := hrel
        by_cases hk : k < n
        · have hk' : (k : Int) < (n : Int) := by omega
          have hkl : k < fr.length := by rw [← HN.out]; exact hk
          have HS := Lib.hid (HSZ.out k hkl)
          have hnd := drop_nodup10 HND.out k
          have hkk := hkp.out
          rw [drop_at10 hkl] at hnd hkk
          have HKK := Lib.hid hkk
          have HND2 := Lib.hid hnd
          rcases hrw.out with e | ⟨g, off, rfl, hlt, hcc⟩
          · subst e
            simp at hkl
          have ck := hcc k hkl
          have eg : fr.getD k ByteArray.empty = fr[k] := by simp [List.getD_eq_getElem?_getD, hkl]
          rw [eg] at ck
          have cp2 := hkk.cell
          generalize fr[k] = s at *
          clear hcc hlt eg hnd hkk hkl cp
          go_wp2_with (first | (at_delete; refine wpList_drop10 rfl _ _ rfl m X ((fr.drop (k + 1)).map bl) s rfl rfl HKK.out.2 HS.out HND2.out ?_; intro w5 hk5 ht5) | fail)
          have K5 : Hid (KP w5 p m (X ++ (fr.drop (k + 1)).map bl)) := Lib.hid ⟨by
            obtain ⟨es, clock, hm⟩ := HKK.out.2.ex
            exact (ht5.grown.block p (Array.getElem?_eq_some_iff.1 HKK.out.1).1 (fun e => by
              have := Option.some.inj e
              subst this
              have h1 := HKK.out.1
              rw [hm] at h1
              cases h1)).trans HKK.out.1, hk5⟩
          have R5 := Lib.hid (txt_map10 hrw.out HKK.out.2 ht5)
          have T5 := Lib.hid (turn_trans htn.out (turned_turn (F := fun b => b = m ∨ w2.heap.size ≤ b) ht5 (.inl rfl)) (fun b hb => .inl hb))
          clear hk5 ht5
          go_roundw
          case rel => exact ⟨k + 1, by go_num, by omega, K5, R5, T5⟩
          case measure => simp [intOf]; omega
        · obtain rfl : k = n := by omega
          have K9 : Hid (KnowAt wr F p H) := Lib.hid (by
            have h9 := hkp.out
            rw [List.drop_of_length_le (by rw [← HN.out]; exact Nat.le_refl _), List.map_nil, List.append_nil] at h9
            exact ⟨m, X, h9, HI.out, HX.out, HFF.out.1, HFF.out.2.1, fun b hb => Nat.lt_of_lt_of_le (HFF.out.2.2 b hb) (HTT.out _ _ B2.out htn.out).size⟩)
          have T9 := Lib.hid (HTT.out _ _ B2.out htn.out)
          clear hk hkn
          go_wp2_with fail
          go_ret
          exact ⟨by rw [HE.out]; rfl, ⟨F, by rw [HLH2.out]; exact K9.out, fun b hb => .inl hb⟩, T9.out⟩
  · have he : learnE H (bl t) = 2 := by unfold learnE; rw [if_pos hc]
    have hh : learnH H (bl t) = H := by unfold learnH; rw [he, if_neg (by decide)]
    have hz : ((checkP (bl t) : Int) != 0) = true := by rw [bne_iff_ne]; omega
    rw [he, hh]
    generalize checkP (bl t) = z at *
    clear hq hI hX he hh hc ht hM hFp hFm hF
    go_enter Try.func26, Try.ntmps26
    go_wp2_with fail
    refine HC.out.mono ?_; rintro e w1 ⟨rfl, b1⟩
    have B1 := Lib.hid b1
    clear b1
    go_wp2_with fail
    go_ret
    exact ⟨rfl, ⟨F, HW.out.kept B1.out.size (fun b hb _ => B1.out.block b hb), fun b hb => .inl hb⟩, turn_below B1.out⟩
end Go.Proofs.Ytpajcalfjfkogaa.Pl

namespace Go.Proofs.Ytpajcalfjfkogaa.Pl
open Go.RowKit

theorem learn_not {l : List (List UInt8)} (hl : (l.map List.length).sum ≤ 6000) {k : Nat} (hk : k < l.length) : learnE (learns [] (l.take k)) l[k] ≠ 4 := by
  have h := learn_step hl hk
  by_cases hc : checkP l[k] = 0
  · rw [h.2 hc]
    decide
  · unfold learnE
    rw [if_pos hc]
    decide
/-- What can be made of them. -/
theorem can_learnt {l : List (List UInt8)} (hl : (l.map List.length).sum ≤ 6000) (t : List UInt8) : canPB (learns [] l) t = true ↔ canP l t := by
  rw [canPB_iff]
  exact canP_same (fun s hs => (learns_all l [] (by rw [List.append_nil]; exact hl) s hs).trans (by simp)) t
set_option maxHeartbeats 2000000 in
set_option maxRecDepth 100000 in
theorem knows11_any (l : List ByteArray) (ao : Option Addr) (cap : Nat) (hlen : l.length ≤ 1000000) (hl : ((l.map bl).map List.length).sum ≤ 6000) (w : World) (hrow : TxtRow w ao l) (hM : MX w) :
    Calls Try.prog 15 #[.slice ao l.length cap] w fun e w' => (∃ p F, e = .returned (.pointer (some ⟨p, 0, none⟩)) ∧ KnowAt w' F p (learns [] (l.map bl)) ∧ ∀ b, F b → w.heap.size ≤ b) ∧ Below w.heap.size w w' := by
  have HR := Lib.hid hrow
  have HMX := Lib.hid hM
  have HST : Hid (∀ k, (hk : k < l.length) → learnE (learns [] ((l.map bl).take k)) (bl l[k]) ≠ 4 ∧ learnH (learns [] ((l.map bl).take k)) (bl l[k]) = learns [] ((l.map bl).take (k + 1)) ∧ l[k].size ≤ 6000) := Lib.hid (fun k hk => by
    have hk' : k < (l.map bl).length := by rw [List.length_map]; exact hk
    have e : (l.map bl)[k] = bl l[k] := by simp
    refine ⟨by rw [← e]; exact learn_not hl hk', by rw [List.take_succ_eq_append_getElem hk', learns_snoc, e], ?_⟩
    rw [← bl_length, ← e]
    have h2 := sum_front (l.map bl) (k + 1)
    rw [List.take_succ_eq_append_getElem hk', List.map_append, List.sum_append] at h2
    simp only [List.map_cons, List.map_nil, List.sum_cons, List.sum_nil] at h2
    omega)
  obtain ⟨n, hn⟩ : ∃ n, n = l.length := ⟨_, rfl⟩
  have HN := Lib.hid hn
  rw [← hn] at hlen ⊢
  clear hrow hn hl hM
  go_enter Try.func15, Try.ntmps15
  go_wp2_with fail
  refine (know_new _).mono ?_; rintro e w1 ⟨⟨p, F, rfl, hk0, hF⟩, b1⟩
  have K1 := Lib.hid hk0
  have F1 := Lib.hid hF
  have B1 := Lib.hid b1
  clear hk0 hF b1
  go_wp2_with fail
  go_loopw [4] (fun iv wr => ∃ (k : Nat) (F : Nat → Prop), iv = .int .i64 k ∧ k ≤ n ∧ Hid (KnowAt wr F p (learns [] ((l.map bl).take k))) ∧ Hid (∀ b, F b → w.heap.size ≤ b) ∧ Hid (Below w.heap.size w wr)) (fun iv _ => n - (intOf iv).toNat)
  case atStart => exact ⟨0, F, rfl, Nat.zero_le _, K1, F1, B1⟩
  case round =>
    clear K1 F1 B1
    obtain ⟨k, F, rfl, hkn, hkk, hF, hb⟩ := hrel
    by_cases hk : k < n
    · have hk' : (k : Int) < (n : Int) := by omega
      have hkl : k < l.length := by rw [← HN.out]; exact hk
      rcases HR.out.below hb.out with e | ⟨g, off, rfl, hlt, hc⟩
      · exfalso
        rw [e] at hkl
        exact absurd hkl (Nat.not_lt_zero _)
      have ck := hc k hkl
      have eg : l.getD k ByteArray.empty = l[k] := by simp [List.getD_eq_getElem?_getD, hkl]
      rw [eg] at ck
      obtain ⟨s1, s2, s3⟩ := HST.out k hkl
      have HL := Lib.hid (know_learn F p _ l[k] (by omega) wr hkk.out (HMX.out.step hb.out))
      rw [s2] at HL
      generalize l[k] = x at *
      generalize learnE (learns [] ((l.map bl).take k)) (bl x) = E at *
      have q1 : ((E : Int) == 4) = false := by rw [beq_eq_false_iff_ne]; omega
      clear hc hlt eg s1 s2 s3
      go_wp2_with fail
      refine HL.out.mono ?_; rintro e w2 ⟨rfl, ⟨F2, hk2, hF2⟩, ht⟩
      have K2 := Lib.hid hk2
      have B2 := Lib.hid (hb.out.trans (turn_to ht hF.out hb.out.size))
      have FF2 : Hid (∀ b, F2 b → w.heap.size ≤ b) := Lib.hid (fun b hb2 => (hF2 b hb2).elim (hF.out b) (fun h => Nat.le_trans hb.out.size h))
      clear hk2 hF2 ht ck
      go_wp2_with fail
      go_roundw
      case rel => exact ⟨k + 1, F2, by go_num, by omega, K2, FF2, B2⟩
      case measure => simp [intOf]; omega
    · obtain rfl : k = n := by omega
      have HK : Hid (KnowAt wr F p (learns [] (l.map bl))) := Lib.hid (by
        have := hkk.out
        rwa [List.take_of_length_le (by rw [List.length_map, HN.out]; exact Nat.le_refl _)] at this)
      clear hk hkn
      go_wp2_with fail
      go_ret
      exact ⟨⟨p, F, rfl, HK.out, hF.out⟩, hb.out⟩
set_option maxHeartbeats 2000000 in
set_option maxRecDepth 100000 in
theorem hasspace11_any (l : List ByteArray) (ao : Option Addr) (cap : Nat) (hlen : l.length ≤ 1000000) (hl : ((l.map bl).map List.length).sum ≤ 6000) (w : World) (hrow : TxtRow w ao l) (hM : MX w) :
    Calls Try.prog 29 #[.slice ao l.length cap] w fun e w' => e = .returned (.bool true) ∧ Below w.heap.size w w' := by
  have HR := Lib.hid hrow
  have HMX := Lib.hid hM
  have HST : Hid (∀ k, (hk : k < l.length) → learnE (learns [] ((l.map bl).take k)) (bl l[k]) ≠ 4 ∧ learnH (learns [] ((l.map bl).take k)) (bl l[k]) = learns [] ((l.map bl).take (k + 1)) ∧ l[k].size ≤ 6000) := Lib.hid (fun k hk => by
    have hk' : k < (l.map bl).length := by rw [List.length_map]; exact hk
    have e : (l.map bl)[k] = bl l[k] := by simp
    refine ⟨by rw [← e]; exact learn_not hl hk', by rw [List.take_succ_eq_append_getElem hk', learns_snoc, e], ?_⟩
    rw [← bl_length, ← e]
    have h2 := sum_front (l.map bl) (k + 1)
    rw [List.take_succ_eq_append_getElem hk', List.map_append, List.sum_append] at h2
    simp only [List.map_cons, List.map_nil, List.sum_cons, List.sum_nil] at h2
    omega)
  obtain ⟨n, hn⟩ : ∃ n, n = l.length := ⟨_, rfl⟩
  have HN := Lib.hid hn
  rw [← hn] at hlen ⊢
  clear hrow hn hl hM
  go_enter Try.func29, Try.ntmps29
  go_wp2_with fail
  refine (know_new _).mono ?_; rintro e w1 ⟨⟨p, F, rfl, hk0, hF⟩, b1⟩
  have K1 := Lib.hid hk0
  have F1 := Lib.hid hF
  have B1 := Lib.hid b1
  clear hk0 hF b1
  go_wp2_with fail
  go_loopw [9] (fun iv wr => ∃ (k : Nat) (F : Nat → Prop), iv = .int .i64 k ∧ k ≤ n ∧ Hid (KnowAt wr F p (learns [] ((l.map bl).take k))) ∧ Hid (∀ b, F b → w.heap.size ≤ b) ∧ Hid (Below w.heap.size w wr)) (fun iv _ => n - (intOf iv).toNat)
  case atStart => exact ⟨0, F, rfl, Nat.zero_le _, K1, F1, B1⟩
  case round =>
    clear K1 F1 B1
    obtain ⟨k, F, rfl, hkn, hkk, hF, hb⟩ := hrel
    by_cases hk : k < n
    · have hk' : (k : Int) < (n : Int) := by omega
      have hkl : k < l.length := by rw [← HN.out]; exact hk
      rcases HR.out.below hb.out with e | ⟨g, off, rfl, hlt, hc⟩
      · exfalso
        rw [e] at hkl
        exact absurd hkl (Nat.not_lt_zero _)
      have ck := hc k hkl
      have eg : l.getD k ByteArray.empty = l[k] := by simp [List.getD_eq_getElem?_getD, hkl]
      rw [eg] at ck
      obtain ⟨s1, s2, s3⟩ := HST.out k hkl
      have HL := Lib.hid (know_learn F p _ l[k] (by omega) wr hkk.out (HMX.out.step hb.out))
      rw [s2] at HL
      generalize l[k] = x at *
      generalize learnE (learns [] ((l.map bl).take k)) (bl x) = E at *
      have q1 : ((E : Int) == 4) = false := by rw [beq_eq_false_iff_ne]; omega
      clear hc hlt eg s1 s2 s3
      go_wp2_with fail
      refine HL.out.mono ?_; rintro e w2 ⟨rfl, ⟨F2, hk2, hF2⟩, ht⟩
      have K2 := Lib.hid hk2
      have B2 := Lib.hid (hb.out.trans (turn_to ht hF.out hb.out.size))
      have FF2 : Hid (∀ b, F2 b → w.heap.size ≤ b) := Lib.hid (fun b hb2 => (hF2 b hb2).elim (hF.out b) (fun h => Nat.le_trans hb.out.size h))
      clear hk2 hF2 ht ck
      go_wp2_with fail
      go_roundw
      case rel => exact ⟨k + 1, F2, by go_num, by omega, K2, FF2, B2⟩
      case measure => simp [intOf]; omega
    · obtain rfl : k = n := by omega
      clear hk hkn
      go_wp2_with fail
      go_ret
      exact ⟨rfl, hb.out⟩
end Go.Proofs.Ytpajcalfjfkogaa.Pl
