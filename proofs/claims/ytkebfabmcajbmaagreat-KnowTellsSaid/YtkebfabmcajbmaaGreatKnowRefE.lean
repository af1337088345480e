/- What the document's Learn of layer 10 answers. -/
import Derived.Test.YtkebfabmcajbmaaGreatKnowRefD
import Derived.Laws.AppendOwnNone
namespace Go.Proofs.YtkebfabmcajbmaaGreat.Pl
open Go.RowKit

/-- A copy of a row: append([]string(nil), l...). -/
theorem wpList_copy10 {ops : Array Oper} {rest : List Oper} {o : Oper} {a : Act} {Q : Exit → Act → World → Prop} {w : World} (hgd : o.guard = none) (x : Operand)
    (ho : o.op = .call { callee := .builtin .append, args := #[.const (.slice none 0 0), x], argTypes := #[22, 22] })
    (ao : Option Addr) (cap : Nat) (l : List ByteArray) (hx : a.eval x = .slice ao l.length cap) (hs : TxtRow w ao l) (hn : l.length ≤ 1000000000) (hp : ao = none → cap = 0) (B : Nat) (hB : B ≤ w.heap.size)
    (h : ∀ v' w', OwnT w' B v' l → Below B w w' → w.grownBy w' none → wpList Tryz.prog ops Q rest (a.put o.dst v') w') : wpList Tryz.prog ops Q (o :: rest) a w := by
  obtain ⟨i0, hi, hz0, hz1, hz2⟩ := info_parts infoStr
  cases ao with
  | none =>
    have h0 : l = [] := by
      rcases hs with h0 | ⟨b, off, hb, _⟩
      · exact h0
      · cases hb
    subst h0
    obtain rfl := hp rfl
    exact wpList_append_own_none hgd _ x 22 ho B 9 i0 1 Tryz.underlying22 hi (.slice none 0 0) 0 [] rfl (World.ownsRow_nil _ _ _ _) hx
      (h _ w (ownT_nil _ _) (Below.refl _ _) ⟨rfl, rfl, rfl, Nat.le_refl _, fun _ _ _ => rfl⟩)
  | some ad =>
    refine wpList_append_own w hgd _ x 22 ho B 9 i0 (.string ⟨#[]⟩) 1 16 Tryz.underlying22 hi hz0 hz1 hz2 rfl (by decide) (.slice none 0 0) 0 [] rfl ⟨rfl, .inl ⟨rfl, rfl⟩⟩ ad l.length cap (txts l) hx (by rw [txts_length, Nat.mul_one]) ?_ ?_ (by unfold maxLen; omega) (by omega) hB ?_
    · intro j u hu
      have hj := (List.getElem?_eq_some_iff.1 hu).1
      rw [txts_length] at hj
      rcases hs with h0 | ⟨b, off, hb, hlt, hc⟩
      · subst h0; simp at hj
      · cases hb
        rw [txts_at l j hj] at hu
        have e : u = .string (l.getD j ByteArray.empty) := (Option.some.inj hu).symm
        rw [e, show (⟨b, off, none⟩ : Addr).add j = ⟨b, off + j, none⟩ from by unfold Addr.add; split <;> simp_all]
        exact hc j hj
    · intro u hu
      obtain ⟨y, _, rfl⟩ := List.mem_map.1 hu
      rfl
    · intro v' w' hown hgrow _
      refine h v' w' ?_ ((Below.refl B w).grown hgrow hB (fun j hj => by cases hj)) hgrow
      unfold OwnT
      rw [Nat.zero_add, List.nil_append] at hown
      exact hown
/-- What has turned: what is in F alone. -/
structure Turn (F : Nat → Prop) (w w' : World) : Prop where
  os : w'.os = w.os
  tape : w'.tape = w.tape
  output : w'.output = w.output
  size : w.heap.size ≤ w'.heap.size
  block : ∀ k, k < w.heap.size → ¬ F k → w'.heap[k]? = w.heap[k]?
theorem turn_below {F : Nat → Prop} {w w' : World} (h : Below w.heap.size w w') : Turn F w w' := ⟨h.os, h.tape, h.output, h.size, fun k hk _ => h.block k hk⟩
theorem turn_grown {F : Nat → Prop} {w w' : World} {r : Nat} (h : w.grownBy w' (some r)) (hr : F r) : Turn F w w' :=
  ⟨h.os, h.tape, h.output, h.size, fun k hk hn => h.block k hk (fun e => hn (by rw [Option.some.inj e]; exact hr))⟩
theorem turn_trans {F G : Nat → Prop} {w w1 w2 : World} (h : Turn F w w1) (k : Turn G w1 w2) (hG : ∀ b, G b → F b ∨ w.heap.size ≤ b) : Turn F w w2 :=
  ⟨k.os.trans h.os, k.tape.trans h.tape, k.output.trans h.output, Nat.le_trans h.size k.size, fun b hb hn => (k.block b (Nat.lt_of_lt_of_le hb h.size) (fun e => (hG b e).elim hn (fun e => absurd hb (by omega)))).trans (h.block b hb hn)⟩
theorem turn_to {F : Nat → Prop} {B : Nat} {w w' : World} (h : Turn F w w') (hF : ∀ b, F b → B ≤ b) (hB : B ≤ w.heap.size) : Below B w w' :=
  ⟨h.os, h.tape, h.output, h.size, fun k hk => h.block k (Nat.lt_of_lt_of_le hk hB) (fun e => by have := hF k e; omega)⟩
theorem txt_block {w w' : World} {ao : Option Addr} {l : List ByteArray} (h : TxtRow w ao l) (hs : w.heap.size ≤ w'.heap.size) (hb : ∀ b off, ao = some ⟨b, off, none⟩ → w'.heap[b]? = w.heap[b]?) : TxtRow w' ao l := by
  rcases h with h | ⟨b, off, e, hlt, hc⟩
  · exact .inl h
  · exact .inr ⟨b, off, e, Nat.lt_of_lt_of_le hlt hs, fun j hj => (World.cell?_of_block (a := ⟨b, off + j, none⟩) (hb b off e)).trans (hc j hj)⟩
/-- Block r is somebody who has seen H; G: where it lies. -/
def RefAt (w : World) (G : Nat → Prop) (r : Nat) (H : List (List UInt8)) : Prop :=
  ∃ L ao cap, w.heap[r]? = some (.cells #[.slice ao L.length cap] 34 (0, 0)) ∧ TxtRow w ao L ∧ (ao = none → cap = 0) ∧ L.length ≤ 2048 ∧ IsK H (L.map bl) ∧ G r ∧ (∀ b off, ao = some ⟨b, off, none⟩ → L ≠ [] → G b)
theorem RefAt.kept {w w' : World} {G : Nat → Prop} {r : Nat} {H : List (List UInt8)} (h : RefAt w G r H) (hs : w.heap.size ≤ w'.heap.size) (hb : ∀ b, b < w.heap.size → G b → w'.heap[b]? = w.heap[b]?) : RefAt w' G r H := by
  obtain ⟨L, ao, cap, h1, h2, h3, h4, h5, h6, h7⟩ := h
  refine ⟨L, ao, cap, (hb r (Array.getElem?_eq_some_iff.1 h1).1 h6).trans h1, ?_, h3, h4, h5, h6, h7⟩
  by_cases h0 : L = []
  · exact .inl h0
  · rcases h2 with h2 | ⟨b, off, e, hlt, hc⟩
    · exact .inl h2
    · exact txt_block (.inr ⟨b, off, e, hlt, hc⟩) hs (fun b' off' e' => by
        rw [e] at e'
        cases e'
        exact hb b hlt (h7 b off e h0))
theorem RefAt.below {w w' : World} {G : Nat → Prop} {r : Nat} {H : List (List UInt8)} (h : RefAt w G r H) (hb : Below w.heap.size w w') : RefAt w' G r H := h.kept hb.size (fun b hlt _ => hb.block b hlt)
theorem RefAt.turn {w w' : World} {F G : Nat → Prop} {r : Nat} {H : List (List UInt8)} (h : RefAt w G r H) (ht : Turn F w w') (hd : ∀ b, G b → ¬ F b) : RefAt w' G r H := h.kept ht.size (fun b hlt hg => ht.block b hlt (hd b hg))
theorem RefAt.lt {w : World} {G : Nat → Prop} {r : Nat} {H : List (List UInt8)} (h : RefAt w G r H) : r < w.heap.size := by
  obtain ⟨L, ao, cap, h1, _⟩ := h
  exact (Array.getElem?_eq_some_iff.1 h1).1
theorem below_grown {w w' : World} (h : Below w.heap.size w w') (r : Option Nat) : w.grownBy w' r := ⟨h.os, h.tape, h.output, h.size, fun k hk _ => h.block k hk⟩
/-- What may be known of one more is bounded by what was known. -/
theorem known_via {H L : List (List UInt8)} (h : IsK H L) (t : List UInt8) {s : List UInt8} (k : knownP (t :: H) s) : knownP (t :: L) s := by
  obtain ⟨y, hy, rfl⟩ := k
  refine ⟨y, cl_least (cl_sat _) (fun u hu z hz => ?_) y hy, rfl⟩
  rcases List.mem_cons.1 hu.2 with e | hu2
  · exact cl_take ⟨hu.1, List.mem_cons.2 (.inl e)⟩ z hz
  · have hv : z.valid := cand_valid u hu.1 z (take_cand u z hz)
    have hin : z.enc ∈ L := (h.2 _).2 ⟨z, cl_take ⟨hu.1, hu2⟩ z hz, rfl⟩
    obtain ⟨hd, l, rfl, h1, h2⟩ := take_kind u z hz
    exact cl_take ⟨hv, List.mem_cons.2 (.inr hin)⟩ _ (by rw [take_self h1 h2]; exact List.mem_singleton.2 rfl)
theorem sum_le : ∀ (l : List (List UInt8)), (∀ s ∈ l, s.length ≤ 16384) → (l.map List.length).sum ≤ 16384 * l.length
  | [], _ => Nat.le_refl _
  | s :: l, h => by
    have h1 := h s (List.mem_cons.2 (.inl rfl))
    have h2 := sum_le l fun u hu => h u (List.mem_cons.2 (.inr hu))
    simp only [List.map_cons, List.sum_cons, List.length_cons]
    omega
theorem grows_bound {H L0 M : List (List UInt8)} {T : Tm} (hT : T.valid) (h0 : IsK H L0) (hl : L0.length ≤ 2048) (h : Grows H L0 T M) : M.length ≤ 12000000 := by
  have h1 := nodup_len h.1 fun s hs => known_cover (known_via h0 _ (h.2.1 s hs))
  have h2 := cover_len (T.enc :: L0)
  have h3 := sum_le (T.enc :: L0) (fun s hs => by
    rcases List.mem_cons.1 hs with rfl | hs
    · exact hT.2.2
    · exact check_len (known_check ((h0.2 s).1 hs)))
  simp only [List.length_cons] at h3
  omega
/-- What Learn leaves. -/
def Learnt (w : World) (G : Nat → Prop) (r : Nat) (H : List (List UInt8)) (t : List UInt8) (e : Ending) (w' : World) : Prop :=
  e = .returned (.int .i64 (learnE H t)) ∧ (∃ G' : Nat → Prop, RefAt w' G' r (learnH H t) ∧ ∀ b, G' b → G b ∨ w.heap.size ≤ b) ∧ w.grownBy w' (some r)
theorem learnH_no {H : List (List UInt8)} {t : List UInt8} (h : learnE H t ≠ 0) : learnH H t = H := by unfold learnH; rw [if_neg h]
theorem learnH_yes {H : List (List UInt8)} {t : List UInt8} (h : learnE H t = 0) : learnH H t = t :: H := by unfold learnH; rw [if_pos h]
set_option maxHeartbeats 4000000 in
set_option maxRecDepth 100000 in
theorem rlearn10_any (G : Nat → Prop) (r : Nat) (H : List (List UInt8)) (t : ByteArray) (ht : t.size ≤ 281474976710656) (w : World) (hr : RefAt w G r H) :
    Calls Tryz.prog 14 #[.pointer (some ⟨r, 0, none⟩), .string t] w (Learnt w G r H (bl t)) := by
  have HM := Lib.hid (rmay_any t ht w)
  by_cases hc : checkP (bl t) = 0
  · rw [may_yes hc] at HM
    obtain ⟨T, hT, hTe⟩ := check_iff.1 hc
    obtain ⟨L, ao, cap, hh, hrow, hp, hl, hk, hG1, hG2⟩ := hr
    have HG1 := Lib.hid hG1
    have HR := Lib.hid hrow
    have HH := Lib.hid hh
    have HK := Lib.hid hk
    have hlt := (Array.getElem?_eq_some_iff.1 hh).1
    have HT1 : Hid (∀ (V : World) (B q : Nat) (v : Value), OQ V B q v L → Calls Tryz.prog 27 #[.pointer (some ⟨q, 0, none⟩), .string t] V (Told V B q v L.length (takeL (L.map bl) T))) := Lib.hid (fun V B q v hV => rtake10_at 16 T hT hT.2.1 t hTe.symm B q v L V hV (by have := hT.2.2; omega))
    have HG0 : Hid (Grows H (L.map bl) T (takeL (L.map bl) T)) := Lib.hid (grows_take hT hk)
    have HB : Hid (∀ M, Grows H (L.map bl) T M → M.length ≤ 12000000) := Lib.hid (fun M hM => grows_bound hT hk (by rw [List.length_map]; exact hl) hM)
    have HS0 : Hid ((takeL (L.map bl) T).length = L.length → Sat (LB (takeL (L.map bl) T))) := Lib.hid (fun e => grows_start hk (by rw [e, List.length_map]))
    have HO : Hid (∀ (V : World) (B q : Nat) (v : Value) (M : List ByteArray), OQ V B q v M → Grows H (L.map bl) T (M.map bl) → Calls Tryz.prog 28 #[.pointer (some ⟨q, 0, none⟩)] V (Told V B q v M.length (openL (M.map bl)))) := Lib.hid (fun V B q v M hV hM => ropen10_any B q v M (fun s hs => known_check (hM.2.1 _ (List.mem_map_of_mem hs))) (by
      have := HB.out _ (grows_open hM)
      omega) V hV)
    have HEND : Hid (∀ M : List ByteArray, Grows H (L.map bl) T (M.map bl) → Sat (LB (M.map bl)) → IsK (bl t :: H) (M.map bl) ∧ cntP (bl t :: H) = M.length) := Lib.hid (fun M hM hs => by
      have := grows_end hT hk hM hs
      rw [hTe] at this
      exact ⟨this, by rw [← cnt_eq this, List.length_map]⟩)
    have HRE : Hid (∀ w', Below w.heap.size w w' → ∃ G' : Nat → Prop, RefAt w' G' r H ∧ ∀ b, G' b → G b ∨ w.heap.size ≤ b) := Lib.hid (fun w' hb => ⟨G, RefAt.below ⟨L, ao, cap, hh, hrow, hp, hl, hk, hG1, hG2⟩ hb, fun _ h => .inl h⟩)
    have HFU : Hid (2048 < cntP (bl t :: H) → learnE H (bl t) = 4) := Lib.hid (fun h => by unfold learnE; rw [if_neg (fun e => e hc), if_pos h])
    have HOK : Hid (¬ 2048 < cntP (bl t :: H) → learnE H (bl t) = 0) := Lib.hid (fun h => by unfold learnE; rw [if_neg (fun e => e hc), if_neg h])
    clear hc hT hTe hk hh hrow ht hG1 hG2
    go_enter Tryz.func14, Tryz.ntmps14
    go_wp2_with fail
    refine HM.out.mono ?_; rintro e w1 ⟨rfl, b1⟩
    have B1 := Lib.hid b1
    have R1 := Lib.hid (HR.out.below b1)
    have h1 := (b1.block r hlt).trans HH.out
    have c1 : w1.cell? ⟨r, 0, none⟩ = some (.slice ao L.length cap) := cell_of_row _ _ _ _ _ _ h1
    have hs1 := b1.size
    clear b1 h1
    go_wp2_with (at_builtin; refine wpList_copy10 rfl _ rfl ao cap L rfl R1.out (by omega) hp w.heap.size hs1 ?_; intro v w2 hown hb2 hg2; have O2 := Lib.hid hown; have B2 := Lib.hid (B1.out.trans hb2); have hs2 := B2.out.size; obtain ⟨a2, cap2, rfl, _⟩ := ownT_row hown; clear hown hb2 hg2)
    have hq0 : OQ (w2.alloc (.cells #[.slice a2 L.length cap2] 34)) w.heap.size w2.heap.size (.slice a2 L.length cap2) L := ⟨Go.heap_alloc_new w2 _, World.ownsRow.alloc O2.out _, hs2, by simp; omega⟩
    have B3 := Lib.hid (B2.out.alloc hs2 (.cells #[.slice a2 L.length cap2] 34))
    refine (HT1.out _ _ _ _ hq0).mono ?_
    generalize w2.heap.size = q at *
    rintro e w4 ⟨⟨y, rfl⟩, v4, M4, hoq, hM, hb4, _⟩
    have Q4 := Lib.hid hoq
    have B4 := Lib.hid (B3.out.trans hb4)
    have G4 : Hid (Grows H (L.map bl) T (M4.map bl)) := Lib.hid (by rw [hM]; exact HG0.out)
    have S4 : Hid (L.length = M4.length → Sat (LB (M4.map bl))) := Lib.hid (fun e => by rw [hM]; exact HS0.out (by rw [← hM, List.length_map, e]))
    have L4 : Hid (L.length ≤ M4.length) := Lib.hid (by
      have := (take_front (L.map bl) T).length_le
      rw [← hM, List.length_map, List.length_map] at this
      exact this)
    have c4 : w4.cell? ⟨r, 0, none⟩ = some (.slice ao L.length cap) := cell_of_row _ _ _ _ _ _ ((B4.out.block r hlt).trans HH.out)
    clear hq0 hoq hM hb4 c1 hs1 hs2
    go_wp2_with fail
    clear c4
    go_loopw [6] (fun iv wr => ∃ (k : Nat) (u : Value) (M : List ByteArray), iv = .int .i64 k ∧ k ≤ 12000000 ∧ Hid (OQ wr w.heap.size q u M) ∧ Hid (Grows H (L.map bl) T (M.map bl)) ∧ Hid (k = M.length → Sat (LB (M.map bl))) ∧ Hid (k ≤ M.length) ∧ Hid (Below w.heap.size w wr)) (fun iv _ => 12000000 - (intOf iv).toNat)
    case atStart => exact ⟨L.length, v4, M4, rfl, by omega, Q4, G4, S4, L4, B4⟩
    case round =>
      obtain ⟨k, u, M, rfl, hk12, hoq, hg, hs, hkm, hb⟩ := hrel
      obtain ⟨au, cu, rfl, hro⟩ := ownT_row hoq.out.2.1
      have HRO := Lib.hid hro
      clear hro
      have cu0 : wr.cell? ⟨q, 0, none⟩ = some (.slice au M.length cu) := cell_of_row _ _ _ _ _ _ hoq.out.1
      have hM12 := HB.out _ hg.out
      rw [List.length_map] at hM12
      by_cases hlt2 : k < M.length
      · have q1 : (k : Int) < (M.length : Int) := by omega
        have HOC := Lib.hid (HO.out wr _ q _ M hoq.out hg.out)
        have HGO := Lib.hid (grows_open hg.out)
        have HSO : Hid ((openL (M.map bl)).length = M.length → Sat (LB (openL (M.map bl)))) := Lib.hid (fun e => by
          have e2 : (openL (M.map bl)).length = (M.map bl).length := by rw [e, List.length_map]
          rw [front_eq (openL_front (M.map bl)) (List.prefix_refl _) e2]
          exact open_same e2)
        have HFL : Hid (M.length ≤ (openL (M.map bl)).length) := Lib.hid (by
          have := (openL_front (M.map bl)).length_le
          rwa [List.length_map] at this)
        go_wp2_with fail
        refine HOC.out.mono ?_; rintro e w5 ⟨⟨y5, rfl⟩, v5, M5, hoq5, hM5, hb5, _⟩
        have Q5 := Lib.hid hoq5
        have G5 : Hid (Grows H (L.map bl) T (M5.map bl)) := Lib.hid (by rw [hM5]; exact HGO.out)
        have S5 : Hid (M.length = M5.length → Sat (LB (M5.map bl))) := Lib.hid (fun e => by rw [hM5]; exact HSO.out (by rw [← hM5, List.length_map, e]))
        have L5 : Hid (M.length ≤ M5.length) := Lib.hid (by
          have := HFL.out
          rw [← hM5, List.length_map] at this
          exact this)
        have B5 := Lib.hid (hb.out.trans hb5)
        clear hoq5 hM5 hb5 cu0
        go_wp2_with fail
        go_roundw
        case rel => exact ⟨M.length, v5, M5, rfl, hM12, Q5, G5, S5, L5, B5⟩
        case measure => simp [intOf]; omega
      · have hkm' := hkm.out
        obtain rfl : k = M.length := by omega
        have HE := Lib.hid (HEND.out M hg.out (hs.out rfl))
        clear hlt2
        by_cases hfull : 2048 < M.length
        · have q2 : (2048 : Int) < (M.length : Int) := by omega
          have HF := Lib.hid (HFU.out (by rw [HE.out.2]; exact hfull))
          clear hfull
          go_wp2_with fail
          go_ret
          exact ⟨by rw [HF.out]; rfl, by rw [learnH_no (by rw [HF.out]; decide)]; exact HRE.out _ hb.out, below_grown hb.out _⟩
        · have q2 : ¬ (2048 : Int) < (M.length : Int) := by omega
          have HF := Lib.hid (HOK.out (by rw [HE.out.2]; exact hfull))
          have h5 := (hb.out.block r hlt).trans HH.out
          have c5 : wr.cell? ⟨r, 0, none⟩ = some (.slice ao L.length cap) := cell_of_row _ _ _ _ _ _ h5
          have f5 : wr.frozen? ⟨r, 0, none⟩ = false := (show Boxed wr r 34 (.slice ao L.length cap) from h5).frozen
          go_wp2_with fail
          go_ret
          have hnone : au = none → cu = 0 := fun e => by
            rcases hoq.out.2.1.2 with ⟨e2, _⟩ | ⟨g, c2, cur, e2, _⟩
            · injection e2
            · injection e2 with e2 _ _
              rw [e] at e2
              cases e2
          have htx : TxtRow (wr.setCell ⟨r, 0, none⟩ (.slice au M.length cu)) au M := by
            by_cases h0 : M = []
            · exact .inl h0
            · refine HRO.out.grown (grownBy_setCell' wr r _) fun b off e hb => ?_
              subst e
              exact txt_ne HRO.out h0 h5 (Option.some.inj hb).symm
          refine ⟨by rw [HF.out]; rfl, ?_, ?_⟩
          · rw [learnH_yes HF.out]
            exact ⟨fun b => b = r ∨ w.heap.size ≤ b, ⟨M, au, cu, (show Boxed wr r 34 (.slice ao L.length cap) from h5).set _, htx, hnone, by omega, HE.out.1, .inl rfl, fun b off e _ => .inr (own_low hoq.out.2.1 (by rw [e]; rfl))⟩, fun b hb => hb.elim (fun e => .inl (by rw [e]; exact HG1.out)) .inr⟩
          · have hg := grownBy_setCell' wr r (.slice au M.length cu)
            have hbb := hb.out
            exact ⟨hg.os.trans hbb.os, hg.tape.trans hbb.tape, hg.output.trans hbb.output, Nat.le_trans hbb.size hg.size, fun k hk hne => (hg.block k (Nat.lt_of_lt_of_le hk hbb.size) hne).trans (hbb.block k hk)⟩
  · rw [may_no hc] at HM
    have HE : Hid (learnE H (bl t) = 2) := Lib.hid (by unfold learnE; rw [if_pos hc])
    have HR := Lib.hid hr
    clear hc hr ht
    go_enter Tryz.func14, Tryz.ntmps14
    go_wp2_with fail
    refine HM.out.mono ?_; rintro e w1 ⟨rfl, b1⟩
    have B1 := Lib.hid b1
    clear b1
    go_wp2_with fail
    go_ret
    exact ⟨by rw [HE.out]; rfl, by rw [learnH_no (by rw [HE.out]; decide)]; exact ⟨G, HR.out.below B1.out, fun _ h => .inl h⟩, below_grown B1.out _⟩
end Go.Proofs.YtkebfabmcajbmaaGreat.Pl
