/- What the document's Padded answers. -/
import Derived.Test.YtbhcjdpachboaaaDoorKeysBase2
import Derived.ArgAppend
import Derived.Lib.ConvBytes
namespace Go.Proofs.YtbhcjdpachboaaaDoor.Pl
open Go.RowKit

/-- A slice of bytes in a block from B on, which reads as l; what is spare may be written. -/
def Own8 (w : World) (B : Nat) (v : Value) (l : List Nat) : Prop :=
  ∃ g cap, v = .slice (some ⟨g, 0, none⟩) l.length cap ∧ B ≤ g ∧ l.length ≤ cap ∧ (∀ j, j < l.length → w.cell? ⟨g, j, none⟩ = some (.int .u8 ((l.getD j 0 : Nat) : Int))) ∧
    ∀ j, j < cap → (w.cell? ⟨g, j, none⟩).isSome = true ∧ w.frozen? ⟨g, j, none⟩ = false
theorem Own8.alloc {w : World} {B : Nat} {v : Value} {l : List Nat} (h : Own8 w B v l) (o : Obj) : Own8 (w.alloc o) B v l := by
  obtain ⟨g, cap, hv, hB, hl, h1, h2⟩ := h
  refine ⟨g, cap, hv, hB, hl, fun j hj => ?_, fun j hj => ?_⟩
  · have := h1 j hj
    rw [World.cell?_alloc_lt _ _ _ (World.block_lt_of_cell? w _ this)]; exact this
  · obtain ⟨k1, k2⟩ := h2 j hj
    obtain ⟨u, hu⟩ := Option.isSome_iff_exists.1 k1
    have hb := World.block_lt_of_cell? w _ hu
    exact ⟨by rw [World.cell?_alloc_lt _ _ _ hb]; exact k1, by rw [World.frozen?_alloc_past _ _ _ hb]; exact k2⟩

theorem u8s_at (l : List Nat) (j : Nat) (h : j < l.length) : (u8s l)[j]? = some (.int .u8 ((l.getD j 0 : Nat) : Int)) := by
  simp [u8s, List.getD_eq_getElem?_getD, h]
theorem u8s_snoc (l : List Nat) (x : Nat) : u8s (l ++ [x]) = u8s l ++ [.int .u8 (x : Int)] := by simp [u8s]
theorem getD_snoc (l : List Nat) (x j : Nat) : (l ++ [x]).getD j 0 = if j < l.length then l.getD j 0 else if j = l.length then x else 0 := by
  rw [List.getD_eq_getElem?_getD]
  by_cases h : j < l.length
  · rw [if_pos h, List.getElem?_append_left h, List.getD_eq_getElem?_getD]
  · rw [if_neg h, List.getElem?_append_right (by omega)]
    by_cases e : j = l.length
    · rw [if_pos e, e]; simp
    · rw [if_neg e, List.getElem?_eq_none (by simp; omega)]; rfl

theorem wpList_push8 {ops : Array Oper} {rest : List Oper} {o : Oper} {a : Act} {Q : Exit → Act → World → Prop} {w : World} (hg : o.guard = none) (s y : Operand)
    (hop : o.op = Op.call { callee := Callee.builtin Builtin.append, args := #[s, y], argTypes := #[74, 74] })
    (B : Nat) (v : Value) (l : List Nat) (hs : a.eval s = v) (hown : Own8 w B v l) (hBw : B ≤ w.heap.size) (b c x : Nat) (hx : a.eval y = .slice (some ⟨b, 0, none⟩) 1 c) (hc : w.cell? ⟨b, 0, none⟩ = some (.int .u8 (x : Int))) (hl : l.length < 1000000)
    (K : ∀ v' w', Own8 w' B v' (l ++ [x]) → Below B w w' → wpList Tryd.prog ops Q rest (a.put o.dst v') w') : wpList Tryd.prog ops Q (o :: rest) a w := by
  obtain ⟨i0, hi, hz0, hz1, hz2⟩ := info_parts info_u8
  obtain ⟨g, cap, hv, hB, hcap, h1, h2⟩ := hown
  refine wpList_append_arg w hg s y 74 hop 5 i0 (.int .u8 0) 1 1 Tryd.underlying74 hi hz0 hz1 hz2 rfl (by decide) g 0 l.length cap (u8s l) (by rw [hs, hv]) (by simp [u8s]) ?_
    ⟨b, 0, none⟩ 1 c [.int .u8 (x : Int)] hx rfl ?_ ?_ ?_ (by unfold maxLen; omega) (by omega) ?_ ?_
  · intro j u hu
    have hj : j < l.length := by have := (List.getElem?_eq_some_iff.1 hu).1; simpa [u8s] using this
    rw [u8s_at l j hj] at hu
    rw [Nat.zero_add, h1 j hj, hu]
  · intro j u hu
    obtain rfl : j = 0 := by have := (List.getElem?_eq_some_iff.1 hu).1; simp at this; exact this
    simp at hu
    subst hu
    rw [add_none]; exact hc
  · intro u hu; simp at hu; subst hu; rfl
  · intro hr j hj
    have hj0 : j = 0 := by simp at hj; exact hj
    subst hj0
    rw [show 0 + l.length * 1 + 0 = l.length by omega]
    exact h2 l.length (by omega)
  · intro hr
    refine K _ _ ⟨g, cap, by simp, hB, by simp; omega, fun j hj => ?_, fun j hj => ?_⟩ ?_
    · rw [show 0 + l.length * 1 = l.length by omega, getD_snoc]
      simp at hj
      by_cases h : j < l.length
      · rw [if_pos h, World.cell?_setCells_out g _ _ _ _ (fun _ _ => Or.inl h)]; exact h1 j h
      · obtain rfl : j = l.length := by omega
        rw [if_neg h, if_pos rfl]
        have := World.cell?_setCells_in g [.int .u8 (x : Int)] l.length w (fun i hi' => by
          have hi0 : i = 0 := by simp at hi'; exact hi'
          subst hi0
          exact (h2 (l.length + 0) (by omega)).1) 0 (by simp)
        exact this
    · refine ⟨World.isSome_setCells g _ _ _ _ (h2 j hj).1, ?_⟩
      rw [World.frozen?_setCells]; exact (h2 j hj).2
    · exact ((Below.refl B w).setCell (p := ⟨g, 0 + l.length * 1, none⟩) hB _)
  · intro hr v' w' hown' hgrow
    obtain ⟨g', cap', rfl, hg', hlt⟩ := hown'.form (by omega)
    refine K _ _ ⟨g', cap', by simp, by omega, ?_, fun j hj => ?_, fun j hj => ?_⟩ ?_
    · rcases hown'.2 with ⟨h', _⟩ | ⟨g'', cap'', cur, h', _, _, hn, _⟩
      · simp at h'
      · simp only [Value.slice.injEq] at h'
        obtain ⟨_, _, rfl⟩ := h'
        simpa using hn
    · have hj' : j < (l.length + 1) * 1 := by simp at hj; omega
      rw [hown'.cellAt j hj', ← u8s_snoc, u8s_at _ _ hj]
    · rcases hown'.2 with ⟨h', _⟩ | ⟨g'', cap'', cur, h', _, hg, hn, _, hsz, _⟩
      · simp at h'
      · simp only [Value.slice.injEq, Option.some.injEq, Addr.mk.injEq, and_true, true_and] at h'
        obtain ⟨rfl, rfl⟩ := h'
        have hj' : j < cur.size := by rw [hsz]; omega
        refine ⟨?_, frozen_of_row w' g' j cur _ hg⟩
        rw [cell_of_row w' g' j cur _ (0, 0) hg]
        simp [hj']
    · exact (Below.refl B w).grown hgrow (by omega) (fun k hk => by cases hk)

theorem own_bytes (w : World) (s : ByteArray) : Own8 (Lib.bytesWorld w 5 s) w.heap.size (.slice (some ⟨w.heap.size, 0, none⟩) s.size (grownCap w s.size 0 5)) (nums s) := by
  have hb := Lib.bytesWorld_at_new w 5 s
  have hg : s.size ≤ grownCap w s.size 0 5 := grownCap_ge w s.size 0 5
  have hz : (Lib.bytesCells w 5 s).size = grownCap w s.size 0 5 := by
    have : s.data.size = s.size := rfl
    simp [Lib.bytesCells]; omega
  refine ⟨w.heap.size, _, by rw [nums_length], Nat.le_refl _, by rw [nums_length]; exact hg, fun j hj => ?_, fun j hj => ?_⟩
  · rw [nums_length] at hj
    rw [Lib.bytesWorld_cell w _ s j hj]
    simp only [nums, List.getD_eq_getElem?_getD, List.getElem?_map, Array.getElem?_toList]
    cases s.data[j]? <;> rfl
  · rw [← hz] at hj
    refine ⟨by rw [cell_of_row _ _ _ _ _ _ hb]; simp [hj], ?_⟩
    simp only [World.frozen?, hb]
    simp; omega
theorem below_bytes (w : World) (s : ByteArray) : Below w.heap.size w (Lib.bytesWorld w 5 s) :=
  ⟨rfl, rfl, rfl, by rw [Lib.bytesWorld_size]; omega, fun k hk => Lib.bytesWorld_at_old w _ s k hk⟩

set_option maxHeartbeats 1000000 in
set_option maxRecDepth 100000 in
theorem padded_any (s : ByteArray) (hs : s.size ≤ 900000) (w : World) :
    Calls Tryd.prog 56 #[.string s] w fun e w' => e = .returned (.string (bytesOf (padded (nums s)))) ∧ Below w.heap.size w w' := by
  have hcv := Lib.run_convert_string_bytes (P := Tryd.prog) w 9 74 5 s Tryd.underlying9 Tryd.underlying74 Tryd.underlying5
  have hO := own_bytes w s
  have hB := below_bytes w s
  generalize (.slice (some ⟨w.heap.size, 0, none⟩) s.size (grownCap w s.size 0 5) : Value) = v0 at hcv hO
  generalize Lib.bytesWorld w 5 s = W0 at hcv hO hB
  have HO := Lib.hid hO
  have HB := Lib.hid hB
  have HL := Lib.hid (nums_length s)
  clear hO hB
  obtain ⟨m, em⟩ : ∃ m, m = nums s := ⟨_, rfl⟩
  rw [← em]
  rw [← em] at HO HL
  have EM := Lib.hid em
  clear em
  have hcell : (W0.alloc (.cells #[.int .u8 128] 5)).cell? ⟨W0.heap.size, 0, none⟩ = some (.int .u8 ((128 : Nat) : Int)) := by
    rw [cell_of_row _ _ _ _ _ _ (Go.heap_alloc_new _ _)]; rfl
  have HC := Lib.hid hcell
  clear hcell
  go_enter Tryd.func56, Tryd.ntmps56
  go_wp2_with (at_builtin; refine wpList_push8 rfl _ _ rfl w.heap.size v0 m rfl (HO.out.alloc _) (by have := HB.out.size; simp; omega) W0.heap.size 1 128 rfl HC.out (by rw [HL.out]; omega) ?_; intro v1 w1 hown1 hb1)
  have HB1 := Lib.hid ((HB.out.alloc (by have := HB.out.size; exact this) (.cells #[.int .u8 128] 5)).trans hb1)
  have HO1 := Lib.hid hown1
  clear hown1 hb1 HC HB HO hcv
  go_loopw [3] (fun v wr => ∃ z : Nat, z ≤ zs m.length ∧ Hid (Own8 wr w.heap.size v (m ++ 128 :: List.replicate z 0)) ∧ Hid (Below w.heap.size w wr)) (fun v _ => match v with | .slice _ n _ => m.length + 65 - n | _ => 0)
  case atStart => exact ⟨0, by omega, HO1, HB1⟩
  case round =>
    clear HO1 HB1
    obtain ⟨z, hz, hown, hbw⟩ := hrel
    have hown' := hown.out
    obtain ⟨g, cap, rfl, right⟩ := hown'
    obtain ⟨n, en⟩ : ∃ n, n = (m ++ 128 :: List.replicate z 0).length := ⟨_, rfl⟩
    have en' : n = m.length + 1 + z := by rw [en]; simp; omega
    have hml := HL.out
    rw [← en] at hown ⊢
    have EN := Lib.hid en
    have EN' := Lib.hid en'
    have HML := Lib.hid hml
    clear en
    by_cases hlt : z < zs m.length
    · have hz4 : n % 64 ≠ 56 := by have := zs_before m.length z hlt; rwa [← en'] at this
      obtain ⟨r, er⟩ : ∃ r, r = n % 64 := ⟨_, rfl⟩
      have hz1 : ((n : Nat) : Int).tmod 64 = (r : Int) := by rw [Int.tmod_eq_emod_of_nonneg (by omega)]; omega
      have hz2 : ((n : Nat) : Int) % 64 = (r : Int) := by omega
      have hz3 : ((r : Int) == 56) = false := by simp; omega
      have hz5 : ((r : Int) != 56) = true := by simp; omega
      clear hz4 er
      have hcell : (wr.alloc (.cells #[.int .u8 0] 5)).cell? ⟨wr.heap.size, 0, none⟩ = some (.int .u8 ((0 : Nat) : Int)) := by
        rw [cell_of_row _ _ _ _ _ _ (Go.heap_alloc_new _ _)]; rfl
      have HC := Lib.hid hcell
      have hzl := zs_le m.length
      clear hcell en' hml
      go_wp2_with (at_builtin; refine wpList_push8 rfl _ _ rfl w.heap.size (.slice (some ⟨g, 0, none⟩) n cap) (m ++ 128 :: List.replicate z 0) rfl (hown.out.alloc _) (by have := hbw.out.size; simp; omega) wr.heap.size 1 0 rfl HC.out (by rw [← EN.out, EN'.out, HML.out]; omega) ?_; intro v2 w2 hown2 hb2)
      go_roundw
      case rel =>
        have e : (m ++ 128 :: List.replicate z 0) ++ [0] = m ++ 128 :: List.replicate (z + 1) 0 := by
          rw [List.append_assoc, List.cons_append, ← List.replicate_succ']
        rw [e] at hown2
        exact ⟨z + 1, by omega, Lib.hid hown2, Lib.hid ((hbw.out.alloc (by have := hbw.out.size; omega) _).trans hb2)⟩
      case measure =>
        obtain ⟨g', cap', rfl, _⟩ := hown2
        have := EN'.out
        rw [List.length_append, ← EN.out]
        simp; omega
    · obtain rfl : z = zs m.length := by omega
      have hz0 := zs_spec m.length
      have hz1 : ((n : Nat) : Int).tmod 64 = 56 := by rw [Int.tmod_eq_emod_of_nonneg (by omega)]; omega
      have hz2 : ((n : Nat) : Int) % 64 = 56 := by omega
      clear en' hml
      go_wp2_with fail
      go_loopw [3, 5] (fun v i wr => ∃ j : Nat, j ≤ 8 ∧ i = .int .i64 (7 - j) ∧ Hid (Own8 wr w.heap.size v ((m ++ 128 :: List.replicate (zs m.length) 0) ++ (lenB m.length).take j)) ∧ Hid (Below w.heap.size w wr)) (fun _ i _ => (intOf i + 1).toNat)
      case atStart => exact ⟨0, by omega, rfl, Lib.hid (by rw [List.take_zero, List.append_nil]; exact hown.out), hbw⟩
      case round =>
        clear hown hbw right
        obtain ⟨j, hj, rfl, hown, hbw⟩ := hrel
        obtain ⟨p, ep⟩ : ∃ p, p = m ++ 128 :: List.replicate (zs m.length) 0 := ⟨_, rfl⟩
        have hpl : p.length = m.length + 1 + zs m.length := by rw [← EN'.out, EN.out, ep]
        have EP := Lib.hid ep
        rw [← ep] at hown
        have hown' := hown.out
        obtain ⟨g1, cap1, rfl, right⟩ := hown'
        have hln : (p ++ (lenB m.length).take j).length = p.length + j := by rw [List.length_append, List.length_take, lenB_length]; omega
        rw [hln] at hown ⊢ right
        have HLN := Lib.hid hln
        have HPL := Lib.hid hpl
        obtain ⟨n1, en1⟩ : ∃ n1, n1 = p.length + j := ⟨_, rfl⟩
        rw [← en1] at hown ⊢
        have EN1 := Lib.hid en1
        clear hpl hln right en1 ep
        by_cases hlt : j < 8
        · obtain ⟨sh, esh⟩ : ∃ sh, sh = 8 * (7 - j) := ⟨_, rfl⟩
          have h1 : (8 : Int) * (7 - (j : Int)) = (sh : Int) := by omega
          obtain ⟨x, ex⟩ : ∃ x, x = lenAt m.length j := ⟨_, rfl⟩
          have h2 : (8 * (s.size : Int) / 2 ^ sh) % 256 = (x : Int) := by
            rw [ex, lenAt, HL.out, ← esh, Nat.mul_comm, Int.natCast_emod, Int.natCast_ediv, Int.natCast_pow]; rfl
          have hcell : (wr.alloc (.cells #[.int .u8 (x : Int)] 5)).cell? ⟨wr.heap.size, 0, none⟩ = some (.int .u8 (x : Int)) := by
            rw [cell_of_row _ _ _ _ _ _ (Go.heap_alloc_new _ _)]; rfl
          have HC := Lib.hid hcell
          have h3 : sh ≤ 56 := by omega
          have h4 : IntKind.u64.wrap (sh : Int) = sh := by rw [IntKind.wrap_u64]; omega
          have h5 : ∀ y : Int, IntKind.u8.wrap y = y % 256 := IntKind.wrap_u8'
          have EX := Lib.hid ex
          clear esh ex hcell
          go_wp2_with (at_builtin; refine wpList_push8 rfl _ _ rfl w.heap.size (.slice (some ⟨g1, 0, none⟩) n1 cap1) (p ++ (lenB m.length).take j) rfl (hown.out.alloc _) (by have := hbw.out.size; simp; omega) wr.heap.size 1 x rfl HC.out (by rw [HLN.out, HPL.out]; have := HML.out; have := zs_le m.length; omega) ?_; intro v2 w2 hown2 hb2)
          go_roundw
          case rel =>
            have e : (p ++ (lenB m.length).take j) ++ [x] = (m ++ 128 :: List.replicate (zs m.length) 0) ++ (lenB m.length).take (j + 1) := by
              rw [List.append_assoc, take_next _ _ (by rw [lenB_length]; exact hlt), lenB_at _ _ hlt, EX.out, EP.out]
            rw [e] at hown2
            exact ⟨j + 1, by omega, by go_num, Lib.hid hown2, Lib.hid ((hbw.out.alloc (by have := hbw.out.size; omega) _).trans hb2)⟩
          case measure => simp [intOf]; omega
        · obtain rfl : j = 8 := by omega
          have hall : p ++ (lenB m.length).take 8 = padded m := by
            rw [List.take_of_length_le (by rw [lenB_length]; exact Nat.le_refl _), EP.out]; rfl
          have ho := hown.out
          have hn := HLN.out
          rw [hall] at ho hn
          obtain ⟨g2, cap2, hv, _, _, hc, _⟩ := ho
          have hbm : Bytes (padded m) := Bytes.padded (by rw [EM.out]; exact nums_bytes s)
          have hcv := back_string wr g2 0 cap2 (padded m) (fun i => hbm.at i) (fun i hi => by rw [Nat.zero_add]; exact hc i hi)
          rw [← hv] at hcv
          have HCV := Lib.hid hcv
          clear hown hall hn hv hc hbm hcv
          have hcv := HCV.out
          go_wp2_with fail
          go_ret
          exact ⟨rfl, hbw.out⟩
end Go.Proofs.YtbhcjdpachboaaaDoor.Pl
