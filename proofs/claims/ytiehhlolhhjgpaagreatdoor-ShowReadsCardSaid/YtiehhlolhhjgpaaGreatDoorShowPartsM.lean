/- What the reader's parts reads, where next reads as it should. -/
import Derived.Test.YtiehhlolhhjgpaaGreatDoorShowZ6
import Derived.Deep.RegionHeld3
namespace Go.Proofs.YtiehhlolhhjgpaaGreatDoor.Pl
open Go.RowKit

/-- What reading parts comes to. -/
def PartsN (B : Nat) (w : World) (o : Option (List (List UInt8) × List UInt8)) (e : Ending) (w' : World) : Prop :=
  Moved B w w' ∧ match o with | none => e = boom7 | some (l, r) => ∃ v L, e = .returned v ∧ OwnT w' w.heap.size v L ∧ L.map bl = l ∧ At7 B r w'
theorem PartsN.no {B : Nat} {w w' : World} (h : Moved B w w') : PartsN B w none boom7 w' := ⟨h, rfl⟩
theorem PartsN.yes {B : Nat} {w w' : World} {v : Value} {L : List ByteArray} {l : List (List UInt8)} {r : List UInt8} (h : Moved B w w') (ho : OwnT w' w.heap.size v L) (hl : L.map bl = l) (k : At7 B r w') : PartsN B w (some (l, r)) (.returned v) w' := ⟨h, v, L, rfl, ho, hl, k⟩
theorem boxed_load (B : Nat) : (Tryz.prog.info? 47).map (·.size) = some (#[skipV B, upV B].size) := reader_info
theorem At7.grown {B g : Nat} {s : List UInt8} {W W' : World} (h : At7 B s W) (hg : W.grownBy W' (some g)) (hne : B ≠ g) : At7 B s W' := (hg.block B h.lt (fun e => hne (Option.some.inj e))).trans h
theorem own_block {w W W' : World} {A b : Nat} {v : Value} {l : List ByteArray} {o : Obj} (h : OwnT w A v l) (hg : W.grownBy W' v.ownBlock) (hb : b < A) (k : W.heap[b]? = some o) : W'.heap[b]? = some o := by
  refine (hg.block b (Array.getElem?_eq_some_iff.1 k).1 (fun e => ?_)).trans k
  rcases h.2 with ⟨rfl, _⟩ | ⟨g, cap, cur, rfl, hgA, _⟩
  · cases e
  · have : b = g := by simpa [Value.ownBlock] using e
    omega
theorem own_moved {w w2 W W' : World} {A B : Nat} {v : Value} {l : List ByteArray} (h : OwnT w2 A v l) (hg : W.grownBy W' v.ownBlock) (hA : w.heap.size ≤ A) (hm : Moved B w W) : Moved B w W' := by
  rcases h.2 with ⟨rfl, _⟩ | ⟨g, cap, cur, rfl, hgA, _⟩
  · exact ⟨hg.os.trans hm.os, hg.tape.trans hm.tape, hg.output.trans hm.output, Nat.le_trans hm.size hg.size, fun b hb hne => (hg.block b (Nat.lt_of_lt_of_le hb hm.size) (fun e => by cases e)).trans (hm.block b hb hne)⟩
  · exact hm.grown (g := g) hg (by omega)
set_option maxHeartbeats 2000000 in
set_option maxRecDepth 100000 in
theorem partsm_any (nn : List UInt8 → Option (List UInt8 × List UInt8)) (hfit : Fits nn) (B : Nat) (hB : B ≠ 0) (D : Int)
    (hnext : ∀ (s : List UInt8) (V : World), s.length ≤ 1000000000 → At7 B s V → Frames V → Calls Tryz.prog 38 #[rdV B, .int .i64 D] V (RdPost B V (nn s)))
    (fin : UInt8) (s : List UInt8) (hs : s.length ≤ 1000000000) (w : World) (h : At7 B s w) (hF : Frames w) :
    Calls Tryz.prog 69 #[rdV B, .string ⟨#[fin]⟩, .int .i64 D] w (PartsN B w (nParts nn fin s)) := by
  obtain ⟨i0, hi, hz0, hz1, hz2⟩ := info_parts infoStr
  have HI := Lib.hid hi
  obtain ⟨hk, h0, hk0, m0⟩ := boxed7 B s w h
  have HBL := Lib.hid h.lt
  obtain ⟨z, hz⟩ : ∃ z, z = nParts nn fin s := ⟨_, rfl⟩
  rw [← hz]
  unfold nParts at hz
  have SK := skip_of B s [fin] (decide (s.head? = some fin)) (prefix_one fin s)
  have H0 := Lib.hid h0
  have HK0 := Lib.hid hk0
  have M0 := Lib.hid m0
  have HKB := Lib.hid hk
  have HN := Lib.hid hnext
  have HFT := Lib.hid hfit
  have HFR := Lib.hid hF
  have HB0 := Lib.hid hB
  have HSL := Lib.hid hs
  clear h0 hk0 m0 hk hnext hfit h hF hB hi hs
  by_cases hd : s.head? = some fin
  · rw [if_pos hd] at hz
    rw [decide_eq_true hd] at SK
    simp only [if_true, List.length_singleton] at SK
    have HZ := Lib.hid hz
    clear hz hd
    go_enter Tryz.func69, Tryz.ntmps69
    go_wp2_with (go_at_call 61; refine (SK.out _ H0.out).mono ?_; rintro e w1 ⟨rfl, a1, m1⟩; have A1 := Lib.hid a1; have M1 := Lib.hid (M0.out.trans m1); clear a1 m1)
    go_ret
    rw [HZ.out]
    exact PartsN.yes M1.out (ownT_nil _ _) rfl A1.out
  · rw [if_neg hd] at hz
    rw [decide_eq_false hd] at SK
    simp only [Bool.false_eq_true, if_false] at SK
    have HZ := Lib.hid hz
    clear hz hd
    go_enter Tryz.func69, Tryz.ntmps69
    go_wp2_with (go_at_call 61; refine (SK.out _ H0.out).mono ?_; rintro e w1 ⟨rfl, a1, m1⟩; have K1 := Lib.hid (m1.heap HKB.out HK0.out); have A1 := Lib.hid a1; have M1 := Lib.hid (M0.out.trans m1); clear a1 m1)
    go_loopw [7, 12] (fun lv iv wr => ∃ (i : Nat) (L : List ByteArray) (cur : List UInt8), iv = .int .i64 i ∧ i ≤ 32 ∧ Hid (cur.length ≤ 1000000000) ∧ Hid (L.length = i) ∧ Hid (OwnT wr (w.heap.size + 1) lv L) ∧ Hid (z = comb7 (L.map bl) (nRest nn fin (32 - i) cur)) ∧ Hid (At7 B cur wr) ∧ Hid (wr.heap[w.heap.size]? = some (.cells #[skipV B, upV B] 47 (0, 0))) ∧ Hid (Moved B w wr)) (fun _ iv _ => 32 - (intOf iv).toNat)
    case atStart => exact ⟨0, [], s, rfl, by decide, HSL, Lib.hid rfl, Lib.hid (ownT_nil _ _), Lib.hid (by
      rw [HZ.out]
      show _ = comb7 [] (nRest nn fin 32 s)
      cases nRest nn fin 32 s with
      | none => rfl
      | some y => rfl), A1, K1, M1⟩
    case round =>
      obtain ⟨i, L, cur, rfl, hi32, hcl, hLl, hown, hzr, hat, hkb, hm⟩ := hrel
      by_cases hi : i < 32
      · have hi' : (i : Int) < 32 := by omega
        have hk31 : 32 - i = (31 - i) + 1 := by omega
        rw [hk31] at hzr
        have HNX := Lib.hid (HN.out cur wr hcl.out hat.out (HFR.out.moved HB0.out hm.out))
        obtain ⟨c0, c1⟩ := rd_cells hkb.out
        have HK32 := Lib.hid hi32
        have HI2 := Lib.hid hi
        clear hi hi32 hk31
        cases hnn : nn cur with
        | none =>
          rw [hnn] at HNX
          have HZN := Lib.hid (hzr.out.trans (comb7_none (L.map bl) hnn))
          clear hnn
          go_wp2_with (first
            | (refine wpList_load_row rfl 47 _ rfl w.heap.size rfl 47 _ _ _ hkb.out Tryz.underlying47 rfl (boxed_load B) ?_)
            | (go_at_call 38; refine HNX.out.mono ?_; rintro e w2 ⟨m2, rfl⟩))
          exact ⟨rfl, by rw [HZN.out]; exact PartsN.no (hm.out.trans m2)⟩
        | some y =>
          obtain ⟨t, r⟩ := y
          rw [hnn] at HNX
          obtain ⟨ft, fr⟩ := HFT.out cur t r hnn
          have HRL : Hid (r.length ≤ 1000000000) := Lib.hid (by have := hcl.out; omega)
          have HNN := Lib.hid hnn
          have SK2 := skip_of B r [fin] (decide (r.head? = some fin)) (prefix_one fin r)
          have SP2 := skip_of B r [44, 32] (decide (r.take 2 = [44, 32])) (prefix_two 44 32 r)
          have hLl2 := hLl.out
          clear hnn ft fr
          go_wp2_with (first
            | (refine wpList_load_row rfl 47 _ rfl w.heap.size rfl 47 _ _ _ hkb.out Tryz.underlying47 rfl (boxed_load B) ?_)
            | (go_at_call 38; refine HNX.out.mono ?_; rintro e w2 ⟨m2, rfl, a2⟩; have A2 := Lib.hid a2; have O2 := Lib.hid (ownT_moved hown.out (Nat.lt_succ_of_lt HBL.out) m2); have K2 := Lib.hid (m2.heap HKB.out hkb.out); have M2 := Lib.hid (hm.out.trans m2); clear a2 m2)
            | (at_builtin; refine wpList_append_own _ rfl _ _ 29 rfl (w.heap.size + 1) 9 i0 (.string ⟨#[]⟩) 1 16 Tryz.underlying29 HI.out hz0 hz1 hz2 rfl (by decide) _ _ _ rfl (World.ownsRow.alloc O2.out _) ⟨w2.heap.size, 0, none⟩ 1 1 [.string ⟨t.toArray⟩] rfl rfl ?c1 ?c2 ?c3 ?c4 ?c5 ?_))
          case c1 =>
            intro j u hj
            match j, hj with
            | 0, hj => simp at hj; subst hj; simp [Addr.add]
            | (j + 1), hj => simp at hj
          case c2 => intro u hu; simp at hu; subst hu; rfl
          case c3 => have := HI2.out; unfold maxLen; omega
          case c4 => have := HI2.out; omega
          case c5 => have h1 := (Array.getElem?_eq_some_iff.1 K2.out).1; simp; omega
          intro v' w3 hown' hgrow _
          have O3 : Hid (OwnT w3 (w.heap.size + 1) v' (L ++ [(⟨t.toArray⟩ : ByteArray)])) := Lib.hid (by
            unfold OwnT
            rw [show txts (L ++ [(⟨t.toArray⟩ : ByteArray)]) = txts L ++ [.string ⟨t.toArray⟩] by simp [txts], List.length_append, List.length_singleton, hLl.out]
            exact hown')
          have A3 : Hid (At7 B r w3) := Lib.hid (own_block O2.out hgrow (by have := HBL.out; omega) (A2.out.alloc _))
          have K3 : Hid (w3.heap[w.heap.size]? = some (.cells #[skipV B, upV B] 47 (0, 0))) := Lib.hid (own_block O2.out hgrow (Nat.lt_succ_self _) ((Lib.alloc_old _ _ _ (Array.getElem?_eq_some_iff.1 K2.out).1).trans K2.out))
          have M3 : Hid (Moved B w w3) := Lib.hid (own_moved O2.out hgrow (Nat.le_succ _) (M2.out.trans (Moved.of_below ((Below.refl _ w2).alloc (Nat.le_refl _) _))))
          obtain ⟨d0, d1⟩ := rd_cells K3.out
          have HMB : Hid ((L ++ [(⟨t.toArray⟩ : ByteArray)]).map bl = L.map bl ++ [t]) := Lib.hid (by rw [List.map_append]; rfl)
          clear hown' hgrow
          by_cases hfi : r.head? = some fin
          · rw [decide_eq_true hfi] at SK2
            simp only [if_true, List.length_singleton] at SK2
            have HZE := Lib.hid (hzr.out.trans (comb7_end (L.map bl) HNN.out hfi))
            clear hfi SP2
            go_wp2_with (go_at_call 61; refine (SK2.out _ A3.out).mono ?_; rintro e w4 ⟨rfl, a4, m4⟩; have A4 := Lib.hid a4; have M4 := Lib.hid (M3.out.trans m4); have O4 := Lib.hid (ownT_moved O3.out (Nat.lt_succ_of_lt HBL.out) m4); clear a4 m4)
            go_ret
            rw [HZE.out]
            exact PartsN.yes M4.out (ownT_mono7 (Nat.le_succ _) O4.out) HMB.out A4.out
          · rw [decide_eq_false hfi] at SK2
            simp only [Bool.false_eq_true, if_false] at SK2
            by_cases hsp : r.take 2 = [44, 32]
            · rw [decide_eq_true hsp] at SP2
              simp only [if_true, List.length_cons, List.length_nil] at SP2
              have HZE := Lib.hid (hzr.out.trans (comb7_on (L.map bl) HNN.out hfi hsp))
              clear hfi hsp
              go_wp2_with fail
              refine (SK2.out _ A3.out).mono ?_; rintro e w4 ⟨rfl, a4, m4⟩
              have K4 := Lib.hid (m4.heap HKB.out K3.out)
              obtain ⟨f0, f1⟩ := rd_cells K4.out
              have A4 := Lib.hid a4; have M4 := Lib.hid (M3.out.trans m4); have O4 := Lib.hid (ownT_moved O3.out (Nat.lt_succ_of_lt HBL.out) m4)
              clear a4 m4
              go_wp2_with fail
              refine (SP2.out _ A4.out).mono ?_; rintro e w5 ⟨rfl, a5, m5⟩
              have K5 := Lib.hid (m5.heap HKB.out K4.out)
              have A5 := Lib.hid a5; have M5 := Lib.hid (M4.out.trans m5); have O5 := Lib.hid (ownT_moved O4.out (Nat.lt_succ_of_lt HBL.out) m5)
              clear a5 m5
              go_wp2_with (go_at_call 39; refine (need7_ok _).mono ?_; rintro e w6 ⟨rfl, rfl⟩)
              go_roundw
              case rel => exact ⟨i + 1, L ++ [(⟨t.toArray⟩ : ByteArray)], r.drop 2, by go_num, by have := HI2.out; omega, Lib.hid (by rw [List.length_drop]; have := HRL.out; omega), Lib.hid (by rw [List.length_append, List.length_singleton, hLl.out]), O5, Lib.hid (by rw [HZE.out, HMB.out, show 32 - (i + 1) = 31 - i by omega]), A5, K5, M5⟩
              case measure => simp [intOf]; have := HI2.out; omega
            · rw [decide_eq_false hsp] at SP2
              simp only [Bool.false_eq_true, if_false] at SP2
              have HZE := Lib.hid (hzr.out.trans (comb7_no (L.map bl) HNN.out hfi hsp))
              clear hfi hsp
              go_wp2_with fail
              refine (SK2.out _ A3.out).mono ?_; rintro e w4 ⟨rfl, a4, m4⟩
              have K4 := Lib.hid (m4.heap HKB.out K3.out)
              obtain ⟨f0, f1⟩ := rd_cells K4.out
              have A4 := Lib.hid a4; have M4 := Lib.hid (M3.out.trans m4)
              clear a4 m4
              go_wp2_with fail
              refine (SP2.out _ A4.out).mono ?_; rintro e w5 ⟨rfl, a5, m5⟩
              have M5 := Lib.hid (M4.out.trans m5)
              clear a5 m5
              go_wp2_with fail
              refine (need7_bad _).mono ?_; rintro e w6 ⟨rfl, rfl⟩
              exact ⟨rfl, by rw [HZE.out]; exact PartsN.no M5.out⟩
      · have hi' : ¬ (i : Int) < 32 := by omega
        have HZE : Hid (z = none) := Lib.hid (by
          rw [hzr.out, show 32 - i = 0 by omega, nRest]; rfl)
        clear hi hi32
        go_wp2_with fail
        exact ⟨rfl, by rw [HZE.out]; exact PartsN.no hm.out⟩
end Go.Proofs.YtiehhlolhhjgpaaGreatDoor.Pl
