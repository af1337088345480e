/- What octet.pieces hands to a loop, and how a function that holds a label is walked at the wide fence. -/
import Derived.RangeFuncBox
import Derived.RangeFuncNested
import Derived.RangeFuncLeaves
import Derived.Shelf.Abstract
import Derived.WalkKit
import Derived.OwnWalkIn
import Derived.TacticsInMore
import Derived.LoopNIn
import Derived.LoopIn
import Derived.Maps.AppendAt
import Derived.Test.YtdddmaobmdinbaaReadText
import Derived.Test.YtdddmaobmdinbaaPlaind
namespace Go.Proofs.Ytdddmaobmdinbaa.Pl
open Go.RowKit Go.Shelf
attribute [local go_sem] Oper.semAt_some

abbrev Piece : Type := List UInt8 × { k : Nat // k ≤ 281474976710656 } × Nat
def cl (n : Nat) : { k : Nat // k ≤ 281474976710656 } := ⟨min n 281474976710656, Nat.min_le_right _ _⟩
def pc (r : List UInt8 × Nat × Nat) : Piece := (r.1, cl r.2.1, r.2.2)
def encP (x : Piece) : Array Value := #[.agg #[.string ⟨x.1.toArray⟩, .int .i64 x.2.1.1, .int .i64 x.2.2]]

theorem pc_val {r : List UInt8 × Nat × Nat} (h : r.2.1 ≤ 281474976710656) : (pc r).2.1.1 = r.2.1 := by
  show min r.2.1 281474976710656 = _
  omega

/-- What a round keeps: block B as it was, and no block is gone. -/
def KeepB (B : Nat) (W W' : World) : Prop := W'.heap[B]? = W.heap[B]? ∧ W.heap.size ≤ W'.heap.size
theorem KeepB.refl (B : Nat) (W : World) : KeepB B W W := ⟨rfl, Nat.le_refl _⟩
theorem KeepB.trans {B : Nat} {U V W : World} (h : KeepB B U V) (k : KeepB B V W) : KeepB B U W := ⟨k.1.trans h.1, Nat.le_trans h.2 k.2⟩
theorem KeepB.of_below {B n : Nat} {U V : World} (h : B < n) (k : Below n U V) : KeepB B U V := ⟨k.block B h, k.size⟩

set_option maxRecDepth 100000 in
set_option maxHeartbeats 1000000 in
theorem pieces1_in (n : Nat) (hn : 1 ≤ n) (l B1 B2 : Nat) (s : ByteArray) (m : Int) (hs : s.size ≤ 281474976710656) (m1 : -9223372036854775808 ≤ m) (m2 : m ≤ 9223372036854775807) (J Jx : List Piece → World → Prop)
    (W : World) (hB2 : B2 < W.heap.size) (c1 : W.cell? ⟨B1, 0, none⟩ = some (.string s)) (c2 : W.cell? ⟨B2, 0, none⟩ = some (.int .i64 m))
    (hJ : AbidesFrom W.heap.size J)
    (hY : ∀ pre x W1, J pre W1 → pre.length < (seqP m (s.size + 1) s.data.toList).length → YieldAt Fence.wide (n - 1) Try.prog l (encP x) W1 fun e W' =>
      (e = .returned (.bool true) ∧ J (pre ++ [x]) W' ∧ KeepB B2 W1 W') ∨ (e = .returned (.bool false) ∧ Jx (pre ++ [x]) W'))
    (h0 : J [] W) :
    CallsIn Fence.wide n Try.prog 31 #[.func (.yield l) #[] #[], .pointer (some ⟨B1, 0, none⟩), .pointer (some ⟨B2, 0, none⟩)] W fun e W' => (∃ v, e = .returned v) ∧
      ((∃ ys, ys = (seqP m (s.size + 1) s.data.toList).map pc ∧ J ys W') ∨ (∃ pre, pre <+: (seqP m (s.size + 1) s.data.toList).map pc ∧ Jx pre W')) := by
  refine callsIn_of_wp Try.func31 rfl trivial ?_ rfl
  simp only [Try.ntmps31, List.size_toArray, List.length_cons, List.length_nil, Nat.reduceAdd, Nat.reduceSub, Array.replicate_succ, Array.replicate_zero, List.push_toArray, List.append_toArray, List.nil_append, List.cons_append]
  gi_wp2
  gi_loopw [4] (fun r wr => ∃ (pre : List Piece) (b : ByteArray) (f : Nat), r = .string b ∧ b.size ≤ s.size ∧ b.size < f ∧ (seqP m (s.size + 1) s.data.toList).map pc = pre ++ (seqP m f b.data.toList).map pc ∧ J pre wr ∧ KeepB B2 W wr)
    (fun r _ => match r with | .string b => b.size | _ => 0)
  case atStart =>
    exact ⟨[], s, s.size + 1, rfl, Nat.le_refl _, by omega, rfl, h0, KeepB.refl _ _⟩
  case round =>
    obtain ⟨pre, b, f, rfl, hbs, hf, hx, hJs, hb⟩ := hrel
    have d2 := (World.cell?_of_block (a := ⟨B2, 0, none⟩) hb.1).trans c2
    obtain ⟨f, rfl⟩ : ∃ g, f = g + 1 := ⟨f - 1, by omega⟩
    obtain ⟨t, k, z, hr⟩ : ∃ t k z, rdt b.data.toList m = (t, k, z) := ⟨_, _, _, rfl⟩
    have hrs : k ≤ b.size := by
      have h := rdt_size b.data.toList m
      rw [hr] at h
      simpa using h
    have hlen : pre.length < (seqP m (s.size + 1) s.data.toList).length := by
      have h := congrArg List.length hx
      have hpos : 1 ≤ (seqP m (f + 1) b.data.toList).length := by rw [seqP]; simp
      rw [List.length_map, List.length_append, List.length_map] at h
      omega
    have hY' : ∀ w1, Below wr.heap.size wr w1 → YieldAt Fence.wide (n - 1) Try.prog l #[.agg #[.string ⟨t.toArray⟩, .int .i64 k, .int .i64 z]] w1 fun e W' =>
        (e = .returned (.bool true) ∧ J (pre ++ [pc (t, k, z)]) W' ∧ KeepB B2 w1 W') ∨ (e = .returned (.bool false) ∧ Jx (pre ++ [pc (t, k, z)]) W') := by
      intro w1 hb1
      have h := hY pre (pc (t, k, z)) w1 (hJ pre wr w1 none hJs ⟨hb1.os, hb1.tape, hb1.output, hb1.size, fun k hk _ => hb1.block k hk⟩ (fun r e => by cases e)) hlen
      unfold encP at h
      rw [pc_val (by show k ≤ _; omega)] at h
      exact h
    have hc : ∀ W, Calls Try.prog 16 #[.string b, .int .i64 m] W fun e w' => e = .returned (.tuple #[.string ⟨t.toArray⟩, .int .i64 k, .int .i64 z]) ∧ Below W.heap.size W w' := by
      intro W
      have h := readtext_any b m W (by omega) m1 m2
      rw [hr] at h
      exact h
    have HC := Lib.hid hc
    have HY := Lib.hid hY'
    have hnb : B2 < wr.heap.size := Nat.lt_of_lt_of_le hB2 hb.2
    clear hY' hY hJs hJ h0 hc
    by_cases he : z = 0
    · have hst : 1 ≤ k := by
        have h := rdt_step (l := b.data.toList) (m := m) (by rw [hr]; exact he)
        rw [hr] at h
        exact h.1
      have hz : ((z : Int) != 0) = false := by rw [bne_eq_false_iff_eq]; omega
      have hbd : (b.extract k b.size).data.toList = b.data.toList.drop k := by
        rw [Lib.extract_data]
        exact List.take_of_length_le (by simp)
      have hbz : (b.extract k b.size).size = b.size - k := by simp
      have HX : Hid ((seqP m (s.size + 1) s.data.toList).map pc = (pre ++ [pc (t, k, z)]) ++ (seqP m f (b.extract k b.size).data.toList).map pc) := by
        show _ = _
        have hstep : seqP m (f + 1) b.data.toList = (t, k, z) :: seqP m f (b.data.toList.drop k) := by rw [seqP, hr, if_pos he]
        rw [hx, hstep, hbd]; simp
      have HZ := Lib.hid hbz
      have hq1 : (0 : Int) ≤ (k : Int) := by omega
      have hq2 : (k : Int) ≤ (b.size : Int) := by omega
      clear hr hx hlen he hbd hbz
      gi_wp2_with (refine ⟨trivial, ?_⟩; gi_at_call 16; refine (callsIn_wide.2 (HC.out _)).mono ?_; rintro e w1 ⟨rfl, hb1⟩; obtain ⟨fn, tmps, assign, body, hy, hR⟩ := HY.out w1 hb1)
      refine hR.mono ?_
      rintro e W3 (⟨rfl, hJ3, hk3⟩ | ⟨rfl, hJx3⟩)
      · gi_wp2
        go_roundw
        case rel => exact ⟨pre ++ [pc (t, k, z)], b.extract k b.size, f, rfl, by rw [HZ.out]; omega, by rw [HZ.out]; omega, HX.out, hJ3, (hb.trans (KeepB.of_below hnb hb1)).trans hk3⟩
        case measure => show (b.extract k b.size).size < b.size; rw [HZ.out]; omega
      · gi_wp2
        refine bodyPost_ret (results_none rfl _ _ _) rfl ?_
        exact ⟨⟨_, rfl⟩, .inr ⟨pre ++ [pc (t, k, z)], ⟨_, HX.out.symm⟩, hJx3⟩⟩
    · have hz : ((z : Int) != 0) = true := by rw [bne_iff_ne]; omega
      have HX : Hid ((seqP m (s.size + 1) s.data.toList).map pc = pre ++ [pc (t, k, z)]) := by
        show _ = _
        rw [hx, seqP, hr, if_neg he]; rfl
      clear he hr hx hlen
      gi_wp2_with (refine ⟨trivial, ?_⟩; gi_at_call 16; refine (callsIn_wide.2 (HC.out _)).mono ?_; rintro e w1 ⟨rfl, hb1⟩; obtain ⟨fn, tmps, assign, body, hy, hR⟩ := HY.out w1 hb1)
      refine hR.mono ?_
      rintro e W3 (⟨rfl, hJ3, hk3⟩ | ⟨rfl, hJx3⟩)
      · gi_wp2
        refine bodyPost_ret (results_none rfl _ _ _) rfl ?_
        exact ⟨⟨_, rfl⟩, .inl ⟨pre ++ [pc (t, k, z)], HX.out.symm, hJ3⟩⟩
      · gi_wp2
        refine bodyPost_ret (results_none rfl _ _ _) rfl ?_
        exact ⟨⟨_, rfl⟩, .inr ⟨pre ++ [pc (t, k, z)], by rw [HX.out]; exact List.prefix_refl _, hJx3⟩⟩

theorem pieces_in (s : ByteArray) (m : Int) (w : World) :
    Calls Try.prog 28 #[.string s, .int .i64 m] w fun e w' => e = .returned (.func (.func 31) #[] #[.pointer (some ⟨w.heap.size, 0, none⟩), .pointer (some ⟨w.heap.size + 1, 0, none⟩)]) ∧
      (w.alloc (.cells #[.string s] 9)).alloc (.cells #[.int .i64 m] 3) = w' := by
  go_enter Try.func28, Try.ntmps28
  go_wp2
  go_ret
  exact ⟨rfl, rfl⟩

theorem pieces_stops (n : Nat) (hn : 1 ≤ n) (B1 B2 : Nat) (s : ByteArray) (m : Int) (hs : s.size ≤ 281474976710656) (m1 : -9223372036854775808 ≤ m) (m2 : m ≤ 9223372036854775807)
    (w : World) (hB1 : B1 < w.heap.size) (hB2 : B2 < w.heap.size) (c1 : w.cell? ⟨B1, 0, none⟩ = some (.string s)) (c2 : w.cell? ⟨B2, 0, none⟩ = some (.int .i64 m)) :
    SeqStopsK Fence.wide n Try.prog 31 #[.pointer (some ⟨B1, 0, none⟩), .pointer (some ⟨B2, 0, none⟩)] encP (KeepB B2) (fun ys => ys = (seqP m (s.size + 1) s.data.toList).map pc) (fun pre => pre <+: (seqP m (s.size + 1) s.data.toList).map pc)
      (seqP m (s.size + 1) s.data.toList).length w := fun l J Jx W hW hJ _ hY h0 =>
  pieces1_in n hn l B1 B2 s m hs m1 m2 J Jx W (Nat.lt_of_lt_of_le hB2 hW.size) ((hW.cell (p := ⟨B1, 0, none⟩) hB1).trans c1) ((hW.cell (p := ⟨B2, 0, none⟩) hB2).trans c2) hJ hY h0
end Go.Proofs.Ytdddmaobmdinbaa.Pl
