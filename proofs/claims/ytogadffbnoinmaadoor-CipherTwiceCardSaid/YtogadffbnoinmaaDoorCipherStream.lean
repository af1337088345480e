/- What cipher's streamed hands to a loop: the key stream's bytes, with their indices. -/
import Derived.RangeFuncBox
import Derived.RangeFuncNested
import Derived.RangeFuncLeaves
import Derived.Shelf.Abstract
import Derived.OwnWalkIn
import Derived.TacticsInMore
import Derived.LoopNIn
import Derived.LoopIn
import Derived.Test.YtogadffbnoinmaaDoorCipherPart
namespace Go.Proofs.YtogadffbnoinmaaDoor.Pl
open Go.RowKit Go.Shelf
attribute [local go_sem] Oper.semAt_some

theorem part_index (P : List Nat) (hP : P.length = 32) (k c : Nat) (hk : k < 32) (hc : P.getD k 0 = c) (V : World) : (Instr.index 56 (.agg (row .u8 P)) (.int .i64 (k : Int))).run Tryd.prog V = .ok (.int .u8 (c : Int)) V := by
  have hs : (sizeOf 5).run Tryd.prog V = .ok 1 V := by kernel_rfl
  have h1 : (0 : Int) ≤ (k : Int) ∧ (k : Int) < ((32 : Nat) : Int) := by omega
  have hg : (row .u8 P)[k]? = some (.int .u8 (c : Int)) := by
    rw [← hc]
    simp [row, List.getD_eq_getElem?_getD, hP, hk]
  simp [Instr.index, run_underlying Tryd.underlying56, asIntOf, h1, hs, go_sem, hk, hg]

/-- What a round keeps: all that lay below M, but block g; and no block is gone. -/
structure KeepG (g M : Nat) (U V : World) : Prop where
  os : V.os = U.os
  tape : V.tape = U.tape
  output : V.output = U.output
  size : U.heap.size ≤ V.heap.size
  block : ∀ b, b < M → b ≠ g → V.heap[b]? = U.heap[b]?
theorem KeepG.refl (g M : Nat) (W : World) : KeepG g M W W := ⟨rfl, rfl, rfl, Nat.le_refl _, fun _ _ _ => rfl⟩
theorem KeepG.trans {g M : Nat} {U V W : World} (h : KeepG g M U V) (k : KeepG g M V W) : KeepG g M U W :=
  ⟨k.os.trans h.os, k.tape.trans h.tape, k.output.trans h.output, Nat.le_trans h.size k.size, fun b hb hg => (k.block b hb hg).trans (h.block b hb hg)⟩
theorem KeepG.of_below {g M n : Nat} {U V : World} (h : Below n U V) (hM : M ≤ n) : KeepG g M U V := ⟨h.os, h.tape, h.output, h.size, fun b hb _ => h.block b (Nat.lt_of_lt_of_le hb hM)⟩
theorem KeepG.below {g M B : Nat} {w U V : World} (h : KeepG g M U V) (k : Below B w U) (hM : B ≤ M) (hg : B ≤ g) : Below B w V :=
  ⟨h.os.trans k.os, h.tape.trans k.tape, h.output.trans k.output, Nat.le_trans k.size h.size, fun b hb => (h.block b (by omega) (by omega)).trans (k.block b hb)⟩
theorem KeepG.heap {g M b : Nat} {U V : World} {o : Obj} (h : KeepG g M U V) (hb : b < M) (hg : b ≠ g) (k : U.heap[b]? = some o) : V.heap[b]? = some o := (h.block b hb hg).trans k

def encK {n : Nat} (x : Fin n × Fin 256) : Array Value := #[.int .i64 ((x.1.1 : Nat) : Int), .int .u8 ((x.2.1 : Nat) : Int)]

set_option maxRecDepth 100000 in
set_option maxHeartbeats 1000000 in
theorem stream1_in (m : Nat) (hm : 1 ≤ m) (g M l B1 B2 B3 p q : Nat) (sk : List Nat) (hsk : Bytes sk) (nonce : ByteArray) (hn : nonce.size ≤ 1000000) (n : Nat) (hn2 : n ≤ 1000000) (J Jx : List (Fin n × Fin 256) → World → Prop)
    (w W : World) (hT : Tab w) (hK : KeyAt w p sk) (hw : Below w.heap.size w W) (hwM : w.heap.size ≤ M) (hwg : w.heap.size ≤ g) (hM : M ≤ W.heap.size)
    (b1 : B1 < M ∧ B1 ≠ g) (b2 : B2 < M ∧ B2 ≠ g) (b3 : B3 < M ∧ B3 ≠ g)
    (c1 : W.heap[B1]? = some (.cells #[.int .i64 (n : Int)] 3 (0, 0)))
    (c2 : W.heap[B2]? = some (.cells #[.pointer (some ⟨p, 0, none⟩), .pointer (some ⟨q, 0, none⟩)] 36 (0, 0)))
    (c3 : W.heap[B3]? = some (.cells #[.string nonce] 9 (0, 0)))
    (hJ : AbidesFrom W.heap.size J)
    (hY : ∀ pre x W1, J pre W1 → pre.length < n → YieldAt Fence.wide (m - 1) Tryd.prog l (encK x) W1 fun e W' =>
      (e = .returned (.bool true) ∧ J (pre ++ [x]) W' ∧ KeepG g M W1 W') ∨ (e = .returned (.bool false) ∧ Jx (pre ++ [x]) W'))
    (h0 : J [] W) :
    CallsIn Fence.wide m Tryd.prog 28 #[.func (.yield l) #[] #[], .pointer (some ⟨B1, 0, none⟩), .pointer (some ⟨B2, 0, none⟩), .pointer (some ⟨B3, 0, none⟩)] W fun e W' => (∃ v, e = .returned v) ∧
      ((∃ ys, ys = ksF sk (nums nonce) n ∧ J ys W') ∨ (∃ pre, pre <+: ksF sk (nums nonce) n ∧ Jx pre W')) := by
  refine callsIn_of_wp Tryd.func28 rfl trivial ?_ rfl
  simp only [Tryd.ntmps28, List.size_toArray, List.length_cons, List.length_nil, Nat.reduceAdd, Nat.reduceSub, Array.replicate_succ, Array.replicate_zero, List.push_toArray, List.append_toArray, List.nil_append, List.cons_append]
  gi_wp2
  gi_loopw [5] (fun r wr => ∃ c : Nat, r = .int .i64 ((32 * c : Nat) : Int) ∧ 32 * c ≤ n ∧ J ((ksF sk (nums nonce) n).take (32 * c)) wr ∧ KeepG g M W wr)
    (fun r _ => n - (intOf r).toNat)
  case atStart => exact ⟨0, rfl, by omega, h0, KeepG.refl _ _ _⟩
  case round =>
    obtain ⟨c, rfl, hc, hJs, hb⟩ := hrel
    have d1 := hb.heap b1.1 b1.2 c1
    have d2 := hb.heap b2.1 b2.2 c2
    have d3 := hb.heap b3.1 b3.2 c3
    have x1 : wr.cell? ⟨B1, 0, none⟩ = some (.int .i64 (n : Int)) := cell_of_row _ _ _ _ _ _ d1
    have x20 : wr.cell? ⟨B2, 0, none⟩ = some (.pointer (some ⟨p, 0, none⟩)) := cell_of_row _ _ _ _ _ _ d2
    have x21 : wr.cell? ⟨B2, 1, none⟩ = some (.pointer (some ⟨q, 0, none⟩)) := cell_of_row _ _ _ _ _ _ d2
    have x3 : wr.cell? ⟨B3, 0, none⟩ = some (.string nonce) := cell_of_row _ _ _ _ _ _ d3
    obtain ⟨a, ha⟩ : ∃ a, a = 32 * c := ⟨_, rfl⟩
    have e1 : (a : Int) / 32 = (c : Int) := by omega
    have HP := Lib.hid (part_any p q sk nonce hn c (by omega) wr (hT.below (hb.below hw hwM hwg)) hsk (hK.below (hb.below hw hwM hwg)))
    unfold keysV at HP
    rw [← ha]
    have HA := Lib.hid ha
    by_cases hlt : a < n
    · have q1 : (a : Int) < (n : Int) := by omega
      have HY := Lib.hid hY
      have HJ := Lib.hid (fun w1 (hb1 : Below wr.heap.size wr w1) => hJ _ wr w1 none hJs ⟨hb1.os, hb1.tape, hb1.output, hb1.size, fun k hk _ => hb1.block k hk⟩ (fun r e => by cases e))
      have HM : Hid (M ≤ wr.heap.size) := Lib.hid (Nat.le_trans hM hb.size)
      have PL := Lib.hid (partL_length sk (nums nonce) c)
      have KE : Hid (∀ k, k < 32 → ksAt sk (nums nonce) (a + k) = (partL sk (nums nonce) c).getD k 0) := Lib.hid (fun k hk => by rw [ha]; exact ksAt_part _ _ c k hk)
      rw [← ha] at HJ
      clear ha hJ h0 hY hJs d1 d2 d3
      gi_wp2_with (refine ⟨trivial, ?_⟩; gi_at_call 29; refine (callsIn_wide.2 HP.out).mono ?_; rintro e w1 ⟨rfl, hb1⟩)
      have J1 := Lib.hid (HJ.out w1 hb1)
      have K1 := Lib.hid (hb.trans (KeepG.of_below hb1 HM.out))
      clear hb1 HJ HP hb x1 x20 x21 x3
      generalize partL sk (nums nonce) c = P at *
      gi_loopw [18] (fun r wr => ∃ k : Nat, r = .int .i64 (k : Int) ∧ k ≤ 32 ∧ a + k ≤ n ∧ Hid (J ((ksF sk (nums nonce) n).take (a + k)) wr) ∧ Hid (KeepG g M W wr)) (fun r _ => 32 - (intOf r).toNat)
      case atStart => exact ⟨0, rfl, by omega, by omega, J1, K1⟩
      case round =>
        clear J1 K1
        obtain ⟨k, rfl, hk, hak, J2, K2⟩ := hrel
        have d1 := K2.out.heap b1.1 b1.2 c1
        have x1 : wr.cell? ⟨B1, 0, none⟩ = some (.int .i64 (n : Int)) := cell_of_row _ _ _ _ _ _ d1
        clear d1
        by_cases hk2 : k < 32
        · obtain ⟨x, hx⟩ : ∃ x, P.getD k 0 = x := ⟨_, rfl⟩
          have hix := part_index P PL.out k x hk2 hx
          have XE : Hid (∀ (h : a + k < n) (hx2 : x < 256), (ksF sk (nums nonce) n).take (a + k + 1) = (ksF sk (nums nonce) n).take (a + k) ++ [(⟨a + k, h⟩, ⟨x, hx2⟩)]) := Lib.hid (fun h hx2 => by
            rw [ksF_take _ _ h]
            congr 4
            rw [KE.out k hk2, hx])
          have HX2 : Hid (x < 256) := Lib.hid (by rw [← hx, ← KE.out k hk2]; exact ksAt_lt _ _ _)
          clear hx
          by_cases he : a + k = n
          · have q2 : (((a : Int) + (k : Int)) == (n : Int)) = true := by rw [beq_iff_eq]; omega
            have HE := Lib.hid he
            clear he
            gi_wp2
            refine ⟨(fun f hf => by cases hf), ?_⟩
            gi_wp2
            refine bodyPost_ret (results_none rfl _ _ _) rfl ?_
            exact ⟨⟨_, rfl⟩, .inl ⟨_, by rw [HE.out, ksF_all], J2.out⟩⟩
          · have q2 : (((a : Int) + (k : Int)) == (n : Int)) = false := by rw [beq_eq_false_iff_ne]; omega
            have han : a + k < n := by omega
            have HAN := Lib.hid han
            have hY' := HY.out ((ksF sk (nums nonce) n).take (a + k)) (⟨a + k, han⟩, ⟨x, HX2.out⟩) wr J2.out (by rw [List.length_take, ksF_length]; omega)
            unfold encK at hY'
            simp only [Int.natCast_add] at hY'
            obtain ⟨fn, tmps, assign, body, hy, hR⟩ := hY'
            have HR := Lib.hid hR
            have HE := Lib.hid he
            clear he hR
            gi_wp2
            refine HR.out.mono ?_
            rintro e W3 (⟨rfl, hJ3, hk3⟩ | ⟨rfl, hJx3⟩)
            · rw [← XE.out HAN.out HX2.out] at hJ3
              have J3 := Lib.hid hJ3
              have K3 := Lib.hid (K2.out.trans hk3)
              clear hJ3 hk3
              gi_wp2
              go_roundw
              case rel => exact ⟨k + 1, by go_num, by omega, by have := HE.out; omega, J3, K3⟩
              case measure => simp [intOf]; omega
            · rw [← XE.out HAN.out HX2.out] at hJx3
              have J3 := Lib.hid hJx3
              clear hJx3
              gi_wp2
              refine bodyPost_ret (results_none rfl _ _ _) rfl ?_
              exact ⟨⟨_, rfl⟩, .inr ⟨_, List.take_prefix _ _, J3.out⟩⟩
        · obtain rfl : k = 32 := by omega
          have HA2 : Hid (a + 32 = 32 * (c + 1)) := Lib.hid (by have := HA.out; omega)
          gi_wp2
          go_roundw
          case rel => exact ⟨c + 1, by rw [← HA2.out]; go_num, by rw [← HA2.out]; exact hak, by rw [← HA2.out]; exact J2.out, K2.out⟩
          case measure => simp [intOf]; omega
    · obtain rfl : a = n := by omega
      have HJ := Lib.hid hJs
      rw [← ha] at HJ
      clear ha hJ h0 hY hJs
      gi_wp2
      refine ⟨rfl, _, results_none rfl _ _ _, ?_⟩
      exact ⟨⟨_, rfl⟩, .inl ⟨_, ksF_all _ _ _, HJ.out⟩⟩

theorem streamed_in (p q : Nat) (nonce : ByteArray) (n : Nat) (w : World) :
    Calls Tryd.prog 21 #[keysV p q, .string nonce, .int .i64 (n : Int)] w fun e w' => e = .returned (.func (.func 28) #[] #[.pointer (some ⟨w.heap.size + 1 + 1, 0, none⟩), .pointer (some ⟨w.heap.size, 0, none⟩), .pointer (some ⟨w.heap.size + 1, 0, none⟩)]) ∧
      ((w.alloc (.cells #[.pointer (some ⟨p, 0, none⟩), .pointer (some ⟨q, 0, none⟩)] 36)).alloc (.cells #[.string nonce] 9)).alloc (.cells #[.int .i64 (n : Int)] 3) = w' := by
  unfold keysV
  go_enter Tryd.func21, Tryd.ntmps21
  go_wp2
  go_ret
  exact ⟨rfl, rfl⟩

theorem stream_stops (m : Nat) (hm : 1 ≤ m) (g B1 B2 B3 p q : Nat) (sk : List Nat) (hsk : Bytes sk) (nonce : ByteArray) (hn : nonce.size ≤ 1000000) (n : Nat) (hn2 : n ≤ 1000000)
    (w w2 : World) (hT : Tab w) (hK : KeyAt w p sk) (hw : Below w.heap.size w w2) (hwg : w.heap.size ≤ g)
    (b1 : B1 ≠ g) (b2 : B2 ≠ g) (b3 : B3 ≠ g)
    (c1 : w2.heap[B1]? = some (.cells #[.int .i64 (n : Int)] 3 (0, 0)))
    (c2 : w2.heap[B2]? = some (.cells #[.pointer (some ⟨p, 0, none⟩), .pointer (some ⟨q, 0, none⟩)] 36 (0, 0)))
    (c3 : w2.heap[B3]? = some (.cells #[.string nonce] 9 (0, 0))) :
    SeqStopsK Fence.wide m Tryd.prog 28 #[.pointer (some ⟨B1, 0, none⟩), .pointer (some ⟨B2, 0, none⟩), .pointer (some ⟨B3, 0, none⟩)] encK (KeepG g w2.heap.size) (fun ys => ys = ksF sk (nums nonce) n) (fun pre => pre <+: ksF sk (nums nonce) n) n w2 := fun l J Jx W hW hJ _ hY h0 =>
  stream1_in m hm g w2.heap.size l B1 B2 B3 p q sk hsk nonce hn n hn2 J Jx w W hT hK (hw.trans (hW.mono hw.size)) hw.size hwg hW.size
    ⟨(Array.getElem?_eq_some_iff.1 c1).1, b1⟩ ⟨(Array.getElem?_eq_some_iff.1 c2).1, b2⟩ ⟨(Array.getElem?_eq_some_iff.1 c3).1, b3⟩
    ((hW.block _ (Array.getElem?_eq_some_iff.1 c1).1).trans c1) ((hW.block _ (Array.getElem?_eq_some_iff.1 c2).1).trans c2) ((hW.block _ (Array.getElem?_eq_some_iff.1 c3).1).trans c3) hJ hY h0
end Go.Proofs.YtogadffbnoinmaaDoor.Pl
