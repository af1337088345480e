/- What cipher's streamed hands to a loop: the key stream's bytes, with their indices. What cipher's turned answers: a text, each byte xor the key stream's. -/
import Derived.RangeFuncBox
import Derived.RangeFuncNested
import Derived.RangeFuncLeaves
import Derived.Shelf.Abstract
import Derived.OwnWalkIn
import Derived.TacticsInMore
import Derived.LoopNIn
import Derived.LoopIn
import Derived.Test.YtedidoeoomijjaaDoorCipherPart
namespace Go.Proofs.YtedidoeoomijjaaDoor.Pl
open Go.RowKit Go.Shelf
attribute [local go_sem] Oper.semAt_some

theorem part_index (P : List Nat) (hP : P.length = 32) (k c : Nat) (hk : k < 32) (hc : P.getD k 0 = c) (V : World) : (Instr.index 132 (.agg (row .u8 P)) (.int .i64 (k : Int))).run Tryd.prog V = .ok (.int .u8 (c : Int)) V := by
  have hs : (sizeOf 5).run Tryd.prog V = .ok 1 V := by kernel_rfl
  have h1 : (0 : Int) ≤ (k : Int) ∧ (k : Int) < ((32 : Nat) : Int) := by omega
  have hg : (row .u8 P)[k]? = some (.int .u8 (c : Int)) := by
    rw [← hc]
    simp [row, List.getD_eq_getElem?_getD, hP, hk]
  simp [Instr.index, run_underlying Tryd.underlying132, asIntOf, h1, hs, go_sem, hk, hg]

/-- What a round keeps: all that lay below M, but block g; and no block is gone. -/
structure KeepG (g M : Nat) (U V : World) : Prop where
  os : V.os = U.os
  tape : V.tape = U.tape
  output : V.output = U.output
  size : U.heap.size ≤ V.heap.size
  block : ∀ b, b < M → b ≠ g → V.heap[b]? = U.heap[b]?
theorem KeepG.refl (g M : Nat) (W : World) : KeepG g M W W := ⟨rfl, rfl, rfl, Nat.le_refl _, fun _ _ _ => rfl⟩
theorem KeepG.trans {g M : Nat} {U V W : World} (h : KeepG g M U V) (k : KeepG g M V W) : KeepG g M U W :=
  ⟨k.os.trans h.os, k.tape.trans h.tape, k.output.trans h.output, Nat.le_trans h.size k.size, fun b hb hg => (k.block b hb hg).trans (h.block b hb hg)⟩
theorem KeepG.of_below {g M n : Nat} {U V : World} (h : Below n U V) (hM : M ≤ n) : KeepG g M U V := ⟨h.os, h.tape, h.output, h.size, fun b hb _ => h.block b (Nat.lt_of_lt_of_le hb hM)⟩
theorem KeepG.below {g M B : Nat} {w U V : World} (h : KeepG g M U V) (k : Below B w U) (hM : B ≤ M) (hg : B ≤ g) : Below B w V :=
  ⟨h.os.trans k.os, h.tape.trans k.tape, h.output.trans k.output, Nat.le_trans k.size h.size, fun b hb => (h.block b (by omega) (by omega)).trans (k.block b hb)⟩
theorem KeepG.heap {g M b : Nat} {U V : World} {o : Obj} (h : KeepG g M U V) (hb : b < M) (hg : b ≠ g) (k : U.heap[b]? = some o) : V.heap[b]? = some o := (h.block b hb hg).trans k

def encK {n : Nat} (x : Fin n × Fin 256) : Array Value := #[.int .i64 ((x.1.1 : Nat) : Int), .int .u8 ((x.2.1 : Nat) : Int)]

set_option maxRecDepth 100000 in
set_option maxHeartbeats 1000000 in
theorem stream1_in (m : Nat) (hm : 1 ≤ m) (g M l B1 B2 B3 p q : Nat) (sk : List Nat) (hsk : Bytes sk) (nonce : ByteArray) (hn : nonce.size ≤ 1000000) (n : Nat) (hn2 : n ≤ 1000000) (J Jx : List (Fin n × Fin 256) → World → Prop)
    (w W : World) (hT : Tab w) (hK : KeyAt w p sk) (hw : Below w.heap.size w W) (hwM : w.heap.size ≤ M) (hwg : w.heap.size ≤ g) (hM : M ≤ W.heap.size)
    (b1 : B1 < M ∧ B1 ≠ g) (b2 : B2 < M ∧ B2 ≠ g) (b3 : B3 < M ∧ B3 ≠ g)
    (c1 : W.heap[B1]? = some (.cells #[.int .i64 (n : Int)] 3 (0, 0)))
    (c2 : W.heap[B2]? = some (.cells #[.pointer (some ⟨p, 0, none⟩), .pointer (some ⟨q, 0, none⟩)] 109 (0, 0)))
    (c3 : W.heap[B3]? = some (.cells #[.string nonce] 9 (0, 0)))
    (hJ : AbidesFrom W.heap.size J)
    (hY : ∀ pre x W1, J pre W1 → pre.length < n → YieldAt Fence.wide (m - 1) Tryd.prog l (encK x) W1 fun e W' =>
      (e = .returned (.bool true) ∧ J (pre ++ [x]) W' ∧ KeepG g M W1 W') ∨ (e = .returned (.bool false) ∧ Jx (pre ++ [x]) W'))
    (h0 : J [] W) :
    CallsIn Fence.wide m Tryd.prog 89 #[.func (.yield l) #[] #[], .pointer (some ⟨B1, 0, none⟩), .pointer (some ⟨B2, 0, none⟩), .pointer (some ⟨B3, 0, none⟩)] W fun e W' => (∃ v, e = .returned v) ∧
      ((∃ ys, ys = ksF sk (nums nonce) n ∧ J ys W') ∨ (∃ pre, pre <+: ksF sk (nums nonce) n ∧ Jx pre W')) := by
  refine callsIn_of_wp Tryd.func89 rfl trivial ?_ rfl
  simp only [Tryd.ntmps89, List.size_toArray, List.length_cons, List.length_nil, Nat.reduceAdd, Nat.reduceSub, Array.replicate_succ, Array.replicate_zero, List.push_toArray, List.append_toArray, List.nil_append, List.cons_append]
  gi_wp2
  gi_loopw [5] (fun r wr => ∃ c : Nat, r = .int .i64 ((32 * c : Nat) : Int) ∧ 32 * c ≤ n ∧ J ((ksF sk (nums nonce) n).take (32 * c)) wr ∧ KeepG g M W wr)
    (fun r _ => n - (intOf r).toNat)
  case atStart => exact ⟨0, rfl, by omega, h0, KeepG.refl _ _ _⟩
  case round =>
    obtain ⟨c, rfl, hc, hJs, hb⟩ := hrel
    have d1 := hb.heap b1.1 b1.2 c1
    have d2 := hb.heap b2.1 b2.2 c2
    have d3 := hb.heap b3.1 b3.2 c3
    have x1 : wr.cell? ⟨B1, 0, none⟩ = some (.int .i64 (n : Int)) := cell_of_row _ _ _ _ _ _ d1
    have x20 : wr.cell? ⟨B2, 0, none⟩ = some (.pointer (some ⟨p, 0, none⟩)) := cell_of_row _ _ _ _ _ _ d2
    have x21 : wr.cell? ⟨B2, 1, none⟩ = some (.pointer (some ⟨q, 0, none⟩)) := cell_of_row _ _ _ _ _ _ d2
    have x3 : wr.cell? ⟨B3, 0, none⟩ = some (.string nonce) := cell_of_row _ _ _ _ _ _ d3
    obtain ⟨a, ha⟩ : ∃ a, a = 32 * c := ⟨_, rfl⟩
    have e1 : (a : Int) / 32 = (c : Int) := by omega
    have HP := Lib.hid (part_any p q sk nonce hn c (by omega) wr (hT.below (hb.below hw hwM hwg)) hsk (hK.below (hb.below hw hwM hwg)))
    unfold keysV at HP
    rw [← ha]
    have HA := Lib.hid ha
    by_cases hlt : a < n
    · have q1 : (a : Int) < (n : Int) := by omega
      have HY := Lib.hid hY
      have HJ := Lib.hid (fun w1 (hb1 : Below wr.heap.size wr w1) => hJ _ wr w1 none hJs ⟨hb1.os, hb1.tape, hb1.output, hb1.size, fun k hk _ => hb1.block k hk⟩ (fun r e => by cases e))
      have HM : Hid (M ≤ wr.heap.size) := Lib.hid (Nat.le_trans hM hb.size)
      have PL := Lib.hid (partL_length sk (nums nonce) c)
      have KE : Hid (∀ k, k < 32 → ksAt sk (nums nonce) (a + k) = (partL sk (nums nonce) c).getD k 0) := Lib.hid (fun k hk => by rw [ha]; exact ksAt_part _ _ c k hk)
      rw [← ha] at HJ
      clear ha hJ h0 hY hJs d1 d2 d3
      gi_wp2_with (refine ⟨trivial, ?_⟩; gi_at_call 90; refine (callsIn_wide.2 HP.out).mono ?_; rintro e w1 ⟨rfl, hb1⟩)
      have J1 := Lib.hid (HJ.out w1 hb1)
      have K1 := Lib.hid (hb.trans (KeepG.of_below hb1 HM.out))
      clear hb1 HJ HP hb x1 x20 x21 x3
      generalize partL sk (nums nonce) c = P at *
      gi_loopw [18] (fun r wr => ∃ k : Nat, r = .int .i64 (k : Int) ∧ k ≤ 32 ∧ a + k ≤ n ∧ Hid (J ((ksF sk (nums nonce) n).take (a + k)) wr) ∧ Hid (KeepG g M W wr)) (fun r _ => 32 - (intOf r).toNat)
      case atStart => exact ⟨0, rfl, by omega, by omega, J1, K1⟩
      case round =>
        clear J1 K1
        obtain ⟨k, rfl, hk, hak, J2, K2⟩ := hrel
        have d1 := K2.out.heap b1.1 b1.2 c1
        have x1 : wr.cell? ⟨B1, 0, none⟩ = some (.int .i64 (n : Int)) := cell_of_row _ _ _ _ _ _ d1
        clear d1
        by_cases hk2 : k < 32
        · obtain ⟨x, hx⟩ : ∃ x, P.getD k 0 = x := ⟨_, rfl⟩
          have hix := part_index P PL.out k x hk2 hx
          have XE : Hid (∀ (h : a + k < n) (hx2 : x < 256), (ksF sk (nums nonce) n).take (a + k + 1) = (ksF sk (nums nonce) n).take (a + k) ++ [(⟨a + k, h⟩, ⟨x, hx2⟩)]) := Lib.hid (fun h hx2 => by
            rw [ksF_take _ _ h]
            congr 4
            rw [KE.out k hk2, hx])
          have HX2 : Hid (x < 256) := Lib.hid (by rw [← hx, ← KE.out k hk2]; exact ksAt_lt _ _ _)
          clear hx
          by_cases he : a + k = n
          · have q2 : (((a : Int) + (k : Int)) == (n : Int)) = true := by rw [beq_iff_eq]; omega
            have HE := Lib.hid he
            clear he
            gi_wp2
            refine ⟨(fun f hf => by cases hf), ?_⟩
            gi_wp2
            refine bodyPost_ret (results_none rfl _ _ _) rfl ?_
            exact ⟨⟨_, rfl⟩, .inl ⟨_, by rw [HE.out, ksF_all], J2.out⟩⟩
          · have q2 : (((a : Int) + (k : Int)) == (n : Int)) = false := by rw [beq_eq_false_iff_ne]; omega
            have han : a + k < n := by omega
            have HAN := Lib.hid han
            have hY' := HY.out ((ksF sk (nums nonce) n).take (a + k)) (⟨a + k, han⟩, ⟨x, HX2.out⟩) wr J2.out (by rw [List.length_take, ksF_length]; omega)
            unfold encK at hY'
            simp only [Int.natCast_add] at hY'
            obtain ⟨fn, tmps, assign, body, hy, hR⟩ := hY'
            have HR := Lib.hid hR
            have HE := Lib.hid he
            clear he hR
            gi_wp2
            refine HR.out.mono ?_
            rintro e W3 (⟨rfl, hJ3, hk3⟩ | ⟨rfl, hJx3⟩)
            · rw [← XE.out HAN.out HX2.out] at hJ3
              have J3 := Lib.hid hJ3
              have K3 := Lib.hid (K2.out.trans hk3)
              clear hJ3 hk3
              gi_wp2
              go_roundw
              case rel => exact ⟨k + 1, by go_num, by omega, by have := HE.out; omega, J3, K3⟩
              case measure => simp [intOf]; omega
            · rw [← XE.out HAN.out HX2.out] at hJx3
              have J3 := Lib.hid hJx3
              clear hJx3
              gi_wp2
              refine bodyPost_ret (results_none rfl _ _ _) rfl ?_
              exact ⟨⟨_, rfl⟩, .inr ⟨_, List.take_prefix _ _, J3.out⟩⟩
        · obtain rfl : k = 32 := by omega
          have HA2 : Hid (a + 32 = 32 * (c + 1)) := Lib.hid (by have := HA.out; omega)
          gi_wp2
          go_roundw
          case rel => exact ⟨c + 1, by rw [← HA2.out]; go_num, by rw [← HA2.out]; exact hak, by rw [← HA2.out]; exact J2.out, K2.out⟩
          case measure => simp [intOf]; omega
    · obtain rfl : a = n := by omega
      have HJ := Lib.hid hJs
      rw [← ha] at HJ
      clear ha hJ h0 hY hJs
      gi_wp2
      refine ⟨rfl, _, results_none rfl _ _ _, ?_⟩
      exact ⟨⟨_, rfl⟩, .inl ⟨_, ksF_all _ _ _, HJ.out⟩⟩

theorem streamed_in (p q : Nat) (nonce : ByteArray) (n : Nat) (w : World) :
    Calls Tryd.prog 84 #[keysV p q, .string nonce, .int .i64 (n : Int)] w fun e w' => e = .returned (.func (.func 89) #[] #[.pointer (some ⟨w.heap.size + 1 + 1, 0, none⟩), .pointer (some ⟨w.heap.size, 0, none⟩), .pointer (some ⟨w.heap.size + 1, 0, none⟩)]) ∧
      ((w.alloc (.cells #[.pointer (some ⟨p, 0, none⟩), .pointer (some ⟨q, 0, none⟩)] 109)).alloc (.cells #[.string nonce] 9)).alloc (.cells #[.int .i64 (n : Int)] 3) = w' := by
  unfold keysV
  go_enter Tryd.func84, Tryd.ntmps84
  go_wp2
  go_ret
  exact ⟨rfl, rfl⟩

theorem stream_stops (m : Nat) (hm : 1 ≤ m) (g B1 B2 B3 p q : Nat) (sk : List Nat) (hsk : Bytes sk) (nonce : ByteArray) (hn : nonce.size ≤ 1000000) (n : Nat) (hn2 : n ≤ 1000000)
    (w w2 : World) (hT : Tab w) (hK : KeyAt w p sk) (hw : Below w.heap.size w w2) (hwg : w.heap.size ≤ g)
    (b1 : B1 ≠ g) (b2 : B2 ≠ g) (b3 : B3 ≠ g)
    (c1 : w2.heap[B1]? = some (.cells #[.int .i64 (n : Int)] 3 (0, 0)))
    (c2 : w2.heap[B2]? = some (.cells #[.pointer (some ⟨p, 0, none⟩), .pointer (some ⟨q, 0, none⟩)] 109 (0, 0)))
    (c3 : w2.heap[B3]? = some (.cells #[.string nonce] 9 (0, 0))) :
    SeqStopsK Fence.wide m Tryd.prog 89 #[.pointer (some ⟨B1, 0, none⟩), .pointer (some ⟨B2, 0, none⟩), .pointer (some ⟨B3, 0, none⟩)] encK (KeepG g w2.heap.size) (fun ys => ys = ksF sk (nums nonce) n) (fun pre => pre <+: ksF sk (nums nonce) n) n w2 := fun l J Jx W hW hJ _ hY h0 =>
  stream1_in m hm g w2.heap.size l B1 B2 B3 p q sk hsk nonce hn n hn2 J Jx w W hT hK (hw.trans (hW.mono hw.size)) hw.size hwg hW.size
    ⟨(Array.getElem?_eq_some_iff.1 c1).1, b1⟩ ⟨(Array.getElem?_eq_some_iff.1 c2).1, b2⟩ ⟨(Array.getElem?_eq_some_iff.1 c3).1, b3⟩
    ((hW.block _ (Array.getElem?_eq_some_iff.1 c1).1).trans c1) ((hW.block _ (Array.getElem?_eq_some_iff.1 c2).1).trans c2) ((hW.block _ (Array.getElem?_eq_some_iff.1 c3).1).trans c3) hJ hY h0
end Go.Proofs.YtedidoeoomijjaaDoor.Pl

namespace Go.Proofs.YtedidoeoomijjaaDoor.Pl
open Go.RowKit Go.Shelf
attribute [local go_sem] Oper.semAt_some

def TurnedPost (sk nonce l : List Nat) (w : World) (e : Ending) (w' : World) : Prop := e = .returned (.string (bytesOf (hide sk nonce l))) ∧ Below w.heap.size w w'

/-- The world in which the text's bytes are laid. -/
theorem turned_world (p q : Nat) (s : ByteArray) (w W1 W2 : World) (h1 : w.alloc (.cells #[.pointer (some ⟨p, 0, none⟩), .pointer (some ⟨q, 0, none⟩)] 109) = W1) (h2 : Lib.bytesWorld W1 5 s = W2) :
    W1.heap.size = w.heap.size + 1 ∧ W2.heap.size = w.heap.size + 1 + 1 ∧ W2.heap[w.heap.size]? = some (.cells #[.pointer (some ⟨p, 0, none⟩), .pointer (some ⟨q, 0, none⟩)] 109 (0, 0)) ∧ At8 W2 (w.heap.size + 1) (nums s) ∧ Below w.heap.size w W2 := by
  have a1 := Go.heap_alloc_new w (.cells #[.pointer (some ⟨p, 0, none⟩), .pointer (some ⟨q, 0, none⟩)] 109)
  have a2 := size_alloc' w (.cells #[.pointer (some ⟨p, 0, none⟩), .pointer (some ⟨q, 0, none⟩)] 109)
  have a3 : Below w.heap.size w (w.alloc (.cells #[.pointer (some ⟨p, 0, none⟩), .pointer (some ⟨q, 0, none⟩)] 109)) := (Below.refl _ _).alloc (Nat.le_refl _) _
  rw [h1] at a1 a2 a3
  have b1 := at8_bytes W1 s
  have b2 := below_bytes W1 s
  have b3 := Lib.bytesWorld_size W1 5 s
  rw [h2] at b1 b2 b3
  rw [a2] at b1 b3
  exact ⟨a2, b3, heap_below b2 a1, b1, below_step a3 b2⟩

theorem at8_below {w w' : World} {g : Nat} {l : List Nat} (h : At8 w g l) (hb : Below w.heap.size w w') : At8 w' g l := fun j hj =>
  ⟨(hb.cell (p := ⟨g, j, none⟩) (World.block_lt_of_cell? _ _ (h j hj).1)).trans (h j hj).1, (hb.frozen (p := ⟨g, j, none⟩) (World.block_lt_of_cell? _ _ (h j hj).1)).trans (h j hj).2⟩
theorem at8_own {n : Nat} (B g : Nat) (f : List (Fin n × Fin 256) → List Nat) : OwnFrom B (fun pre W => At8 W g (f pre)) := by
  intro pre W W' row h hg hr j hj
  obtain ⟨h1, h2⟩ := h j hj
  have hlt := World.block_lt_of_cell? _ _ h1
  have hb : W'.heap[g]? = W.heap[g]? := by
    refine hg.block g hlt (fun e => ?_)
    obtain ⟨_, o, ho, hc⟩ := hr g e.symm
    unfold World.cell? at h1
    cases o <;> simp_all [Obj.isCells]
  exact ⟨(World.cell?_of_block (a := ⟨g, j, none⟩) hb).trans h1, (World.frozen?_of_block (a := ⟨g, j, none⟩) hb).trans h2⟩
/-- The caller's variables when pre has come. -/
def TurnI (w : World) (s : ByteArray) (cap : Nat) (pre : List (Fin s.size × Fin 256)) (W : World) : Prop :=
  Boxed W (w.heap.size + 1 + 1) 41 (.slice (some ⟨w.heap.size + 1, 0, none⟩) s.size cap) ∧ At8 W (w.heap.size + 1) (app (nums s) pre) ∧ Below w.heap.size w W
theorem turnI_own (w : World) (s : ByteArray) (cap B : Nat) (hB : w.heap.size ≤ B) : OwnFrom B (TurnI w s cap) :=
  OwnFrom.and (Own.from (boxed_own _ _ (fun _ => _)) _) (OwnFrom.and (at8_own _ _ _) (ownFrom_below (Nat.le_refl _) hB))
/-- The frame of a round. -/
def turnAct (p q : Nat) (nonce s : ByteArray) (cap : Nat) (w : World) (i v : Nat) : Act :=
  { tmps := #[.agg #[.pointer (some ⟨p, 0, none⟩), .pointer (some ⟨q, 0, none⟩)], .string nonce, .string s, .pointer (some ⟨w.heap.size, 0, none⟩), undef, undef, .string ⟨#[]⟩, .pointer (some ⟨w.heap.size + 1 + 1, 0, none⟩), .int .i64 (i : Int), .int .u8 (v : Int), .string s, .slice (some ⟨w.heap.size + 1, 0, none⟩) s.size cap, .agg #[.pointer (some ⟨p, 0, none⟩), .pointer (some ⟨q, 0, none⟩)], .string nonce, .slice (some ⟨w.heap.size + 1, 0, none⟩) s.size cap, .int .i64 (s.size : Int),
      .func (.func 89) #[] #[.pointer (some ⟨w.heap.size + 1 + 1 + 1 + 1 + 1, 0, none⟩), .pointer (some ⟨w.heap.size + 1 + 1 + 1, 0, none⟩), .pointer (some ⟨w.heap.size + 1 + 1 + 1 + 1, 0, none⟩)], .int .i64 (i : Int), .int .u8 (v : Int), undef, undef, undef, undef, undef, undef, undef, undef, undef], defers := [] }
theorem turned_boxes (p q : Nat) (nonce : ByteArray) (n cap : Nat) (l : List Nat) (w W2 W0 : World) (z2 : W2.heap.size = w.heap.size + 1 + 1) (a2 : At8 W2 (w.heap.size + 1) l) (b2 : Below w.heap.size w W2)
    (h : (((W2.alloc (.cells #[.slice (some ⟨w.heap.size + 1, 0, none⟩) n cap] 41)).alloc (.cells #[.pointer (some ⟨p, 0, none⟩), .pointer (some ⟨q, 0, none⟩)] 109)).alloc (.cells #[.string nonce] 9)).alloc (.cells #[.int .i64 (n : Int)] 3) = W0) :
    Boxed W0 (w.heap.size + 1 + 1) 41 (.slice (some ⟨w.heap.size + 1, 0, none⟩) n cap) ∧ W0.heap[w.heap.size + 1 + 1 + 1]? = some (.cells #[.pointer (some ⟨p, 0, none⟩), .pointer (some ⟨q, 0, none⟩)] 109 (0, 0)) ∧
    W0.heap[w.heap.size + 1 + 1 + 1 + 1]? = some (.cells #[.string nonce] 9 (0, 0)) ∧ W0.heap[w.heap.size + 1 + 1 + 1 + 1 + 1]? = some (.cells #[.int .i64 (n : Int)] 3 (0, 0)) ∧
    At8 W0 (w.heap.size + 1) l ∧ W0.heap.size = w.heap.size + 1 + 1 + 1 + 1 + 1 + 1 ∧ Below w.heap.size w W0 := by
  have h1 := Go.heap_alloc_new W2 (.cells #[.slice (some ⟨w.heap.size + 1, 0, none⟩) n cap] 41)
  have s1 := size_alloc' W2 (.cells #[.slice (some ⟨w.heap.size + 1, 0, none⟩) n cap] 41)
  have b1 := b2.alloc (by omega) (.cells #[.slice (some ⟨w.heap.size + 1, 0, none⟩) n cap] 41)
  have a1 := at8_below a2 ((Below.refl W2.heap.size W2).alloc (Nat.le_refl _) (.cells #[.slice (some ⟨w.heap.size + 1, 0, none⟩) n cap] 41))
  rw [z2] at h1 s1
  generalize W2.alloc (.cells #[.slice (some ⟨w.heap.size + 1, 0, none⟩) n cap] 41) = V1 at *
  have h2 := Go.heap_alloc_new V1 (.cells #[.pointer (some ⟨p, 0, none⟩), .pointer (some ⟨q, 0, none⟩)] 109)
  have k2 := heap_alloc h1 (.cells #[.pointer (some ⟨p, 0, none⟩), .pointer (some ⟨q, 0, none⟩)] 109)
  have s2 := size_alloc' V1 (.cells #[.pointer (some ⟨p, 0, none⟩), .pointer (some ⟨q, 0, none⟩)] 109)
  have c2 := b1.alloc (by omega) (.cells #[.pointer (some ⟨p, 0, none⟩), .pointer (some ⟨q, 0, none⟩)] 109)
  have d2 := at8_below a1 ((Below.refl V1.heap.size V1).alloc (Nat.le_refl _) (.cells #[.pointer (some ⟨p, 0, none⟩), .pointer (some ⟨q, 0, none⟩)] 109))
  rw [s1] at h2 s2
  generalize V1.alloc (.cells #[.pointer (some ⟨p, 0, none⟩), .pointer (some ⟨q, 0, none⟩)] 109) = V2 at *
  have h3 := Go.heap_alloc_new V2 (.cells #[.string nonce] 9)
  have k3 := heap_alloc k2 (.cells #[.string nonce] 9)
  have l3 := heap_alloc h2 (.cells #[.string nonce] 9)
  have s3 := size_alloc' V2 (.cells #[.string nonce] 9)
  have c3 := c2.alloc (by omega) (.cells #[.string nonce] 9)
  have d3 := at8_below d2 ((Below.refl V2.heap.size V2).alloc (Nat.le_refl _) (.cells #[.string nonce] 9))
  rw [s2] at h3 s3
  generalize V2.alloc (.cells #[.string nonce] 9) = V3 at *
  have h4 := Go.heap_alloc_new V3 (.cells #[.int .i64 (n : Int)] 3)
  have k4 := heap_alloc k3 (.cells #[.int .i64 (n : Int)] 3)
  have l4 := heap_alloc l3 (.cells #[.int .i64 (n : Int)] 3)
  have m4 := heap_alloc h3 (.cells #[.int .i64 (n : Int)] 3)
  have s4 := size_alloc' V3 (.cells #[.int .i64 (n : Int)] 3)
  have c4 := c3.alloc (by omega) (.cells #[.int .i64 (n : Int)] 3)
  have d4 := at8_below d3 ((Below.refl V3.heap.size V3).alloc (Nat.le_refl _) (.cells #[.int .i64 (n : Int)] 3))
  rw [s3] at h4 s4
  rw [h] at h4 k4 l4 m4 s4 c4 d4
  exact ⟨k4, l4, m4, h4, d4, s4, c4⟩

set_option maxRecDepth 100000 in
set_option maxHeartbeats 2000000 in
theorem cturned_any (p q : Nat) (sk : List Nat) (hsk : Bytes sk) (nonce s : ByteArray) (hn : nonce.size ≤ 1000000) (hs : s.size ≤ 1000000) (w : World) (hT : Tab w) (hK : KeyAt w p sk) :
    Calls Tryd.prog 73 #[keysV p q, .string nonce, .string s] w (TurnedPost sk (nums nonce) (nums s) w) := by
  unfold keysV
  refine (callsIn_wide (n := 5)).1 ?_
  refine callsIn_of_wp_marks Tryd.func73 rfl trivial ?_ rfl
  simp only [Tryd.ntmps73, List.size_toArray, List.length_cons, List.length_nil, Nat.reduceAdd, Nat.reduceSub, Array.replicate_succ, Array.replicate_zero, List.push_toArray, List.append_toArray, List.nil_append, List.cons_append]
  obtain ⟨W1, hW1⟩ : ∃ W1, w.alloc (.cells #[.pointer (some ⟨p, 0, none⟩), .pointer (some ⟨q, 0, none⟩)] 109) = W1 := ⟨_, rfl⟩
  have hcv := Lib.run_convert_string_bytes (P := Tryd.prog) W1 9 41 5 s Tryd.underlying9 Tryd.underlying41 Tryd.underlying5
  obtain ⟨W2, hW2⟩ : ∃ W2, Lib.bytesWorld W1 5 s = W2 := ⟨_, rfl⟩
  obtain ⟨z1, z2, k2, a2, b2⟩ := turned_world p q s w W1 W2 hW1 hW2
  rw [hW2] at hcv
  generalize grownCap W1 s.size 0 5 = cap at hcv
  rw [z1] at hcv
  have HW1 := Lib.hid hW1
  have K2 := Lib.hid k2
  have A2 := Lib.hid a2
  have B2 := Lib.hid b2
  have x0 : W2.cell? ⟨w.heap.size, 0, none⟩ = some (.pointer (some ⟨p, 0, none⟩)) := cell_of_row _ _ _ _ _ _ k2
  have x1 : W2.cell? ⟨w.heap.size, 1, none⟩ = some (.pointer (some ⟨q, 0, none⟩)) := cell_of_row _ _ _ _ _ _ k2
  clear hW2 k2 a2 b2 z1
  gi_wp2_with (refine ⟨trivial, ?_⟩; gi_at_call 84; refine (callsIn_wide.2 (streamed_in p q nonce s.size _)).mono ?_; rintro e w1 ⟨rfl, rfl⟩)
  obtain ⟨W0, hW0⟩ : ∃ W0, (((W2.alloc (.cells #[.slice (some ⟨w.heap.size + 1, 0, none⟩) s.size cap] 41)).alloc (.cells #[.pointer (some ⟨p, 0, none⟩), .pointer (some ⟨q, 0, none⟩)] 109)).alloc (.cells #[.string nonce] 9)).alloc (.cells #[.int .i64 (s.size : Int)] 3) = W0 := ⟨_, rfl⟩
  obtain ⟨bb, ck, cn, ci, ca, cz, cb⟩ := turned_boxes p q nonce s.size cap (nums s) w W2 W0 z2 A2.out B2.out hW0
  rw [hW0]
  clear hW0 hcv hW1 x0 x1 z2
  refine wpIn_rangeFunc_ownF (F := Fence.wide) rfl (by decide) (gf := 89) (lb := #[.pointer (some ⟨w.heap.size + 1 + 1 + 1 + 1 + 1, 0, none⟩), .pointer (some ⟨w.heap.size + 1 + 1 + 1, 0, none⟩), .pointer (some ⟨w.heap.size + 1 + 1 + 1 + 1, 0, none⟩)]) rfl trivial (enters_of Tryd.func89 (by kernel_rfl) rfl)
    (stream_stops 4 (by decide) (w.heap.size + 1) (w.heap.size + 1 + 1 + 1 + 1 + 1) (w.heap.size + 1 + 1 + 1) (w.heap.size + 1 + 1 + 1 + 1) p q sk hsk nonce hn s.size hs w W0 hT hK cb (by omega) (by omega) (by omega) (by omega) ci ck cn) (fun h k => KeepG.trans h k)
    (fun W l o o' hl h _ _ => ⟨rfl, rfl, rfl, by simp, fun b hb _ => World.putObj_heap_other (by omega)⟩) (Below.refl _ _) (fun _ => rfl)
    (TurnI w s cap) (fun _ _ _ => False) (turnI_own w s cap _ (by omega)) (fun _ _ _ _ _ h => h.elim)
    ⟨bb, ca, cb⟩ (fun x => turnAct p q nonce s cap w x.1.1 x.2.1) ?assign ?body ?done ?stop
  case assign =>
    rintro l x W K hK
    unfold encK
    unfold turnAct at hK
    gi_wp2
    exact hK
  case body =>
    rintro l pre ⟨⟨i, hi⟩, ⟨v, hv⟩⟩ W ⟨bv, hA, hB⟩ hlt
    have cv := bv.cell
    obtain ⟨z, hz⟩ : ∃ z, (app (nums s) pre).getD i 0 = z := ⟨_, rfl⟩
    have hz2 : z < 256 := by rw [← hz]; exact (app_bytes (nums_bytes s) pre).at i
    obtain ⟨c1, f1⟩ := hA i (by rw [app_length, nums_length]; exact hi)
    rw [hz] at c1
    have b1 : bits .xor .u8 (z : Int) (v : Int) = ((z ^^^ v : Nat) : Int) := u8_xor_nat z v hz2 hv
    have FIN : Hid (TurnI w s cap (pre ++ [(⟨i, hi⟩, ⟨v, hv⟩)]) (W.setCell ⟨w.heap.size + 1, i, none⟩ (.int .u8 ((z ^^^ v : Nat) : Int)))) := by
      refine Lib.hid ⟨?_, ?_, hB.setCell (by simp) _⟩
      · exact (heap_setCell_other _ _ _ _ (show w.heap.size + 1 + 1 ≠ w.heap.size + 1 by omega)).trans bv
      · rw [app_snoc]
        show At8 _ _ ((app (nums s) pre).set i ((app (nums s) pre).getD i 0 ^^^ v))
        rw [hz]
        exact hA.set i (z ^^^ v) (by rw [app_length, nums_length]; exact hi)
    have KP : Hid (KeepG (w.heap.size + 1) W0.heap.size W (W.setCell ⟨w.heap.size + 1, i, none⟩ (.int .u8 ((z ^^^ v : Nat) : Int)))) := Lib.hid ⟨rfl, rfl, rfl, by simp, fun b hb hg => heap_setCell_other _ _ _ _ hg⟩
    have q1 : (0 : Int) ≤ (i : Int) := by omega
    have q2 : (i : Int) < (s.size : Int) := by omega
    generalize z ^^^ v = y at *
    clear hA hB bv hz
    unfold turnAct
    gi_wp2
    exact ⟨KeepsOthers.setCell _ _ _, KP.out, FIN.out⟩
  case done =>
    rintro D xs W hD rfl ⟨bv, hA, hB⟩ hdef
    have cv := bv.cell
    rw [app_all sk (nums nonce) (nums s) s.size (nums_length s)] at hA
    have hcv2 := back_string W (w.heap.size + 1) 0 cap (hide sk (nums nonce) (nums s)) (fun j => (hide_bytes _ _ (nums_bytes s)).at j) (fun j hj => by rw [Nat.zero_add]; exact (hA j hj).1)
    rw [hide_length, nums_length] at hcv2
    have HB := Lib.hid hB
    have HD := Lib.hid hdef
    clear hA hB bv hdef
    gi_wp2
    refine ⟨by simp, .inl ⟨_, _, rfl, run_takeDeferred HD.out, ?_⟩⟩
    refine ⟨.string (bytesOf (hide sk (nums nonce) (nums s))), by simp [results, Tryd.results73, go_sem], rfl, ?_⟩
    exact ownFrom_below (β := Unit) (Nat.le_refl _) (Nat.le_refl _) () W _ (some D) HB.out (grownBy_putObj' W D _) (fun r e => by cases e; exact ⟨by omega, _, HD.out, rfl⟩)
  case stop => rintro D c pre W hD _ h; exact h.elim
end Go.Proofs.YtedidoeoomijjaaDoor.Pl
