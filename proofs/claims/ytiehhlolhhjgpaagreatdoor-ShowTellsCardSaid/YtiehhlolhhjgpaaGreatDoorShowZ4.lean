/- What the program's isPlain, Plain, Width of show answer. What show.readerOf, digit, bytesOf, built answer, and what plain and bytes read. What term's Data, Atom, Num, ReadNum, termAt, join, Row, Hash, Mac and Seal answer. What term's join, Row, Hash, Mac and Seal answer. The program's table of frames, and what show.framed answers. What term's stands and Has answer. What strings.Builder's copyCheck, WriteString do to a builder of the caller's own, and what they leave alone. What strings.Builder's WriteByte does to a builder of the caller's own. What show.bytesOf answers or throws. What the document's plain, Plain, Width, datum of layer 7 answer. What the document's datum of layer 7 answers. What the document's line, Brief and Line of layer 7 answer. What show.datumLine answers. What the document's front, value, atom and quoted of layer 7 answer. What the document's atom, quoted and bytes of layer 7 answer. What a law's statement asks behind its walk: the one result is true, and each argument reads as it did, where below the heap's old size nothing has turned. Whatever the parameters' types are. -/
import Derived.Test.YtiehhlolhhjgpaaGreatDoorShowZ2
import Derived.Test.YtiehhlolhhjgpaaGreatDoorShowZ1
import Derived.Laws.RangeString
import Derived.Laws.RangeAny
import Derived.Lib.OthersKept
import Derived.Deep.RegionHeld3
import Derived.Test.YtiehhlolhhjgpaaGreatDoorShowZ3
import Derived.Laws.Rows
import Derived.Laws.Tables
import Derived.Test.YtiehhlolhhjgpaaGreatDoorShelf
import Derived.Lib.Join
import Derived.LoopTactic
import Derived.Deep.QuietTactic
import Derived.BigQuiet
import Derived.Handy
import Derived.Outline
import Derived.Shelf.Strings.Builder1
import Derived.Shelf.Strings.BuilderK
import Derived.Lib.Builder
import Derived.Lib.AppendStr
import Derived.Lib.UnsafeStr
import Derived.Laws.Externs
import Derived.Test.YtiehhlolhhjgpaaGreatDoorProg
import Derived.WalkKit
import Derived.ProofKit
import Derived.OpenShut
import Derived.Carry
import Derived.ChangeOld
namespace Go.Proofs.YtiehhlolhhjgpaaGreatDoor.Pl
open Go.RowKit

set_option maxHeartbeats 1000000 in
set_option maxRecDepth 100000 in
theorem isplain_any (c : Int) (w : World) :
    Calls Tryz.prog 34 #[.int .i32 c] w fun e w' => e = .returned (.bool (plainC c)) ∧ w = w' := by
  have hcs : c < 32 ∨ (32 ≤ c ∧ c < 34) ∨ c = 34 ∨ (34 < c ∧ c ≤ 126) ∨ (126 < c ∧ c < 161) ∨ (161 ≤ c ∧ c ≤ 687) ∨ (687 < c ∧ c < 880) ∨ (880 ≤ c ∧ c ≤ 1279) ∨ 1279 < c := by omega
  obtain ⟨z, hz⟩ : ∃ z, z = plainC c := ⟨_, rfl⟩
  rw [← hz]
  unfold plainC at hz
  rcases hcs with h | ⟨h, h'⟩ | h | ⟨h, h'⟩ | ⟨h, h'⟩ | ⟨h, h'⟩ | ⟨h, h'⟩ | ⟨h, h'⟩ | h
  · obtain rfl : z = false := hz.trans (decide_eq_false (by omega))
    have q0 : (c == 34) = false := by rw [beq_eq_false_iff_ne]; omega
    have q1 : decide (32 ≤ c) = false := decide_eq_false (by omega)
    have q2 : decide (161 ≤ c) = false := decide_eq_false (by omega)
    have q3 : decide (880 ≤ c) = false := decide_eq_false (by omega)
    clear hz
    go_enter Tryz.func34, Tryz.ntmps34
    go_wp2_with fail
    go_ret
    exact ⟨rfl, rfl⟩
  · obtain rfl : z = true := hz.trans (decide_eq_true (by omega))
    have q0 : (c == 34) = false := by rw [beq_eq_false_iff_ne]; omega
    have q1 : decide (32 ≤ c) = true := decide_eq_true (by omega)
    have q2 : decide (c ≤ 126) = true := decide_eq_true (by omega)
    clear hz
    go_enter Tryz.func34, Tryz.ntmps34
    go_wp2_with fail
    go_ret
    exact ⟨rfl, rfl⟩
  · subst h
    obtain rfl : z = false := hz.trans (by decide)
    clear hz
    go_enter Tryz.func34, Tryz.ntmps34
    go_wp2_with fail
    go_ret
    exact ⟨rfl, rfl⟩
  · obtain rfl : z = true := hz.trans (decide_eq_true (by omega))
    have q0 : (c == 34) = false := by rw [beq_eq_false_iff_ne]; omega
    have q1 : decide (32 ≤ c) = true := decide_eq_true (by omega)
    have q2 : decide (c ≤ 126) = true := decide_eq_true (by omega)
    clear hz
    go_enter Tryz.func34, Tryz.ntmps34
    go_wp2_with fail
    go_ret
    exact ⟨rfl, rfl⟩
  · obtain rfl : z = false := hz.trans (decide_eq_false (by omega))
    have q0 : (c == 34) = false := by rw [beq_eq_false_iff_ne]; omega
    have q1 : decide (32 ≤ c) = true := decide_eq_true (by omega)
    have q2 : decide (c ≤ 126) = false := decide_eq_false (by omega)
    have q3 : decide (161 ≤ c) = false := decide_eq_false (by omega)
    have q4 : decide (880 ≤ c) = false := decide_eq_false (by omega)
    clear hz
    go_enter Tryz.func34, Tryz.ntmps34
    go_wp2_with fail
    go_ret
    exact ⟨rfl, rfl⟩
  · obtain rfl : z = true := hz.trans (decide_eq_true (by omega))
    have q0 : (c == 34) = false := by rw [beq_eq_false_iff_ne]; omega
    have q1 : decide (32 ≤ c) = true := decide_eq_true (by omega)
    have q2 : decide (c ≤ 126) = false := decide_eq_false (by omega)
    have q3 : decide (161 ≤ c) = true := decide_eq_true (by omega)
    have q4 : decide (c ≤ 687) = true := decide_eq_true (by omega)
    clear hz
    go_enter Tryz.func34, Tryz.ntmps34
    go_wp2_with fail
    go_ret
    exact ⟨rfl, rfl⟩
  · obtain rfl : z = false := hz.trans (decide_eq_false (by omega))
    have q0 : (c == 34) = false := by rw [beq_eq_false_iff_ne]; omega
    have q1 : decide (32 ≤ c) = true := decide_eq_true (by omega)
    have q2 : decide (c ≤ 126) = false := decide_eq_false (by omega)
    have q3 : decide (161 ≤ c) = true := decide_eq_true (by omega)
    have q4 : decide (c ≤ 687) = false := decide_eq_false (by omega)
    have q5 : decide (880 ≤ c) = false := decide_eq_false (by omega)
    clear hz
    go_enter Tryz.func34, Tryz.ntmps34
    go_wp2_with fail
    go_ret
    exact ⟨rfl, rfl⟩
  · obtain rfl : z = true := hz.trans (decide_eq_true (by omega))
    have q0 : (c == 34) = false := by rw [beq_eq_false_iff_ne]; omega
    have q1 : decide (32 ≤ c) = true := decide_eq_true (by omega)
    have q2 : decide (c ≤ 126) = false := decide_eq_false (by omega)
    have q3 : decide (161 ≤ c) = true := decide_eq_true (by omega)
    have q4 : decide (c ≤ 687) = false := decide_eq_false (by omega)
    have q5 : decide (880 ≤ c) = true := decide_eq_true (by omega)
    have q6 : decide (c ≤ 1279) = true := decide_eq_true (by omega)
    clear hz
    go_enter Tryz.func34, Tryz.ntmps34
    go_wp2_with fail
    go_ret
    exact ⟨rfl, rfl⟩
  · obtain rfl : z = false := hz.trans (decide_eq_false (by omega))
    have q0 : (c == 34) = false := by rw [beq_eq_false_iff_ne]; omega
    have q1 : decide (32 ≤ c) = true := decide_eq_true (by omega)
    have q2 : decide (c ≤ 126) = false := decide_eq_false (by omega)
    have q3 : decide (161 ≤ c) = true := decide_eq_true (by omega)
    have q4 : decide (c ≤ 687) = false := decide_eq_false (by omega)
    have q5 : decide (880 ≤ c) = true := decide_eq_true (by omega)
    have q6 : decide (c ≤ 1279) = false := decide_eq_false (by omega)
    clear hz
    go_enter Tryz.func34, Tryz.ntmps34
    go_wp2_with fail
    go_ret
    exact ⟨rfl, rfl⟩

set_option maxHeartbeats 2000000 in
set_option maxRecDepth 100000 in
theorem plain7_any (s : ByteArray) (w : World) :
    Calls Tryz.prog 14 #[.string s] w fun e w' => e = .returned (.bool (plainB (bl s))) ∧ Below w.heap.size w w' := by
  obtain ⟨z, hz⟩ : ∃ z, z = plainB (bl s) := ⟨_, rfl⟩
  rw [← hz]
  have HZ : Hid (z = (runes s).all plainC) := Lib.hid (by rw [hz]; unfold plainB; rw [rn_bl])
  clear hz
  go_enter Tryz.func14, Tryz.ntmps14
  go_wp2_with fail
  go_loopw [] (fun wr => ∃ pos fuel : Nat, Hid (wr.heap[w.heap.size]? = some (.stringIter s pos)) ∧ Hid (Below w.heap.size w wr) ∧ Hid (z = (runesF s fuel pos).all plainC) ∧ Hid (s.size ≤ pos + fuel)) (fun wr => s.size - wr.iterPos w.heap.size)
  case atStart =>
    exact ⟨0, s.size, Lib.hid (World.iter_heap w s 0), Lib.hid ((Below.refl _ w).alloc (Nat.le_refl _) _), HZ, Lib.hid (by omega)⟩
  case round =>
    obtain ⟨pos, fuel, hit, hb, hacc, hfu⟩ := hrel
    by_cases hp : pos < s.size
    · have hwd := Lib.hid (width_pos s pos hp)
      have hit2 := Lib.hid (Lib.iterAt_heap wr w.heap.size s pos (pos + (Utf8.decode s pos).2) hit.out)
      have hb2 := Lib.hid (Lib.below_iterAt hb.out (k := w.heap.size) (Nat.le_refl _) s (pos + (Utf8.decode s pos).2))
      have hnx : ∀ ty, (Instr.next (.pointer (some ⟨w.heap.size, 0, none⟩)) true ty).run Tryz.prog wr = _ := fun ty => Lib.run_next_any_at wr w.heap.size s pos ty hit.out hp
      generalize wr.iterAt w.heap.size s (pos + (Utf8.decode s pos).2) = W1 at *
      have HC := Lib.hid (fun V => isplain_any ((Utf8.decode s pos).1 : Int) V)
      have hf1 : fuel = (fuel - 1) + 1 := by have := hfu.out; omega
      have HST : Hid (z = (plainC ((Utf8.decode s pos).1 : Int) && (runesF s (fuel - 1) (pos + (Utf8.decode s pos).2)).all plainC)) := Lib.hid (by
        rw [hacc.out, hf1, runesF_step s (fuel - 1) pos hp, List.all_cons]; rfl)
      have HF2 : Hid (s.size ≤ pos + (Utf8.decode s pos).2 + (fuel - 1)) := Lib.hid (by have := hfu.out; have := hwd.out; omega)
      obtain ⟨n, hn⟩ : ∃ n, n = (Utf8.decode s pos).1 := ⟨_, rfl⟩
      obtain ⟨dw, hdw⟩ : ∃ dw, dw = (Utf8.decode s pos).2 := ⟨_, rfl⟩
      rw [← hn, ← hdw] at HST
      rw [← hdw] at HF2 hit2 hwd
      rw [← hn] at hnx HC
      clear hn hdw hf1
      cases hpc : plainC (n : Int) with
      | true =>
        rw [hpc] at HC HST
        have HST2 : Hid (z = (runesF s (fuel - 1) (pos + dw)).all plainC) := Lib.hid (HST.out.trans (Bool.true_and _))
        clear hpc
        go_wp2_with (go_at_call 34; refine (HC.out _).mono ?_; rintro e w2 ⟨rfl, rfl⟩)
        go_roundw
        case rel => exact ⟨pos + dw, fuel - 1, hit2, hb2, HST2, HF2⟩
        case measure => simp only [World.iterPos, hit2.out, hit.out]; have := hwd.out; omega
      | false =>
        rw [hpc] at HC HST
        have HST2 : Hid (z = false) := Lib.hid (HST.out.trans (Bool.false_and _))
        clear hpc
        go_wp2_with (go_at_call 34; refine (HC.out _).mono ?_; rintro e w2 ⟨rfl, rfl⟩)
        go_ret
        exact ⟨ret6_bool HST2.out.symm, hb2.out⟩
    · have hnx : ∀ ty, (Instr.next (.pointer (some ⟨w.heap.size, 0, none⟩)) true ty).run Tryz.prog wr = _ := fun ty => Lib.run_next_end_at wr w.heap.size s pos ty hit.out hp
      have HQ : Hid (z = true) := Lib.hid (by rw [hacc.out, runesF_end s fuel pos hp]; rfl)
      clear hp
      go_wp2_with fail
      go_ret
      exact ⟨ret6_bool HQ.out.symm, hb.out⟩

set_option maxHeartbeats 2000000 in
set_option maxRecDepth 100000 in
theorem width7_any (s : ByteArray) (hs : s.size ≤ 281474976710656) (w : World) :
    Calls Tryz.prog 16 #[.string s] w fun e w' => e = .returned (.int .i64 (rn (bl s)).length) ∧ Below w.heap.size w w' := by
  obtain ⟨z, hz⟩ : ∃ z, z = (rn (bl s)).length := ⟨_, rfl⟩
  rw [← hz]
  have HZ : Hid (z = (runes s).length) := Lib.hid (by rw [hz, rn_bl])
  have hzl : z ≤ 281474976710656 := by rw [HZ.out]; exact Nat.le_trans (runes_length s) hs
  clear hz
  go_enter Tryz.func16, Tryz.ntmps16
  go_wp2_with fail
  go_loopw [3] (fun v wr => ∃ pos fuel acc : Nat, v = .int .i64 acc ∧ acc ≤ 281474976710656 ∧ Hid (wr.heap[w.heap.size]? = some (.stringIter s pos)) ∧ Hid (Below w.heap.size w wr) ∧ Hid (z = acc + (runesF s fuel pos).length) ∧ Hid (s.size ≤ pos + fuel)) (fun _ wr => s.size - wr.iterPos w.heap.size)
  case atStart =>
    exact ⟨0, s.size, 0, rfl, by decide, Lib.hid (World.iter_heap w s 0), Lib.hid ((Below.refl _ w).alloc (Nat.le_refl _) _), Lib.hid (by rw [Nat.zero_add]; exact HZ.out), Lib.hid (by omega)⟩
  case round =>
    obtain ⟨pos, fuel, acc, rfl, hal, hit, hb, hacc, hfu⟩ := hrel
    by_cases hp : pos < s.size
    · have hwd := Lib.hid (width_pos s pos hp)
      have hit2 := Lib.hid (Lib.iterAt_heap wr w.heap.size s pos (pos + (Utf8.decode s pos).2) hit.out)
      have hb2 := Lib.hid (Lib.below_iterAt hb.out (k := w.heap.size) (Nat.le_refl _) s (pos + (Utf8.decode s pos).2))
      have hnx : ∀ ty, (Instr.next (.pointer (some ⟨w.heap.size, 0, none⟩)) true ty).run Tryz.prog wr = _ := fun ty => Lib.run_next_any_at wr w.heap.size s pos ty hit.out hp
      generalize wr.iterAt w.heap.size s (pos + (Utf8.decode s pos).2) = W1 at *
      have hf1 : fuel = (fuel - 1) + 1 := by have := hfu.out; omega
      have HST : Hid (z = acc + 1 + (runesF s (fuel - 1) (pos + (Utf8.decode s pos).2)).length) := Lib.hid (by
        rw [hacc.out, hf1, runesF_step s (fuel - 1) pos hp, List.length_cons, Nat.add_sub_cancel]; omega)
      have HF2 : Hid (s.size ≤ pos + (Utf8.decode s pos).2 + (fuel - 1)) := Lib.hid (by have := hfu.out; have := hwd.out; omega)
      have HA2 : Hid (acc + 1 ≤ 281474976710656) := Lib.hid (by have := HST.out; omega)
      clear hf1
      go_wp2_with fail
      go_roundw
      case rel => exact ⟨pos + (Utf8.decode s pos).2, fuel - 1, acc + 1, by go_num, HA2.out, hit2, hb2, HST, HF2⟩
      case measure => simp only [World.iterPos, hit2.out, hit.out]; have := hwd.out; omega
    · have hnx : ∀ ty, (Instr.next (.pointer (some ⟨w.heap.size, 0, none⟩)) true ty).run Tryz.prog wr = _ := fun ty => Lib.run_next_end_at wr w.heap.size s pos ty hit.out hp
      have HQ : Hid (z = acc) := Lib.hid (by rw [hacc.out, runesF_end s fuel pos hp]; rfl)
      clear hp
      go_wp2_with fail
      go_ret
      exact ⟨by rw [HQ.out]; rfl, hb.out⟩
end Go.Proofs.YtiehhlolhhjgpaaGreatDoor.Pl

namespace Go.Proofs.YtiehhlolhhjgpaaGreatDoor.Pl
open Go.RowKit

theorem reader_info : (Tryz.prog.info? 47).map (·.size) = some (#[skipV 0, upV 0].size) := by kernel_rfl
theorem reader_one (B : Nat) : (#[skipV B, upV B]).all (·.oneCell') = true := by
  rw [Array.all_eq_true_iff_forall_mem]
  intro v hv
  simp only [List.mem_toArray, List.mem_cons, List.not_mem_nil, or_false] at hv
  rcases hv with rfl | rfl <;> rfl
set_option maxHeartbeats 1000000 in
set_option maxRecDepth 100000 in
theorem readerof_any (s : List UInt8) (w : World) :
    Calls Tryz.prog 37 #[.string ⟨s.toArray⟩] w fun e w' => e = .returned (rdV (w.heap.size + 1)) ∧ At7 (w.heap.size + 1) s w' ∧ Below w.heap.size w w' := by
  have hmf : ∀ (fn : Fn) (first cap : Array Value) (w : World), (Instr.makeFunc fn first cap).run Tryz.prog w = .ok (.func fn first cap) w := fun _ _ _ _ => rfl
  go_enter Tryz.func37, Tryz.ntmps37
  have N0 := Lib.hid (show ((w.alloc (.cells #[.nilFunc, .nilFunc] 47)).alloc (.cells #[.string ⟨s.toArray⟩] 9)).heap[w.heap.size]? = some (.cells #[.nilFunc, .nilFunc] 47 (0, 0)) from (Lib.alloc_old _ _ _ (by simp)).trans (Go.heap_alloc_new _ _))
  have N1 := Lib.hid (show ((w.alloc (.cells #[.nilFunc, .nilFunc] 47)).alloc (.cells #[.string ⟨s.toArray⟩] 9)).heap[w.heap.size + 1]? = some (.cells #[.string ⟨s.toArray⟩] 9 (0, 0)) by
    have h := Go.heap_alloc_new (w.alloc (.cells #[.nilFunc, .nilFunc] 47)) (.cells #[.string ⟨s.toArray⟩] 9)
    rwa [World.size_alloc] at h)
  have B0 : Hid (Below w.heap.size w ((w.alloc (.cells #[.nilFunc, .nilFunc] 47)).alloc (.cells #[.string ⟨s.toArray⟩] 9))) := Lib.hid (((Below.refl _ _).alloc (Nat.le_refl _) _).alloc (by simp) _)
  go_wp2_with (refine wpList_store_row rfl 47 _ _ rfl w.heap.size #[skipV (w.heap.size + 1), upV (w.heap.size + 1)] rfl rfl 47 #[.nilFunc, .nilFunc] N0.out reader_info rfl (reader_one _) ?_)
  refine bodyPost_ret (v := rdV (w.heap.size + 1)) ?_ rfl ⟨rfl, ?_, ?_⟩
  · exact results_cell_row rfl _ _ w.heap.size 47 _ (0, 0) _ rfl (setRow_heap _ _ _ _ _ _ N0.out) Tryz.underlying47 rfl reader_info
  · exact (setRow_other _ _ _ _ (by omega)).trans N1.out
  · exact ⟨B0.out.os, B0.out.tape, B0.out.output, by simpa [World.setRow] using B0.out.size, fun k hk => (setRow_other _ _ _ _ (by omega)).trans (B0.out.block k hk)⟩

def hexT : List UInt8 := [48, 49, 50, 51, 52, 53, 54, 55, 56, 57, 97, 98, 99, 100, 101, 102]
theorem digit_at : ∀ n, n < 256 → Lib.indexByte hexT n.toUInt8 = if hexB n.toUInt8 = true then (hexV n.toUInt8 : Int) else -1 := by decide +kernel
theorem digit_of (c : UInt8) : Lib.indexByte hexT c = if hexB c = true then (hexV c : Int) else -1 := by
  have h := digit_at c.toNat c.toNat_lt
  have e : c.toNat.toUInt8 = c := by simp
  rwa [e] at h
theorem digit7_ok (c : UInt8) (h : hexB c = true) (w : World) : Calls Tryz.prog 113 #[.int .u8 c.toNat] w fun e w' => e = .returned (.int .u8 (hexV c)) ∧ w' = w := by
  have HI : Hid (∀ V, Calls Tryz.prog 109 #[.string ⟨#[48, 49, 50, 51, 52, 53, 54, 55, 56, 57, 97, 98, 99, 100, 101, 102]⟩, .int .u8 c.toNat] V fun e w' => e = .returned (.int .i64 (hexV c)) ∧ w' = V) := Lib.hid (fun V => (Tryz.strings_IndexByte _ _ V).mono fun e w' ⟨h1, h2⟩ => ⟨by
    have e3 : ((c.toNat : Int).toNat.toUInt8) = c := by simp
    have e4 := digit_of c
    rw [if_pos h] at e4
    rw [h1, e3]
    exact congrArg (fun x => Ending.returned (.int .i64 x)) e4, h2⟩)
  have hv := hexV_lt h
  have h0 : (0 : Int) ≤ (hexV c : Int) := by omega
  have h1 : (hexV c : Int) ≤ 255 := by omega
  clear h hv
  generalize hexV c = v at *
  go_enter Tryz.func113, Tryz.ntmps113
  go_wp2_with (first | (go_at_call 109; refine (HI.out _).mono ?_; rintro e w1 ⟨rfl, rfl⟩) | (go_at_call 39; refine (need7_ok _).mono ?_; rintro e w2 ⟨rfl, rfl⟩))
  go_ret
  exact ⟨rfl, rfl⟩
theorem digit7_bad (c : UInt8) (h : hexB c = false) (w : World) : Calls Tryz.prog 113 #[.int .u8 c.toNat] w fun e w' => e = boom7 ∧ w' = w := by
  have HI : Hid (∀ V, Calls Tryz.prog 109 #[.string ⟨#[48, 49, 50, 51, 52, 53, 54, 55, 56, 57, 97, 98, 99, 100, 101, 102]⟩, .int .u8 c.toNat] V fun e w' => e = .returned (.int .i64 (-1)) ∧ w' = V) := Lib.hid (fun V => (Tryz.strings_IndexByte _ _ V).mono fun e w' ⟨h1, h2⟩ => ⟨by
    have e3 : ((c.toNat : Int).toNat.toUInt8) = c := by simp
    have e4 := digit_of c
    rw [if_neg (by rw [h]; decide)] at e4
    rw [h1, e3]
    exact congrArg (fun x => Ending.returned (.int .i64 x)) e4, h2⟩)
  clear h
  go_enter Tryz.func113, Tryz.ntmps113
  go_wp2_with (first | (go_at_call 109; refine (HI.out _).mono ?_; rintro e w1 ⟨rfl, rfl⟩) | (go_at_call 39; refine (need7_bad _).mono ?_; rintro e w2 ⟨rfl, rfl⟩))
  exact ⟨rfl, rfl, rfl⟩
end Go.Proofs.YtiehhlolhhjgpaaGreatDoor.Pl

namespace Go.Proofs.YtiehhlolhhjgpaaGreatDoor.Pl
open Go.RowKit

set_option maxRecDepth 100000 in
theorem data6_any (s : ByteArray) (hs : s.size ≤ 281474976710656) (w : World) :
    Calls Tryz.prog 21 #[.string s] w fun e w' => e = .returned (st2 (dataP (bl s))) ∧ Below w.heap.size w w' := by
  by_cases h : 1024 < s.size
  · have HZ : Hid (dataP (bl s) = ([], 5)) := Lib.hid (by unfold dataP; rw [bl_length]; exact if_pos h)
    have h' : (1024 : Int) < (s.size : Int) := by omega
    clear h
    go_enter Tryz.func21, Tryz.ntmps21
    go_wp2_with fail
    go_ret2
    exact ⟨by rw [HZ.out]; rfl, Below.refl _ _⟩
  · have HZ : Hid (dataP (bl s) = (100 :: txt (bl s), 0)) := Lib.hid (by unfold dataP; rw [bl_length]; exact if_neg h)
    have h' : ¬ (1024 : Int) < (s.size : Int) := by omega
    have HT := Lib.hid (fun V => text_any s V hs)
    rw [text_list] at HT
    have hcat : (⟨#[100]⟩ : ByteArray).size + (⟨(txt s.data.toList).toArray⟩ : ByteArray).size ≤ 9223372036854775807 := by
      have h4 : (⟨(txt s.data.toList).toArray⟩ : ByteArray).size = (txt s.data.toList).length := size_lit _
      have := txt_le s.data.toList
      have h2 : s.data.toList.length = s.size := bl_length s
      have h3 : (⟨#[100]⟩ : ByteArray).size = 1 := rfl
      omega
    have HC : Hid ((⟨#[100]⟩ ++ ⟨(txt s.data.toList).toArray⟩ : ByteArray) = ⟨(100 :: txt (bl s)).toArray⟩) := Lib.hid (cat_front _ _)
    generalize (⟨(txt s.data.toList).toArray⟩ : ByteArray) = t at *
    clear h hs
    go_enter Tryz.func21, Tryz.ntmps21
    go_wp2_with (go_at_call 42; refine (HT.out _).mono ?_; rintro e w1 ⟨rfl, b1⟩)
    go_ret2
    exact ⟨by rw [HZ.out, st2, ← HC.out]; rfl, b1⟩

set_option maxRecDepth 100000 in
theorem atom6_any (s : ByteArray) (hs : s.size ≤ 281474976710656) (w : World) :
    Calls Tryz.prog 20 #[.string s] w fun e w' => e = .returned (st2 (atomP (bl s))) ∧ Below w.heap.size w w' := by
  have HN := Lib.hid (fun V => isname_any s hs V)
  by_cases h : 32 < s.size
  · have HZ : Hid (atomP (bl s) = ([], 5)) := Lib.hid (by unfold atomP; rw [bl_length]; exact if_pos h)
    have h' : (32 : Int) < (s.size : Int) := by omega
    clear h
    go_enter Tryz.func20, Tryz.ntmps20
    go_wp2_with fail
    go_ret2
    exact ⟨by rw [HZ.out]; rfl, Below.refl _ _⟩
  · have h' : ¬ (32 : Int) < (s.size : Int) := by omega
    cases hno : nameOK (bl s) with
    | false =>
      have HZ : Hid (atomP (bl s) = ([], 7)) := Lib.hid (by unfold atomP; rw [bl_length, if_neg h, if_pos hno])
      rw [hno] at HN
      clear h hs hno
      go_enter Tryz.func20, Tryz.ntmps20
      go_wp2_with (go_at_call 41; refine (HN.out _).mono ?_; rintro e w1 ⟨rfl, b1⟩)
      go_ret2
      exact ⟨by rw [HZ.out]; rfl, b1⟩
    | true =>
      have HZ : Hid (atomP (bl s) = (97 :: txt (bl s), 0)) := Lib.hid (by unfold atomP; rw [bl_length, if_neg h, if_neg (by rw [hno]; decide)])
      rw [hno] at HN
      have HT := Lib.hid (fun V => text_any s V hs)
      rw [text_list] at HT
      have hcat : (⟨#[97]⟩ : ByteArray).size + (⟨(txt s.data.toList).toArray⟩ : ByteArray).size ≤ 9223372036854775807 := by
        have h4 : (⟨(txt s.data.toList).toArray⟩ : ByteArray).size = (txt s.data.toList).length := size_lit _
        have := txt_le s.data.toList
        have h2 : s.data.toList.length = s.size := bl_length s
        have h3 : (⟨#[97]⟩ : ByteArray).size = 1 := rfl
        omega
      have HC : Hid ((⟨#[97]⟩ ++ ⟨(txt s.data.toList).toArray⟩ : ByteArray) = ⟨(97 :: txt (bl s)).toArray⟩) := Lib.hid (cat_front _ _)
      generalize (⟨(txt s.data.toList).toArray⟩ : ByteArray) = t at *
      clear h hs hno
      go_enter Tryz.func20, Tryz.ntmps20
      go_wp2_with (first | (go_at_call 41; refine (HN.out _).mono ?_; rintro e w1 ⟨rfl, b1⟩) | (go_at_call 42; refine (HT.out _).mono ?_; rintro e w2 ⟨rfl, b2⟩))
      go_ret2
      exact ⟨by rw [HZ.out, st2, ← HC.out]; rfl, below_step b1 b2⟩

set_option maxHeartbeats 1000000 in
set_option maxRecDepth 100000 in
theorem termat_any (s : ByteArray) (p : Nat) (hp : p ≤ s.size) (hs : s.size ≤ 281474976710656) (w : World) :
    Calls Tryz.prog 55 #[.string s, .int .i64 p] w fun e w' => e = .returned (.string (s.extract p (p + (frontP ((bl s).drop p)).1))) ∧ Below w.heap.size w w' := by
  have sl : ∀ V : World, (Instr.sliceAt 9 (.string s) (some (.int .i64 (p : Int))) none none).run Tryz.prog V = .ok (.string (s.extract p s.size)) V := tslice_from s p hp
  have hx : bl (s.extract p s.size) = (bl s).drop p := bl_from s p
  have hxl : (s.extract p s.size).size + p = s.size := by rw [size_bl, hx, List.length_drop, bl_length]; omega
  rw [← hx]
  generalize s.extract p s.size = x at *
  have hle : (frontP (bl x)).1 ≤ x.size := by
    by_cases h0 : (frontP (bl x)).2 = 0
    · exact front_len x h0
    · have : (frontP (bl x)).1 = 0 := by
        unfold frontP at h0 ⊢
        split
        · split
          · rfl
          · rename_i h1 h2; rw [if_pos h1, if_neg h2] at h0; exact absurd h1 h0
        · rfl
      omega
  have HR := Lib.hid (fun V => read6_any x (by omega) V)
  generalize frontP (bl x) = fr at *
  obtain ⟨n, f⟩ := fr
  simp only at hle ⊢
  have sl2 : ∀ V : World, (Instr.sliceAt 9 (.string s) (some (.int .i64 (p : Int))) (some (.int .i64 ((p : Int) + (n : Int)))) none).run Tryz.prog V = .ok (.string (s.extract p (p + n))) V := fun V => tslice_mid s p (p + n) (by omega) (by omega) V
  have HC := Lib.hid (fun V => clone_any (s.extract p (p + n)) V (by rw [size_bl, bl_extract, List.length_drop, List.length_take, bl_length]; omega))
  generalize s.extract p (p + n) = y at *
  clear hx
  go_enter Tryz.func55, Tryz.ntmps55
  go_wp2_with (first | (go_at_call 45; refine (HR.out _).mono ?_; rintro e w1 ⟨rfl, b1⟩) | (go_at_call 88; refine (HC.out _).mono ?_; rintro e w2 ⟨rfl, b2⟩))
  go_ret
  exact ⟨rfl, below_step b1 b2⟩

theorem kind_data {s : List UInt8} (h : kindP s = 1) : (textP s).2 = true := by
  by_cases hc : checkP s = 0
  · obtain ⟨b, r, _, e2, e3, _⟩ := kind_of hc
    rw [(e3 (.inl (by rw [← e2]; exact h))).2]
  · rw [(kind_no hc).1] at h; cases h

end Go.Proofs.YtiehhlolhhjgpaaGreatDoor.Pl

namespace Go.Proofs.YtiehhlolhhjgpaaGreatDoor.Pl
open Go.RowKit

theorem join_flat : ∀ l : List (List UInt8), Lib.join l [] = l.flatten := by
  intro l
  cases l with
  | nil => rfl
  | cons x r =>
    rw [Lib.join_cons]
    have : Lib.joinTail [] r = r.flatten := by
      unfold Lib.joinTail
      congr 1
      induction r with
      | nil => rfl
      | cons y r ih => simp
    rw [this]; rfl

theorem joined_any (l : List ByteArray) (ao : Option Addr) (cap : Nat) (hcap : l.length ≤ cap) (hl : l.length ≤ 1000) (hx : ((l.map bl).flatten).length ≤ 100000) (w : World) (hrow : TxtRow w ao l) :
    Calls Tryz.prog 49 #[.slice ao l.length cap, .string ⟨#[]⟩] w fun e w' => e = .returned (.string ⟨((l.map bl).flatten).toArray⟩) ∧ Below w.heap.size w w' := by
  rcases hrow with rfl | ⟨b, off, rfl, hlt, hc⟩
  · exact (Tryz.strings_Join_none ao cap ⟨#[]⟩ w).mono (fun e w' h => ⟨h.1, by rw [h.2]; exact Below.refl _ _⟩)
  · have hj : Lib.join (l.map (·.data.toList)) (⟨#[]⟩ : ByteArray).data.toList = (l.map bl).flatten := join_flat _
    have h := Tryz.strings_Join b off cap l ⟨#[]⟩ w (fun j x hj => by
        have hlt : j < l.length := (List.getElem?_eq_some_iff.1 hj).1
        rw [hc j hlt, List.getD_eq_getElem?_getD, hj]; rfl) hlt (by omega) hcap (by rw [hj]; omega)
    rwa [hj] at h

set_option maxHeartbeats 2000000 in
set_option maxRecDepth 100000 in
theorem join6_any (front : ByteArray) (l : List ByteArray) (ao : Option Addr) (cap : Nat) (hcap : l.length ≤ cap) (hf : front.size ≤ 100) (hl : l.length ≤ 1000) (hx : ∀ x ∈ l, x.size ≤ 100000) (w : World) (hrow : TxtRow w ao l) :
    Calls Tryz.prog 43 #[.string front, .slice ao l.length cap] w fun e w' => e = .returned (st2 (madeP (bl front) (l.map bl))) ∧ Below w.heap.size w w' := by
  have HROW := Lib.hid hrow
  obtain ⟨z, hz⟩ : ∃ z, z = madeP (bl front) (l.map bl) := ⟨_, rfl⟩
  rw [← hz]
  unfold madeP at hz
  by_cases hall : ∀ x ∈ l, checkP (bl x) = 0
  · rw [if_pos (by intro x hx'; obtain ⟨y, hy, rfl⟩ := List.mem_map.1 hx'; exact hall y hy)] at hz
    have HA := Lib.hid (fun V hV => are_any l ao cap (by omega) (fun x h => Nat.le_trans (hx x h) (by decide)) V hV true (by simpa using hall))
    have HX : Hid (∀ k, k < l.length → (l.getD k ByteArray.empty).size ≤ 16384) := Lib.hid (fun k hk => by rw [size_bl]; exact check_len (hall _ (getD_mem6 l k hk)))
    have HCL : Hid (∀ k, (catL l k).length ≤ ((l.map bl).flatten).length) := Lib.hid (fun k => catL_le l k)
    have hbig : ∀ m : List ByteArray, (∀ x ∈ m, checkP (bl x) = 0) → ((m.map bl).flatten).length ≤ m.length * 16384 := by
      intro m
      induction m with
      | nil => intro _; simp
      | cons x m ih =>
        intro h
        have h1 := ih (fun y hy => h y (List.mem_cons_of_mem _ hy))
        have h2 := check_len (h x (List.mem_cons_self ..))
        rw [List.map_cons, List.flatten_cons, List.length_append, List.length_cons, Nat.succ_mul]
        omega
    have hbg := hbig l hall
    have hbg2 : ((l.map bl).flatten).length ≤ 16384000 := by omega
    have HALL : Hid (catL l l.length = (l.map bl).flatten) := Lib.hid (catL_all l _ (Nat.le_refl _))
    have HS : Hid (∀ k, k < l.length → catL l (k + 1) = catL l k ++ bl (l.getD k ByteArray.empty)) := Lib.hid (fun k hk => catL_succ l k hk)
    have HJ := Lib.hid (fun (h : ((l.map bl).flatten).length ≤ 100000) V hV => joined_any l ao cap hcap hl h V hV)
    have hfl : (bl front ++ (l.map bl).flatten).length = front.size + ((l.map bl).flatten).length := by rw [List.length_append, bl_length]
    generalize (l.map bl).flatten = F at *
    obtain ⟨n, hn⟩ : ∃ n, n = l.length := ⟨_, rfl⟩
    have HN := Lib.hid hn
    rw [← hn] at HA HJ hl ⊢
    have HFL := Lib.hid hfl
    have HZ := Lib.hid hz
    have HBG := Lib.hid hbg2
    have HF := Lib.hid hf
    clear hall hx hrow hbig hbg hbg2 hn hfl hz hcap hf
    go_enter Tryz.func43, Tryz.ntmps43
    go_wp2_with (go_at_call 53; refine (HA.out _ HROW.out).mono ?_; rintro e w1 ⟨rfl, b1⟩)
    go_loopw [6, 16] (fun sv iv wr => ∃ k : Nat, sv = .int .i64 ((front.size + (catL l k).length : Nat) : Int) ∧ iv = .int .i64 k ∧ k ≤ n ∧ Hid (Below w.heap.size w wr)) (fun _ iv _ => n - (intOf iv).toNat)
    case atStart => exact ⟨0, by simp [catL_zero], rfl, Nat.zero_le _, Lib.hid b1⟩
    case round =>
      obtain ⟨k, rfl, rfl, hkn, hb⟩ := hrel
      have hsz : front.size + (catL l k).length ≤ 20000000 := by have := HCL.out k; have := HBG.out; have := HF.out; omega
      by_cases hk : k < n
      · have hk' : (k : Int) < (n : Int) := by omega
        rcases HROW.out.below hb.out with e | ⟨b, off, rfl, hlt, hc⟩
        · exfalso; have := HN.out; rw [e] at this; simp at this; omega
        have ck := hc k (by have := HN.out; omega)
        have hy := HX.out k (by have := HN.out; omega)
        have HST : Hid (front.size + (catL l (k + 1)).length = front.size + (catL l k).length + (l.getD k ByteArray.empty).size) := Lib.hid (by rw [HS.out k (by have := HN.out; omega), List.length_append, bl_length, Nat.add_assoc])
        generalize l.getD k ByteArray.empty = y at *
        generalize front.size + (catL l k).length = q at *
        clear hc hlt
        go_wp2_with fail
        go_roundw
        case rel => exact ⟨k + 1, by rw [HST.out]; go_num, by go_num, by omega, hb⟩
        case measure => simp [intOf]; omega
      · obtain rfl : k = n := by omega
        have HT : Hid (front.size + (catL l k).length = (bl front ++ F).length) := Lib.hid (by rw [HFL.out]; have := HALL.out; rw [← HN.out] at this; rw [this])
        rw [HT.out] at hsz ⊢
        by_cases hT : 16384 < (bl front ++ F).length
        · have h' : (16384 : Int) < (((bl front ++ F).length : Nat) : Int) := by omega
          have HZ2 : Hid (z = ([], 5)) := Lib.hid (by rw [HZ.out, if_neg (fun h => by have := check_len h; omega)])
          clear hT hk hkn hsz
          generalize (bl front ++ F).length = q at *
          go_wp2_with fail
          go_ret2
          exact ⟨by rw [HZ2.out]; rfl, hb.out⟩
        · have h' : ¬ (16384 : Int) < (((bl front ++ F).length : Nat) : Int) := by omega
          have hFl : F.length ≤ 100000 := by have := HFL.out; omega
          have HJ2 := Lib.hid (HJ.out hFl)
          have hcat : front.size + (⟨F.toArray⟩ : ByteArray).size ≤ 9223372036854775807 := by rw [size_lit F]; have := HF.out; omega
          have HV := Lib.hid (fun V => valid6_any (front ++ ⟨F.toArray⟩) (by rw [ByteArray.size_append, size_lit F]; have := HF.out; omega) V)
          have HB : Hid (bl (front ++ ⟨F.toArray⟩) = bl front ++ F) := Lib.hid (cat_bytes _ _)
          have hV2 := HV.out
          rw [HB.out, ← HZ.out] at hV2
          unfold st2 at hV2
          have HV3 := Lib.hid hV2
          clear hT hk hkn hsz hFl HV hV2
          generalize (bl front ++ F).length = q at *
          generalize (⟨F.toArray⟩ : ByteArray) = ft at *
          go_wp2_with (first | (go_at_call 49; refine (HJ2.out _ (HROW.out.below hb.out)).mono ?_; rintro e w2 ⟨rfl, b2⟩) | (go_at_call 78; refine (HV3.out _).mono ?_; rintro e w3 ⟨rfl, b3⟩))
          go_ret2
          exact ⟨rfl, below_step (below_step hb.out b2) b3⟩
  · have HZ : Hid (z = ([], 2)) := Lib.hid (by
      rw [hz, if_neg]
      intro h
      exact hall (fun x hx' => h _ (List.mem_map.2 ⟨x, hx', rfl⟩)))
    have HA := Lib.hid (fun V hV => are_any l ao cap (by omega) (fun x h => Nat.le_trans (hx x h) (by decide)) V hV false (by simpa using hall))
    clear hall hx hz hrow
    generalize l.length = n at *
    go_enter Tryz.func43, Tryz.ntmps43
    go_wp2_with (go_at_call 53; refine (HA.out _ HROW.out).mono ?_; rintro e w1 ⟨rfl, b1⟩)
    go_ret2
    exact ⟨by rw [HZ.out]; rfl, b1⟩

set_option maxRecDepth 100000 in
theorem hash6_any (a : ByteArray) (ha : a.size ≤ 100000) (w : World) :
    Calls Tryz.prog 94 #[.string a] w fun e w' => e = .returned (st2 (madeP [104] [bl a])) ∧ Below w.heap.size w w' := by
  have HM := Lib.hid (join6_any ⟨#[104]⟩ [a] (some ⟨w.heap.size, 0, none⟩) 1 (by simp) (by decide) (by simp) (fun x hx => by simp at hx; rw [hx]; exact ha) _ (row1 w a))
  have B0 := Lib.hid ((Below.refl w.heap.size w).alloc (Nat.le_refl _) (.cells #[.string a] 9))
  unfold st2 at HM
  clear ha
  go_enter Tryz.func94, Tryz.ntmps94
  go_wp2_with (go_at_call 43; refine HM.out.mono ?_; rintro e w1 ⟨rfl, b1⟩)
  go_ret2
  exact ⟨rfl, below_step B0.out b1⟩
set_option maxRecDepth 100000 in
theorem mac6_any (a b : ByteArray) (ha : a.size ≤ 100000) (hb : b.size ≤ 100000) (w : World) :
    Calls Tryz.prog 23 #[.string a, .string b] w fun e w' => e = .returned (st2 (madeP [109] [bl a, bl b])) ∧ Below w.heap.size w w' := by
  have HM := Lib.hid (join6_any ⟨#[109]⟩ [a, b] (some ⟨w.heap.size, 0, none⟩) 2 (by simp) (by decide) (by simp) (fun x hx => by simp at hx; rcases hx with rfl | rfl <;> assumption) _ (row2 w a b))
  have B0 := Lib.hid ((Below.refl w.heap.size w).alloc (Nat.le_refl _) (.cells #[.string a, .string b] 9))
  unfold st2 at HM
  clear ha hb
  go_enter Tryz.func23, Tryz.ntmps23
  go_wp2_with (go_at_call 43; refine HM.out.mono ?_; rintro e w1 ⟨rfl, b1⟩)
  go_ret2
  exact ⟨rfl, below_step B0.out b1⟩
set_option maxRecDepth 100000 in
theorem seal6_any (a b c : ByteArray) (ha : a.size ≤ 100000) (hb : b.size ≤ 100000) (hc : c.size ≤ 100000) (w : World) :
    Calls Tryz.prog 95 #[.string a, .string b, .string c] w fun e w' => e = .returned (st2 (madeP [115] [bl a, bl b, bl c])) ∧ Below w.heap.size w w' := by
  have HM := Lib.hid (join6_any ⟨#[115]⟩ [a, b, c] (some ⟨w.heap.size, 0, none⟩) 3 (by simp) (by decide) (by simp) (fun x hx => by simp at hx; rcases hx with rfl | rfl | rfl <;> assumption) _ (row3 w a b c))
  have B0 := Lib.hid ((Below.refl w.heap.size w).alloc (Nat.le_refl _) (.cells #[.string a, .string b, .string c] 9))
  unfold st2 at HM
  clear ha hb hc
  go_enter Tryz.func95, Tryz.ntmps95
  go_wp2_with (go_at_call 43; refine HM.out.mono ?_; rintro e w1 ⟨rfl, b1⟩)
  go_ret2
  exact ⟨rfl, below_step B0.out b1⟩

set_option maxRecDepth 100000 in
theorem row6_any (l : List ByteArray) (ao : Option Addr) (cap : Nat) (hcap : l.length ≤ cap) (hl : l.length ≤ 1000) (hx : ∀ x ∈ l, x.size ≤ 100000) (w : World) (hrow : TxtRow w ao l) :
    Calls Tryz.prog 22 #[.slice ao l.length cap] w fun e w' => e = .returned (st2 (rowP (l.map bl))) ∧ Below w.heap.size w w' := by
  have HN := Lib.hid (fun V => num_any l.length (by rw [two64]; omega) V)
  have hs : (⟨(enc l.length).toArray⟩ : ByteArray).size ≤ 9 := by rw [size_lit]; exact (enc_len _).2
  have hcat : (⟨#[114]⟩ : ByteArray).size + (⟨(enc l.length).toArray⟩ : ByteArray).size ≤ 9223372036854775807 := by
    have h3 : (⟨#[114]⟩ : ByteArray).size = 1 := rfl
    omega
  have hf : (⟨#[114]⟩ ++ ⟨(enc l.length).toArray⟩ : ByteArray).size ≤ 100 := by
    rw [ByteArray.size_append]
    have h3 : (⟨#[114]⟩ : ByteArray).size = 1 := rfl
    omega
  have HE : Hid (bl (⟨#[114]⟩ ++ ⟨(enc l.length).toArray⟩ : ByteArray) = 114 :: enc (l.map bl).length) := Lib.hid (by rw [cat_front, bl_mk, List.length_map])
  have hM := fun V hV => join6_any (⟨#[114]⟩ ++ ⟨(enc l.length).toArray⟩) l ao cap hcap hf hl hx V hV
  rw [HE.out, show madeP (114 :: enc (l.map bl).length) (l.map bl) = rowP (l.map bl) from rfl] at hM
  unfold st2 at hM
  have HM := Lib.hid hM
  have HROW := Lib.hid hrow
  have hcv : ∀ V : World, (convert 3 55 (.int .i64 ((l.length : Nat) : Int))).run Tryz.prog V = .ok (.int .u64 ((l.length : Nat) : Int)) V := fun V => by
    have hw : IntKind.u64.wrap ((l.length : Nat) : Int) = ((l.length : Nat) : Int) := IntWalk.u64_in _ (by omega)
    go_simp
  generalize (⟨(enc l.length).toArray⟩ : ByteArray) = t at *
  generalize rowP (l.map bl) = rp at *
  obtain ⟨n, hn⟩ : ∃ n, n = l.length := ⟨_, rfl⟩
  rw [← hn] at HN hcv HM ⊢
  clear hs hf hx hrow hn hl hM hcap
  go_enter Tryz.func22, Tryz.ntmps22
  go_wp2_with (first | (go_at_call 44; refine (HN.out _).mono ?_; rintro e w1 ⟨rfl, b1⟩) | (go_at_call 43; refine (HM.out _ (HROW.out.below b1)).mono ?_; rintro e w2 ⟨rfl, b2⟩))
  go_ret2
  exact ⟨rfl, below_step b1 b2⟩
end Go.Proofs.YtiehhlolhhjgpaaGreatDoor.Pl

namespace Go.Proofs.YtiehhlolhhjgpaaGreatDoor.Pl
open Go.RowKit

def frameC : Array Value := #[.int .u8 3, .string ⟨#[91]⟩, .string ⟨#[93]⟩, .int .u8 4, .string ⟨#[104, 40]⟩, .string ⟨#[41]⟩, .int .u8 5, .string ⟨#[109, 40]⟩, .string ⟨#[41]⟩, .int .u8 6, .string ⟨#[115, 40]⟩, .string ⟨#[41]⟩]
/-- The program's table of frames is laid. -/
def Frames (w : World) : Prop := 0 < w.heap.size ∧ ∀ j, j < 12 → w.cell? ⟨0, j, none⟩ = frameC[j]?
theorem Frames.below {w w' : World} (h : Frames w) (hb : Below w.heap.size w w') : Frames w' :=
  ⟨Nat.lt_of_lt_of_le h.1 hb.size, fun j hj => (hb.cell (p := ⟨0, j, none⟩) h.1).trans (h.2 j hj)⟩
theorem Frames.kept {w w' : World} {B : Nat} (h : Frames w) (hB : 0 < B) (hb : Below B w w') : Frames w' :=
  ⟨Nat.lt_of_lt_of_le h.1 hb.size, fun j hj => (hb.cell (p := ⟨0, j, none⟩) hB).trans (h.2 j hj)⟩
theorem Frames.cells {w : World} (h : Frames w) :
    (w.cell? ⟨0, 0, none⟩ = some (.int .u8 3) ∧ w.cell? ⟨0, 1, none⟩ = some (.string ⟨#[91]⟩) ∧ w.cell? ⟨0, 2, none⟩ = some (.string ⟨#[93]⟩)) ∧
    (w.cell? ⟨0, 3, none⟩ = some (.int .u8 4) ∧ w.cell? ⟨0, 4, none⟩ = some (.string ⟨#[104, 40]⟩) ∧ w.cell? ⟨0, 5, none⟩ = some (.string ⟨#[41]⟩)) ∧
    (w.cell? ⟨0, 6, none⟩ = some (.int .u8 5) ∧ w.cell? ⟨0, 7, none⟩ = some (.string ⟨#[109, 40]⟩) ∧ w.cell? ⟨0, 8, none⟩ = some (.string ⟨#[41]⟩)) ∧
    (w.cell? ⟨0, 9, none⟩ = some (.int .u8 6) ∧ w.cell? ⟨0, 10, none⟩ = some (.string ⟨#[115, 40]⟩) ∧ w.cell? ⟨0, 11, none⟩ = some (.string ⟨#[41]⟩)) :=
  ⟨⟨h.2 0 (by decide), h.2 1 (by decide), h.2 2 (by decide)⟩, ⟨h.2 3 (by decide), h.2 4 (by decide), h.2 5 (by decide)⟩, ⟨h.2 6 (by decide), h.2 7 (by decide), h.2 8 (by decide)⟩, ⟨h.2 9 (by decide), h.2 10 (by decide), h.2 11 (by decide)⟩⟩
/-- The line of a term that has parts, out of theirs. -/
def frameW (k : Nat) (l : List UInt8) : List UInt8 := if k = 3 then 91 :: (l ++ [93]) else if k = 4 then 104 :: 40 :: (l ++ [41]) else if k = 5 then 109 :: 40 :: (l ++ [41]) else 115 :: 40 :: (l ++ [41])
theorem frame_cat (a b : List UInt8) (l : List UInt8) (s : ByteArray) (hs : bl s = l) : (⟨a.toArray⟩ ++ s ++ ⟨b.toArray⟩ : ByteArray) = ⟨(a ++ (l ++ b)).toArray⟩ := by
  apply bl_inj
  rw [cat_bytes, cat_bytes, bl_mk a, bl_mk b, bl_mk (a ++ (l ++ b)), hs, List.append_assoc]
set_option maxHeartbeats 1000000 in
set_option maxRecDepth 100000 in
theorem framed7_any (k : Nat) (hk : k = 3 ∨ k = 4 ∨ k = 5 ∨ k = 6) (s : ByteArray) (hs : s.size ≤ 100000000) (w : World) (hF : Frames w) :
    Calls Tryz.prog 48 #[.int .u8 k, .string s] w fun e w' => e = .returned (.string ⟨(frameW k (bl s)).toArray⟩) ∧ Below w.heap.size w w' := by
  obtain ⟨⟨c0, c1, c2⟩, ⟨c3, c4, c5⟩, ⟨c6, c7, c8⟩, ⟨c9, c10, c11⟩⟩ := hF.cells
  clear hF
  rcases hk with rfl | rfl | rfl | rfl
  · have HZ := Lib.hid (frame_cat [91] [93] (bl s) s rfl)
    have h1 : (⟨#[91]⟩ : ByteArray).size + s.size ≤ 9223372036854775807 := by have : (⟨#[91]⟩ : ByteArray).size = 1 := rfl; omega
    have h2 : (⟨#[91]⟩ ++ s : ByteArray).size + (⟨#[93]⟩ : ByteArray).size ≤ 9223372036854775807 := by rw [ByteArray.size_append]; have : (⟨#[91]⟩ : ByteArray).size = 1 := rfl; have : (⟨#[93]⟩ : ByteArray).size = 1 := rfl; omega
    go_enter Tryz.func48, Tryz.ntmps48
    go_wp2_with fail
    refine wp_loop_rounds 5 ?_; repeat any_goals (rw [rounds_succ]; go_wp2_with fail)
    go_quiet (fail)
    go_wp2_with fail
    go_ret
    exact ⟨congrArg (fun x => Ending.returned (.string x)) HZ.out, below_drewN (Below.refl _ _) _⟩
  · have HZ := Lib.hid (frame_cat [104, 40] [41] (bl s) s rfl)
    have h1 : (⟨#[104, 40]⟩ : ByteArray).size + s.size ≤ 9223372036854775807 := by have : (⟨#[104, 40]⟩ : ByteArray).size = 2 := rfl; omega
    have h2 : (⟨#[104, 40]⟩ ++ s : ByteArray).size + (⟨#[41]⟩ : ByteArray).size ≤ 9223372036854775807 := by rw [ByteArray.size_append]; have : (⟨#[104, 40]⟩ : ByteArray).size = 2 := rfl; have : (⟨#[41]⟩ : ByteArray).size = 1 := rfl; omega
    go_enter Tryz.func48, Tryz.ntmps48
    go_wp2_with fail
    refine wp_loop_rounds 5 ?_; repeat any_goals (rw [rounds_succ]; go_wp2_with fail)
    go_quiet (fail)
    go_wp2_with fail
    go_ret
    exact ⟨congrArg (fun x => Ending.returned (.string x)) HZ.out, below_drewN (Below.refl _ _) _⟩
  · have HZ := Lib.hid (frame_cat [109, 40] [41] (bl s) s rfl)
    have h1 : (⟨#[109, 40]⟩ : ByteArray).size + s.size ≤ 9223372036854775807 := by have : (⟨#[109, 40]⟩ : ByteArray).size = 2 := rfl; omega
    have h2 : (⟨#[109, 40]⟩ ++ s : ByteArray).size + (⟨#[41]⟩ : ByteArray).size ≤ 9223372036854775807 := by rw [ByteArray.size_append]; have : (⟨#[109, 40]⟩ : ByteArray).size = 2 := rfl; have : (⟨#[41]⟩ : ByteArray).size = 1 := rfl; omega
    go_enter Tryz.func48, Tryz.ntmps48
    go_wp2_with fail
    refine wp_loop_rounds 5 ?_; repeat any_goals (rw [rounds_succ]; go_wp2_with fail)
    go_quiet (fail)
    go_wp2_with fail
    go_ret
    exact ⟨congrArg (fun x => Ending.returned (.string x)) HZ.out, below_drewN (Below.refl _ _) _⟩
  · have HZ := Lib.hid (frame_cat [115, 40] [41] (bl s) s rfl)
    have h1 : (⟨#[115, 40]⟩ : ByteArray).size + s.size ≤ 9223372036854775807 := by have : (⟨#[115, 40]⟩ : ByteArray).size = 2 := rfl; omega
    have h2 : (⟨#[115, 40]⟩ ++ s : ByteArray).size + (⟨#[41]⟩ : ByteArray).size ≤ 9223372036854775807 := by rw [ByteArray.size_append]; have : (⟨#[115, 40]⟩ : ByteArray).size = 2 := rfl; have : (⟨#[41]⟩ : ByteArray).size = 1 := rfl; omega
    go_enter Tryz.func48, Tryz.ntmps48
    go_wp2_with fail
    refine wp_loop_rounds 5 ?_; repeat any_goals (rw [rounds_succ]; go_wp2_with fail)
    go_quiet (fail)
    go_wp2_with fail
    go_ret
    exact ⟨congrArg (fun x => Ending.returned (.string x)) HZ.out, below_drewN (Below.refl _ _) _⟩
end Go.Proofs.YtiehhlolhhjgpaaGreatDoor.Pl

namespace Go.Proofs.YtiehhlolhhjgpaaGreatDoor.Pl
open Go.RowKit Go.Shelf
attribute [local go_sem] Oper.semAt_some

/-- Do the bytes of sub stand in t at a place? -/
def stB (sub t : ByteArray) (x : Pl6) : Bool := Lib.hasPrefix ((bl t).drop x.at_) (bl sub)
theorem offs_place {T : Tm} {y : Pl6 × Tm} (hy : y ∈ offT 0 1 T) : y.2 ∈ T.places := by
  rw [← offs_snd T 0 1]
  exact List.mem_map_of_mem hy
theorem st_at {t sub : ByteArray} {T F : Tm} (hT : T.valid) (eT : bl t = T.enc) (hF : F.valid) (eF : bl sub = F.enc) {y : Pl6 × Tm} (hy : y ∈ offT 0 1 T) : stB sub t y.1 = true ↔ y.2.enc = F.enc := by
  obtain ⟨r, hr⟩ := offs_at (bl t) T 0 1 [] (by rw [List.drop_zero, eT, List.append_nil]) y hy
  have hv := places_valid hT (offs_place hy)
  unfold stB Lib.hasPrefix
  rw [hr, eF, List.isPrefixOf_iff_prefix]
  constructor
  · rintro ⟨r', h⟩
    rw [(enc_front _ hF.1 _ hv.1 _ _ h).1]
  · rintro h
    rw [h]; exact ⟨r, rfl⟩
theorem has_vis {t sub : ByteArray} (ht : checkP (bl t) = 0) (hs : checkP (bl sub) = 0) : hasP (bl t) (bl sub) = true ↔ ∃ x ∈ (vis t).1, stB sub t x = true := by
  obtain ⟨T, tv, te, tr, hv⟩ := vis_term ht
  obtain ⟨F, fv, fe, fr⟩ := tree_of hs
  have h1 : hasP (bl t) (bl sub) = decide (bl sub ∈ T.places.map Tm.enc) := by unfold hasP placesP; rw [tr, fr]
  rw [h1, decide_eq_true_eq, hv, ← offs_snd T 0 1]
  simp only [List.mem_map]
  constructor
  · rintro ⟨u, ⟨y, hy, rfl⟩, e⟩
    exact ⟨y.1, ⟨y, hy, rfl⟩, (st_at tv te fv fe hy).2 (by rw [e, fe])⟩
  · rintro ⟨x, ⟨y, hy, rfl⟩, e⟩
    exact ⟨y.2, ⟨y, hy, rfl⟩, by rw [(st_at tv te fv fe hy).1 e, fe]⟩

/-- Two texts in a row of their own. -/
theorem are2_any (s u : ByteArray) (hs : s.size ≤ 281474976710656) (hu : u.size ≤ 281474976710656) (w : World) :
    Calls Tryz.prog 53 #[.slice (some ⟨w.heap.size, 0, none⟩) 2 2] (w.alloc (.cells #[.string s, .string u] 9)) fun e w' => e = .returned (.bool (checkP (bl s) == 0 && checkP (bl u) == 0)) ∧ Below w.heap.size w w' :=
  (are_any [s, u] (some ⟨w.heap.size, 0, none⟩) 2 (by simp) (fun x hx => by simp at hx; rcases hx with rfl | rfl <;> assumption) _ (row2 w s u) (checkP (bl s) == 0 && checkP (bl u) == 0) (by simp)).mono (fun e w' h => ⟨h.1, below_step ((Below.refl _ _).alloc (Nat.le_refl _) _) h.2⟩)

/-- What Has holds while it goes over the places: nothing has stood there. -/
def HasI (w : World) (t sub : ByteArray) (pre : List Pl6) (W : World) : Prop :=
  ((Boxed W w.heap.size 9 (.string t) ∧ Boxed W (w.heap.size + 1) 9 (.string sub)) ∧ Boxed W (w.heap.size + 1 + 1) 4 (.bool false)) ∧ Below w.heap.size w W ∧ ∀ x ∈ pre, stB sub t x = false
def HasX (w : World) (t sub : ByteArray) : Code → List Pl6 → World → Prop
  | .ret => fun pre W => Boxed W (w.heap.size + 1 + 1) 4 (.bool true) ∧ Below w.heap.size w W ∧ ∃ x ∈ pre, stB sub t x = true
  | _ => fun _ _ => False
theorem hasI_own (w : World) (t sub : ByteArray) (B : Nat) (h : w.heap.size ≤ B) : OwnFrom B (HasI w t sub) :=
  OwnFrom.and (OwnFrom.and (OwnFrom.and (Own.from (boxed_own _ _ _) _) (Own.from (boxed_own _ _ _) _)) (Own.from (boxed_own _ _ _) _)) (OwnFrom.and (ownFrom_below (Nat.le_refl _) h) (ownFrom_pure _ _))
theorem hasX_own (w : World) (t sub : ByteArray) (B : Nat) (h : w.heap.size ≤ B) (c : Code) : OwnFrom B (HasX w t sub c) := by
  cases c with
  | ret => exact OwnFrom.and (Own.from (boxed_own _ _ _) _) (OwnFrom.and (ownFrom_below (Nat.le_refl _) h) (ownFrom_pure _ _))
  | _ => exact fun _ _ _ _ hs _ _ => hs.elim

theorem keepsOthers_below {W W' : World} (h : Below W.heap.size W W') : KeepsOthers W W' :=
  KeepsOthers.of_grownBy (row := none) ⟨h.os, h.tape, h.output, h.size, fun k hk _ => h.block k hk⟩ (fun _ _ e => by cases e)
abbrev hasAct (t sub : ByteArray) (B Bp b : Nat) (x : Pl6) : Act :=
  { tmps := #[.string t, .string sub, .pointer (some ⟨B, 0, none⟩), .pointer (some ⟨B + 1, 0, none⟩), .pointer (some ⟨B + 1 + 1, 0, none⟩), .pointer (some ⟨b, 0, none⟩), .string t, .string sub, .slice (some ⟨B + 1 + 1 + 1, 0, none⟩) 2 2, .bool true, .bool false, .string t, .func (.func 86) #[] #[.pointer (some ⟨Bp, 0, none⟩)], encPl x, undef, undef, undef, undef], defers := [] }

end Go.Proofs.YtiehhlolhhjgpaaGreatDoor.Pl

namespace Go.Proofs.YtiehhlolhhjgpaaGreatDoor.Pl
open Go.RowKit

theorem sizeBuilder6 : (Tryz.prog.info? 92).map (·.size) = some 2 := by kernel_rfl
theorem liesBuilder6 : liesAt Tryz.prog Tryz.prog.depth 92 (2 / Tryz.prog.cellsOf 92) 0 92 1 = true := by kernel_rfl
theorem infoByte6 : (Tryz.prog.info? 5).map (fun i => (i.zero, i.size, i.bytes)) = some (some (.int .u8 0), 1, 1) := by kernel_rfl

set_option maxHeartbeats 1000000 in
set_option maxRecDepth 100000 in
theorem copyCheck6_used (b : Nat) (w : World) (h0 : w.cell? ⟨b, 0, none⟩ = some (.pointer (some ⟨b, 0, none⟩))) :
    Calls Tryz.prog 102 #[.pointer (some ⟨b, 0, none⟩)] w fun e w' => e = .returned (.tuple #[]) ∧ w' = w := by
  obtain ⟨j, hj, _⟩ := Option.map_eq_some_iff.1 sizeBuilder6
  go_enter Tryz.func102, Tryz.ntmps102
  go_wp2
  rw [Lib.run_neq_ptr_same w _ Tryz.underlying90 hj]
  go_wp2
  go_end0
  exact ⟨rfl, rfl⟩

set_option maxHeartbeats 1000000 in
set_option maxRecDepth 100000 in
theorem copyCheck6_fresh (b : Nat) (w : World) (h0 : w.cell? ⟨b, 0, none⟩ = some (.pointer none)) (hsh : w.shape? b = some (92, 2)) (hfz : w.frozen? ⟨b, 0, none⟩ = false) :
    Calls Tryz.prog 102 #[.pointer (some ⟨b, 0, none⟩)] w fun e w' => e = .returned (.tuple #[]) ∧ w' = w.setCell ⟨b, 0, none⟩ (.pointer (some ⟨b, 0, none⟩)) := by
  obtain ⟨j, hj, hjs⟩ := Option.map_eq_some_iff.1 sizeBuilder6
  go_enter Tryz.func102, Tryz.ntmps102
  go_wp2
  rw [Lib.run_to_unsafe w ⟨b, 0, none⟩ Tryz.underlying90 Tryz.underlying116 hj (by rw [hjs]; decide) hsh (Nat.zero_lt_succ 1)]
  simp only [Result.andThen]
  rw [Oper.upon_value]
  go_wp2
  rw [run_callFunc_extern Tryz.func117 (by kernel_rfl) (by kernel_rfl) (by kernel_rfl) (e := Extern.AbiNoEscape.same) (by kernel_rfl)]
  rw [Lib.run_noEscape]
  simp only [Result.andThen]
  rw [Oper.upon_value]
  go_wp2
  rw [Lib.run_from_unsafe w ⟨b, 0, none⟩ Tryz.underlying116 Tryz.underlying90 hj hsh liesBuilder6]
  simp only [Result.andThen]
  rw [Oper.upon_value]
  go_wp2
  go_end0
  exact ⟨rfl, rfl⟩

theorem copyCheck6_any (B b : Nat) (bs : List Value) (w : World) (h : Lib.IsBuilder 92 5 B b bs w) :
    Calls Tryz.prog 102 #[.pointer (some ⟨b, 0, none⟩)] w fun e w' => e = .returned (.tuple #[]) ∧ (Lib.BuilderAt 92 5 B b (.pointer (some ⟨b, 0, none⟩)) bs w' ∧ Below B w w' ∧ Lib.OthersKept 5 (some b) w w') := by
  rcases h with h | h
  · refine (copyCheck6_fresh b w h.cell0 h.shape h.frozen0).mono ?_
    rintro e w' ⟨rfl, rfl⟩
    exact ⟨rfl, h.used _, (Below.refl B w).setCell (p := ⟨b, 0, none⟩) h.1 _, (Lib.OthersKept.refl _ _ _).setCell ⟨b, 0, none⟩ rfl _⟩
  · refine (copyCheck6_used b w h.cell0).mono ?_
    rintro e w' ⟨rfl, rfl⟩
    exact ⟨rfl, h, Below.refl B _, Lib.OthersKept.refl _ _ _⟩

theorem ownsRow_kind6 {w : World} {B : Nat} {e : TypeId} {v : Value} {n : Nat} {xs : List Value} (h : w.ownsRow B e 1 v n xs) : ∀ g, v.ownBlock = some g → ∃ c fz, w.heap[g]? = some (.cells c e fz) :=
  Lib.ownsRowF_kind (World.ownsRowF_of h)

set_option maxHeartbeats 2000000 in
set_option maxRecDepth 100000 in
theorem writeString6_any (B b : Nat) (l : List UInt8) (s : ByteArray) (w : World) (h : Lib.IsBuilder 92 5 B b (Lib.byteCells l) w) (hlen : l.length + s.size ≤ 140737488355328) (hBw : B ≤ w.heap.size) :
    Calls Tryz.prog 80 #[.pointer (some ⟨b, 0, none⟩), .string s] w fun e w' => e = .returned (.tuple #[.int .i64 s.size, .nilIface]) ∧ (Lib.IsBuilder 92 5 B b (Lib.byteCells (l ++ bl s)) w' ∧ Below B w w' ∧ Lib.OthersKept 5 (some b) w w') := by
  obtain ⟨bs, hbs⟩ : ∃ bs, bs = Lib.byteCells l := ⟨_, rfl⟩
  have hbl : bs.length = l.length := by rw [hbs, Lib.byteCells_length]
  have happ : Lib.byteCells (l ++ bl s) = bs ++ Lib.strCells s := by rw [Lib.byteCells_append, hbs]; rfl
  rw [happ]
  rw [← hbs] at h
  rw [← hbl] at hlen
  clear hbs hbl happ
  obtain ⟨i0, hi, hz0, hz1, hz2⟩ := info_parts infoByte6
  go_enter Tryz.func80, Tryz.ntmps80
  go_wp2_with (go_at_call 102; refine (copyCheck6_any B b bs _ h).mono ?_)
  rintro e w1 ⟨rfl, h1, hb1, hk1⟩
  obtain ⟨hB, v, hbk, hown, hne⟩ := h1
  have c0 : w1.cell? ⟨b, 0, none⟩ = some (.pointer (some ⟨b, 0, none⟩)) := by rw [Lib.cell_of_heap hbk]; rfl
  have c1 : w1.cell? ⟨b, 1, none⟩ = some v := by rw [Lib.cell_of_heap hbk]; rfl
  go_wp2_with (at_builtin; refine Lib.wpList_append_own_string _ rfl _ _ 87 9 rfl B 5 i0 Tryz.underlying87 Tryz.underlying9 hi hz0 hz1 hz2 _ _ _ rfl hown s rfl ?c3 ?c4 ?c5 ?_)
  case c3 => unfold maxLen; omega
  case c4 => omega
  case c5 => have := hb1.size; omega
  intro v' w2 hown' hgrow _
  have hlt : b < w1.heap.size := by
    rcases Nat.lt_or_ge b w1.heap.size with h' | h'
    · exact h'
    · simp [Array.getElem?_eq_none h'] at hbk
  have hb2 : w2.heap[b]? = some (.cells #[.pointer (some ⟨b, 0, none⟩), v] 92 (0, 0)) := by
    rw [hgrow.block b hlt (fun e => hne e.symm)]
    exact hbk
  have d0 : w2.cell? ⟨b, 0, none⟩ = some (.pointer (some ⟨b, 0, none⟩)) := by rw [Lib.cell_of_heap hb2]; rfl
  have d1 : w2.cell? ⟨b, 1, none⟩ = some v := by rw [Lib.cell_of_heap hb2]; rfl
  have f1 : w2.frozen? ⟨b, 1, none⟩ = false := Lib.frozen_of_heap hb2 1
  obtain ⟨ao, n', cap, rfl⟩ : ∃ ao n' cap, v' = .slice ao n' cap := by
    rcases hown'.2 with ⟨hv, _⟩ | ⟨g, cap, cur, hv, _⟩
    · exact ⟨_, _, _, hv⟩
    · exact ⟨_, _, _, hv⟩
  go_wp2
  go_ret2
  refine ⟨rfl, .inr ?_, ?_, ((hk1.grown hgrow (ownsRow_kind6 hown))).setCell ⟨b, 1, none⟩ rfl _⟩
  · exact Lib.BuilderAt.put (T := 92) (e := 5) hB hb2 (bs' := bs ++ Lib.strCells s) (by simpa [Lib.strCells_length] using hown') (by decide)
  · exact (hb1.grown hgrow (by have := hb1.size; omega) (fun k hk => (hown.lt k hk).1)).setCell (p := ⟨b, 1, none⟩) hB _

/-- A builder stays one while whatever is no cells turns. -/
theorem builder_own {β : Type} (T e : TypeId) (B b : Nat) (bs : β → List Value) : Own (fun s W => Lib.IsBuilder T e B b (bs s) W) := by
  have one : ∀ (p : Value) (s : β) (X Y : World) (row : Option Nat), Lib.BuilderAt T e B b p (bs s) X → X.grownBy Y row → (∀ r, row = some r → ∃ o : Obj, X.heap[r]? = some o ∧ o.isCells = false) → Lib.BuilderAt T e B b p (bs s) Y := by
    rintro p s X Y row ⟨hB, v, hb, hown, hne⟩ hg hr
    refine ⟨hB, v, (hg.block b (Array.getElem?_eq_some_iff.1 hb).1 (fun e' => ?_)).trans hb, hown.kept hg ?_, hne⟩
    · obtain ⟨o, ho, hc⟩ := hr b e'.symm
      rw [hb] at ho; cases ho; cases hc
    · rcases hown.2 with ⟨rfl, _⟩ | ⟨g, cap, cur, rfl, _, hgb, _⟩
      · exact .inl rfl
      · refine .inr fun e' => ?_
        obtain ⟨o, ho, hc⟩ := hr g (by simpa [Value.ownBlock] using e'.symm)
        rw [hgb] at ho; cases ho; cases hc
  intro s X Y row h hg hr
  exact h.elim (fun x => .inl (one _ s X Y row x hg hr)) (fun x => .inr (one _ s X Y row x hg hr))
theorem builder_below {T e : TypeId} {B b : Nat} {bs : List Value} {W W' : World} (h : Lib.IsBuilder T e B b bs W) (b2 : Below W.heap.size W W') : Lib.IsBuilder T e B b bs W' :=
  builder_own T e B b (fun (_ : Unit) => bs) () W W' none h ⟨b2.os, b2.tape, b2.output, b2.size, fun k hk _ => b2.block k hk⟩ (fun r e => by cases e)
theorem builder_set {T e : TypeId} {B b : Nat} {bs : List Value} {W : World} (h : Lib.IsBuilder T e B b bs W) {k : Nat} {t : TypeId} {u : Value} (hk : Boxed W k t u) (hkb : k ≠ b) (hte : t ≠ e) (u' : Value) : Lib.IsBuilder T e B b bs (W.setCell ⟨k, 0, none⟩ u') := by
  have one : ∀ p, Lib.BuilderAt T e B b p bs W → Lib.BuilderAt T e B b p bs (W.setCell ⟨k, 0, none⟩ u') := by
    rintro p ⟨hB, v, hb, hown, hne⟩
    exact ⟨hB, v, (Below.heap_setCell W _ _ b (fun e' => hkb e'.symm)).trans hb, hown.kept (grownBy_setCell' W k u') (.inr (hk.not_row hte hown).symm), hne⟩
  exact h.elim (fun x => .inl (one _ x)) (fun x => .inr (one _ x))
theorem builder_lt {T e : TypeId} {B b : Nat} {bs : List Value} {W : World} (h : Lib.IsBuilder T e B b bs W) : b < W.heap.size := h.elim (fun x => x.lt) (fun x => x.lt)
/-- What a write leaves. -/
theorem kept_boxed {W W' : World} {b k : Nat} {t e : TypeId} {u : Value} (h : Lib.OthersKept e (some b) W W') (hk : Boxed W k t u) (hkb : k ≠ b) (hte : t ≠ e) : Boxed W' k t u :=
  h k _ hk (by simpa using hkb) (fun c fz e' => by cases e'; exact hte rfl)
theorem kept_others {W W' : World} {b : Nat} {e : TypeId} {bs : List Value} {T : TypeId} {B : Nat} (h : Lib.OthersKept e (some b) W W') (hb : Lib.IsBuilder T e B b bs W) (hs : W.heap.size ≤ W'.heap.size) : KeepsOthers W W' :=
  ⟨hs, fun k o hk ho => h k o hk (fun e' => by
    obtain rfl : k = b := by simpa using e'
    rcases hb with ⟨_, v, hv, _⟩ | ⟨_, v, hv, _⟩ <;> (rw [hv] at hk; cases hk; cases ho)) (fun c fz e' => by subst e'; cases ho)⟩
theorem kept_place {W W' : World} {b : Nat} {bs : List Value} {B : Nat} (h : Lib.OthersKept 5 (some b) W W') (hb : Lib.IsBuilder 92 5 B b bs W) (hs : W.heap.size ≤ W'.heap.size) : KeepP W W' :=
  ⟨hs, fun k cs hk => h k _ hk (fun e' => by
    obtain rfl : k = b := by simpa using e'
    rcases hb with ⟨_, v, hv, _⟩ | ⟨_, v, hv, _⟩ <;> (rw [hv] at hk; cases hk)) (fun c fz e' => by cases e')⟩
end Go.Proofs.YtiehhlolhhjgpaaGreatDoor.Pl

namespace Go.Proofs.YtiehhlolhhjgpaaGreatDoor.Pl
open Go.RowKit

set_option maxHeartbeats 2000000 in
set_option maxRecDepth 100000 in
theorem writeByte7_any (B b : Nat) (l : List UInt8) (c : UInt8) (w : World) (h : Lib.IsBuilder 92 5 B b (Lib.byteCells l) w) (hlen : l.length + 1 ≤ 140737488355328) (hBw : B ≤ w.heap.size) :
    Calls Tryz.prog 81 #[.pointer (some ⟨b, 0, none⟩), .int .u8 (c.toNat : Int)] w fun e w' => e = .returned .nilIface ∧ (Lib.IsBuilder 92 5 B b (Lib.byteCells (l ++ [c])) w' ∧ Below B w w' ∧ Lib.OthersKept 5 (some b) w w') := by
  obtain ⟨bs, hbs⟩ : ∃ bs, bs = Lib.byteCells l := ⟨_, rfl⟩
  have hbl : bs.length = l.length := by rw [hbs, Lib.byteCells_length]
  have happ : Lib.byteCells (l ++ [c]) = bs ++ [.int .u8 (c.toNat : Int)] := by rw [Lib.byteCells_append, hbs]; rfl
  rw [happ]
  rw [← hbs] at h
  rw [← hbl] at hlen
  clear hbs hbl happ
  obtain ⟨i0, hi, hz0, hz1, hz2⟩ := info_parts infoByte6
  obtain ⟨x, hx⟩ : ∃ x : Int, x = (c.toNat : Int) := ⟨_, rfl⟩
  rw [← hx]
  clear hx
  go_enter Tryz.func81, Tryz.ntmps81
  go_wp2_with (go_at_call 102; refine (copyCheck6_any B b bs _ h).mono ?_)
  rintro e w1 ⟨rfl, h1, hb1, hk1⟩
  obtain ⟨hB, v, hbk, hown, hne⟩ := h1
  have c0 : w1.cell? ⟨b, 0, none⟩ = some (.pointer (some ⟨b, 0, none⟩)) := by rw [Lib.cell_of_heap hbk]; rfl
  have c1 : w1.cell? ⟨b, 1, none⟩ = some v := by rw [Lib.cell_of_heap hbk]; rfl
  go_wp2_with (at_builtin; refine wpList_append_own _ rfl _ _ 87 rfl B 5 i0 (.int .u8 0) 1 1 Tryz.underlying87 hi hz0 hz1 hz2 rfl (by decide) _ _ _ rfl (hown.alloc _) ⟨w1.heap.size, 0, none⟩ 1 1 [.int .u8 x] rfl rfl ?c1 ?c2 ?c3 ?c4 ?c5 ?_)
  case c1 =>
    intro j u hj
    match j, hj with
    | 0, hj => simp at hj; subst hj; simp [Addr.add]
  case c2 => intro u hu; simp at hu; subst hu; rfl
  case c3 => unfold maxLen; omega
  case c4 => omega
  case c5 => have := hb1.size; simp; omega
  intro v' w2 hown' hgrow _
  have hlt : b < w1.heap.size := by
    rcases Nat.lt_or_ge b w1.heap.size with h' | h'
    · exact h'
    · simp [Array.getElem?_eq_none h'] at hbk
  have hb2 : w2.heap[b]? = some (.cells #[.pointer (some ⟨b, 0, none⟩), v] 92 (0, 0)) := by
    rw [hgrow.block b (by simp; omega) (fun e => hne e.symm), Lib.alloc_old w1 _ b hlt]
    exact hbk
  have d0 : w2.cell? ⟨b, 0, none⟩ = some (.pointer (some ⟨b, 0, none⟩)) := by rw [Lib.cell_of_heap hb2]; rfl
  have d1 : w2.cell? ⟨b, 1, none⟩ = some v := by rw [Lib.cell_of_heap hb2]; rfl
  have f1 : w2.frozen? ⟨b, 1, none⟩ = false := Lib.frozen_of_heap hb2 1
  obtain ⟨g, cap, rfl⟩ : ∃ g cap, v' = .slice (some ⟨g, 0, none⟩) (bs.length + 1) cap := by
    rcases hown'.2 with ⟨_, h0⟩ | ⟨g, cap, cur, hv, _⟩
    · omega
    · exact ⟨g, cap, hv⟩
  go_wp2
  go_ret
  have hk2 : Lib.OthersKept 5 (some b) w (w1.alloc (.cells #[.int .u8 x] 5)) := fun k o hk hne2 hno => (Lib.alloc_old w1 _ k (Array.getElem?_eq_some_iff.1 (hk1 k o hk hne2 hno)).1).trans (hk1 k o hk hne2 hno)
  refine ⟨rfl, .inr ?_, ?_, (hk2.grown hgrow (ownsRow_kind6 (hown.alloc _))).setCell ⟨b, 1, none⟩ rfl _⟩
  · exact Lib.BuilderAt.put (T := 92) (e := 5) hB hb2 (bs' := bs ++ [.int .u8 x]) (by simpa using hown') (by decide)
  · exact ((hb1.alloc (by have := hb1.size; omega) _).grown hgrow (by have := hb1.size; simp; omega) (fun k hk => (hown.lt k hk).1)).setCell (p := ⟨b, 1, none⟩) hB _
end Go.Proofs.YtiehhlolhhjgpaaGreatDoor.Pl

namespace Go.Proofs.YtiehhlolhhjgpaaGreatDoor.Pl
open Go.RowKit

theorem unhex_snoc : ∀ (k : Nat) (s : List UInt8), 2 * k + 1 < s.length → unhex (s.take (2 * (k + 1))) = unhex (s.take (2 * k)) ++ [(hexV (s.getD (2 * k) 0) * 16 + hexV (s.getD (2 * k + 1) 0)).toUInt8]
  | 0, [], h => by simp at h
  | 0, [a], h => by simp at h
  | 0, a :: b :: r, _ => by simp [unhex]
  | k + 1, [], h => by simp at h
  | k + 1, [a], h => by simp at h
  | k + 1, a :: b :: r, h => by
    have ih := unhex_snoc k r (by simp at h; omega)
    rw [show 2 * (k + 1 + 1) = 2 * (k + 1) + 1 + 1 by omega, List.take_succ_cons, List.take_succ_cons, unhex, ih]
    rw [show 2 * (k + 1) = 2 * k + 1 + 1 by omega, List.take_succ_cons, List.take_succ_cons, unhex]
    rfl
theorem all_snoc (p : UInt8 → Bool) : ∀ (k : Nat) (s : List UInt8), 2 * k + 1 < s.length → (s.take (2 * (k + 1))).all p = ((s.take (2 * k)).all p && (p (s.getD (2 * k) 0) && p (s.getD (2 * k + 1) 0)))
  | 0, [], h => by simp at h
  | 0, [a], h => by simp at h
  | 0, a :: b :: r, _ => by simp
  | k + 1, [], h => by simp at h
  | k + 1, [a], h => by simp at h
  | k + 1, a :: b :: r, h => by
    have ih := all_snoc p k r (by simp at h; omega)
    rw [show 2 * (k + 1 + 1) = 2 * (k + 1) + 1 + 1 by omega, List.take_succ_cons, List.take_succ_cons, List.all_cons, List.all_cons, ih]
    rw [show 2 * (k + 1) = 2 * k + 1 + 1 by omega, List.take_succ_cons, List.take_succ_cons, List.all_cons, List.all_cons]
    simp only [List.getD_cons_succ, Bool.and_assoc]
theorem or_hex : ∀ x : Nat, x < 16 → ∀ y : Nat, y < 16 → bits .or .u8 ((x : Int) * 16) (y : Int) = ((x * 16 + y : Nat) : Int) := by decide +kernel
theorem shl_hex (x : Nat) (h : x < 16) : IntKind.u8.wrap ((x : Int) * 16) = (x : Int) * 16 := by
  unfold IntKind.wrap
  simp [IntKind.bits, IntKind.signed]
  omega
theorem take_all_no {p : UInt8 → Bool} {s : List UInt8} (k : Nat) (h : (s.take k).all p = false) : s.all p = false := by
  cases e : s.all p with
  | false => rfl
  | true =>
    rw [List.all_eq_true] at e
    have : (s.take k).all p = true := List.all_eq_true.2 fun x hx => e x (List.mem_of_mem_take hx)
    rw [h] at this; cases this
/-- What bytesOf answers or throws. -/
def HexPost (s : List UInt8) (w : World) (e : Ending) (w' : World) : Prop := (if s.length % 2 = 0 ∧ s.all hexB = true then e = .returned (.string ⟨(unhex s).toArray⟩) else e = boom7) ∧ Below w.heap.size w w'
theorem HexPost.yes {s : List UInt8} {w w' : World} (h1 : s.length % 2 = 0) (h2 : s.all hexB = true) (h : Below w.heap.size w w') : HexPost s w (.returned (.string ⟨(unhex s).toArray⟩)) w' := ⟨by rw [if_pos ⟨h1, h2⟩], h⟩
theorem HexPost.no {s : List UInt8} {w w' : World} (h1 : ¬ (s.length % 2 = 0 ∧ s.all hexB = true)) (h : Below w.heap.size w w') : HexPost s w boom7 w' := ⟨by rw [if_neg h1], h⟩
set_option maxHeartbeats 2000000 in
set_option maxRecDepth 100000 in
theorem bytesof7_any (s : List UInt8) (hs : s.length ≤ 1000000000) (w : World) :
    Calls Tryz.prog 93 #[.string ⟨s.toArray⟩] w (HexPost s w) := by
  have hsz : (⟨s.toArray⟩ : ByteArray).size = s.length := size_lit s
  by_cases hev : s.length % 2 = 0
  · have hm : (s.length : Int) % 2 = 0 := by omega
    have HS := Lib.hid hs
    have HEV := Lib.hid hev
    clear hs
    go_enter Tryz.func93, Tryz.ntmps93
    go_wp2_with (go_at_call 39; refine (need7_ok _).mono ?_; rintro e w1 ⟨rfl, rfl⟩)
    clear hm hev
    have IW := Lib.hid (Lib.fresh_isBuilder 92 5 w1)
    have BW : Hid (Below w1.heap.size w1 (w1.alloc (.cells #[.pointer none, .slice none 0 0] 92))) := Lib.hid ((Below.refl _ w1).alloc (Nat.le_refl _) _)
    generalize w1.alloc (.cells #[.pointer none, .slice none 0 0] 92) = W0 at *
    go_loopw [4] (fun iv wr => ∃ k : Nat, iv = .int .i64 ((2 * k : Nat) : Int) ∧ 2 * k ≤ s.length ∧ Hid ((s.take (2 * k)).all hexB = true) ∧ Hid (Lib.IsBuilder 92 5 w1.heap.size w1.heap.size (Lib.byteCells (unhex (s.take (2 * k)))) wr) ∧ Hid (Below w1.heap.size w1 wr)) (fun iv _ => s.length - (intOf iv).toNat)
    case atStart => exact ⟨0, rfl, Nat.zero_le _, Lib.hid rfl, IW, BW⟩
    case round =>
      obtain ⟨k, rfl, hkn, hal, hI, hb⟩ := hrel
      by_cases hk : 2 * k < s.length
      · have hk' : ((2 * k : Nat) : Int) < (s.length : Int) := by omega
        have hk1 : 2 * k + 1 < s.length := by have := HEV.out; omega
        obtain ⟨a, ea⟩ : ∃ a : UInt8, a = s.getD (2 * k) 0 := ⟨_, rfl⟩
        obtain ⟨c, ec⟩ : ∃ c : UInt8, c = s.getD (2 * k + 1) 0 := ⟨_, rfl⟩
        have HUN := Lib.hid (unhex_snoc k s hk1)
        have HAS := Lib.hid (all_snoc hexB k s hk1)
        rw [← ea, ← ec] at HUN HAS
        have hix : ∀ V : World, (Instr.index 9 (.string ⟨s.toArray⟩) (.int .i64 ((2 * k : Nat) : Int))).run Tryz.prog V = .ok (.int .u8 (a.toNat : Int)) V := tstr_index ⟨s.toArray⟩ (2 * k) a (by rw [hsz]; exact hk) ea
        have hjx : ∀ V : World, (Instr.index 9 (.string ⟨s.toArray⟩) (.int .i64 (((2 * k : Nat) : Int) + 1))).run Tryz.prog V = .ok (.int .u8 (c.toNat : Int)) V := tstr_index ⟨s.toArray⟩ (2 * k + 1) c (by rw [hsz]; exact hk1) ec
        generalize hK2 : ((2 * k : Nat) : Int) = K2 at *
        have hadd : IntKind.i64.wrap (K2 + 1) = K2 + 1 := wrap_small _ (by omega) (by have := HS.out; omega)
        have DRW : Hid (Below w1.heap.size w1 wr.drew) := Lib.hid hb.out.drew
        have IDW : Hid (Lib.IsBuilder 92 5 w1.heap.size w1.heap.size (Lib.byteCells (unhex (s.take (2 * k)))) wr.drew) := Lib.hid (builder_below hI.out (Below.refl _ wr).drew)
        have HUL : Hid ((unhex (s.take (2 * k))).length + 1 ≤ 140737488355328) := Lib.hid (by
          have := unhex_len (s.take (2 * k)) (by rw [List.length_take]; omega)
          rw [List.length_take] at this
          have := HS.out
          omega)
        have HREL : Hid (∀ V, hexB a = true → hexB c = true → Lib.IsBuilder 92 5 w1.heap.size w1.heap.size (Lib.byteCells (unhex (s.take (2 * k)) ++ [(hexV a * 16 + hexV c).toUInt8])) V → Below w1.heap.size w1 V →
            ∃ j : Nat, Value.int .i64 (K2 + 2) = .int .i64 ((2 * j : Nat) : Int) ∧ 2 * j ≤ s.length ∧ Hid ((s.take (2 * j)).all hexB = true) ∧ Hid (Lib.IsBuilder 92 5 w1.heap.size w1.heap.size (Lib.byteCells (unhex (s.take (2 * j)))) V) ∧ Hid (Below w1.heap.size w1 V)) := Lib.hid (fun V ha hc hV hbV =>
          ⟨k + 1, by rw [← hK2]; congr 1, by omega, Lib.hid (by rw [HAS.out, hal.out, ha, hc]; rfl), Lib.hid (by rw [HUN.out]; exact hV), Lib.hid hbV⟩)
        have HNO : Hid ((hexB a && hexB c) = false → ∀ V, Below w1.heap.size w1 V → HexPost s w1 boom7 V) := Lib.hid (fun h1 V hbV => HexPost.no (fun h2 => by
          have h3 := HAS.out
          rw [h1, Bool.and_false] at h3
          have h4 := take_all_no _ h3
          rw [h2.2] at h4; cases h4) hbV)
        have HM : Hid (0 ≤ K2 ∧ K2 + 1 < s.length) := Lib.hid ⟨by omega, by omega⟩
        clear hI hb ea ec HUN HAS hkn hk hk1 hK2
        generalize unhex (s.take (2 * k)) = U at *
        obtain ⟨V0, hV0⟩ : ∃ U, U = World.drew wr := ⟨_, rfl⟩
        rw [← hV0] at DRW IDW
        have HV0 := Lib.hid hV0
        clear hV0
        go_wp2_with fail
        refine wp_region_any (by kernel_rfl) ?_
        change wpAny _ _ _ _ _ _ _ (World.drew wr)
        rw [← HV0.out]
        clear HV0
        refine wpAny_take (i := 0) (oi := { dst := some 16, op := Op.move (Operand.tmp 0), type := 9, pos := "show.go:264", after := #[], guard := none }) (v := .string ⟨s.toArray⟩) rfl (by kernel_rfl) (by kernel_rfl) (by kernel_rfl) (fun _ _ _ h => h) (Or.inl ⟨by rfl, fun w => by go_simp⟩) ?_
        (try simp only [Act.put, List.setIfInBounds_toArray, List.set_cons_zero, List.set_cons_succ])
        refine wpAny_take (i := 1) (oi := { dst := some 17, op := Op.move (Operand.tmp 4), type := 3, pos := "show.go:264", after := #[], guard := none }) (v := .int .i64 K2) rfl (by kernel_rfl) (by kernel_rfl) (by kernel_rfl) (fun _ _ _ h => h) (Or.inl ⟨by rfl, fun w => by go_simp⟩) ?_
        (try simp only [Act.put, List.setIfInBounds_toArray, List.set_cons_zero, List.set_cons_succ])
        refine wpAny_take (i := 2) (oi := { dst := some 18, op := Op.index 9 (Operand.tmp 16) (Operand.tmp 17), type := 5, pos := "show.go:264", after := #[{ on := 0, ground := Ground.data }, { on := 1, ground := Ground.data }], guard := none }) (v := .int .u8 (a.toNat : Int)) rfl (by kernel_rfl) (by kernel_rfl) (by kernel_rfl) (fun _ _ _ h => h) (Or.inl ⟨by rfl, fun w => by go_simp⟩) ?_
        (try simp only [Act.put, List.setIfInBounds_toArray, List.set_cons_zero, List.set_cons_succ])
        refine wpAny_take (i := 5) (oi := { dst := some 21, op := Op.move (Operand.tmp 0), type := 9, pos := "show.go:264", after := #[], guard := none }) (v := .string ⟨s.toArray⟩) rfl (by kernel_rfl) (by kernel_rfl) (by kernel_rfl) (fun _ _ _ h => h) (Or.inl ⟨by rfl, fun w => by go_simp⟩) ?_
        (try simp only [Act.put, List.setIfInBounds_toArray, List.set_cons_zero, List.set_cons_succ])
        refine wpAny_take (i := 6) (oi := { dst := some 22, op := Op.move (Operand.tmp 4), type := 3, pos := "show.go:264", after := #[], guard := none }) (v := .int .i64 K2) rfl (by kernel_rfl) (by kernel_rfl) (by kernel_rfl) (fun _ _ _ h => h) (Or.inl ⟨by rfl, fun w => by go_simp⟩) ?_
        (try simp only [Act.put, List.setIfInBounds_toArray, List.set_cons_zero, List.set_cons_succ])
        refine wpAny_take (i := 7) (oi := { dst := some 23, op := Op.binOp BinOp.add 3 (Operand.tmp 22) (Operand.const (Value.int IntKind.i64 1)) 3, type := 3, pos := "show.go:264", after := #[{ on := 6, ground := Ground.data }], guard := none }) (v := .int .i64 (K2 + 1)) rfl (by kernel_rfl) (by kernel_rfl) (by kernel_rfl) (fun _ _ _ h => h) (Or.inl ⟨by rfl, fun w => by go_simp⟩) ?_
        (try simp only [Act.put, List.setIfInBounds_toArray, List.set_cons_zero, List.set_cons_succ])
        refine wpAny_take (i := 8) (oi := { dst := some 24, op := Op.index 9 (Operand.tmp 21) (Operand.tmp 23), type := 5, pos := "show.go:264", after := #[{ on := 5, ground := Ground.data }, { on := 7, ground := Ground.data }], guard := none }) (v := .int .u8 (c.toNat : Int)) rfl (by kernel_rfl) (by kernel_rfl) (by kernel_rfl) (fun _ _ _ h => h) (Or.inl ⟨by rfl, fun w => by go_simp⟩) ?_
        (try simp only [Act.put, List.setIfInBounds_toArray, List.set_cons_zero, List.set_cons_succ])
        cases hha : hexB a with
        | false =>
          refine wpAny_ready (rs := [3]) (by kernel_rfl) (by simp) ?_
          refine AllReady.cons (o := { dst := some 19, op := Op.call { callee := Callee.value (Operand.func 113), args := #[Operand.tmp 18], argTypes := #[5] }, type := 5, pos := "show.go:264", after := #[{ on := 2, ground := Ground.data }], guard := none }) rfl (fun K hK => ?_) AllReady.nil
          rw [if_pos (by rfl)]
          go_simp
          refine (digit7_bad a hha V0).mono ?_
          rintro e w2 ⟨rfl, rfl⟩
          exact ⟨rfl, HNO.out (by rw [hha]; rfl) _ DRW.out⟩
        | true =>
          have hva := hexV_lt hha
          have hsh := shl_hex (hexV a) hva
          refine wpAny_ready (rs := [3]) (by kernel_rfl) (by simp) ?_
          refine AllReady.cons (o := { dst := some 19, op := Op.call { callee := Callee.value (Operand.func 113), args := #[Operand.tmp 18], argTypes := #[5] }, type := 5, pos := "show.go:264", after := #[{ on := 2, ground := Ground.data }], guard := none }) rfl (fun K hK => ?_) AllReady.nil
          rw [if_pos (by rfl)]
          go_simp
          refine (digit7_ok a hha V0).mono ?_
          rintro e w2 ⟨rfl, rfl⟩
          refine hK _ _ ?_
          clear hK K
          (try simp only [Act.put, List.setIfInBounds_toArray, List.set_cons_zero, List.set_cons_succ])
          refine wpAny_take (i := 4) (oi := { dst := some 20, op := Op.binOp BinOp.shl 5 (Operand.tmp 19) (Operand.const (Value.int IntKind.u64 4)) 88, type := 5, pos := "show.go:264", after := #[{ on := 3, ground := Ground.data }], guard := none }) (v := .int .u8 ((hexV a : Int) * 16)) rfl (by kernel_rfl) (by kernel_rfl) (by kernel_rfl) (fun _ _ _ h => h) (Or.inl ⟨by rfl, fun w => by go_simp⟩) ?_
          (try simp only [Act.put, List.setIfInBounds_toArray, List.set_cons_zero, List.set_cons_succ])
          cases hhc : hexB c with
          | false =>
            refine wpAny_ready (rs := [9]) (by kernel_rfl) (by simp) ?_
            refine AllReady.cons (o := { dst := some 25, op := Op.call { callee := Callee.value (Operand.func 113), args := #[Operand.tmp 24], argTypes := #[5] }, type := 5, pos := "show.go:264", after := #[{ on := 8, ground := Ground.data }, { on := 3, ground := Ground.chain }], guard := none }) rfl (fun K hK => ?_) AllReady.nil
            rw [if_pos (by rfl)]
            go_simp
            refine (digit7_bad c hhc _).mono ?_
            rintro e w3 ⟨rfl, rfl⟩
            exact ⟨rfl, HNO.out (by rw [hha, hhc]; rfl) _ DRW.out⟩
          | true =>
            have hvc := hexV_lt hhc
            have hor := or_hex (hexV a) hva (hexV c) hvc
            refine wpAny_ready (rs := [9]) (by kernel_rfl) (by simp) ?_
            refine AllReady.cons (o := { dst := some 25, op := Op.call { callee := Callee.value (Operand.func 113), args := #[Operand.tmp 24], argTypes := #[5] }, type := 5, pos := "show.go:264", after := #[{ on := 8, ground := Ground.data }, { on := 3, ground := Ground.chain }], guard := none }) rfl (fun K hK => ?_) AllReady.nil
            rw [if_pos (by rfl)]
            go_simp
            refine (digit7_ok c hhc _).mono ?_
            rintro e w3 ⟨rfl, rfl⟩
            refine hK _ _ ?_
            clear hK K
            (try simp only [Act.put, List.setIfInBounds_toArray, List.set_cons_zero, List.set_cons_succ])
            refine wpAny_take (i := 10) (oi := { dst := some 26, op := Op.binOp BinOp.or 5 (Operand.tmp 20) (Operand.tmp 25) 5, type := 5, pos := "show.go:264", after := #[{ on := 4, ground := Ground.data }, { on := 9, ground := Ground.data }], guard := none }) (v := .int .u8 ((hexV a * 16 + hexV c : Nat) : Int)) rfl (by kernel_rfl) (by kernel_rfl) (by kernel_rfl) (fun _ _ _ h => h) (Or.inl ⟨by rfl, fun w => by go_simp⟩) ?_
            (try simp only [Act.put, List.setIfInBounds_toArray, List.set_cons_zero, List.set_cons_succ])
            have hx8 : (((hexV a * 16 + hexV c).toUInt8.toNat : Nat) : Int) = ((hexV a * 16 + hexV c : Nat) : Int) := by rw [nat_u8 (by omega)]
            have WB := writeByte7_any w1.heap.size w1.heap.size U (hexV a * 16 + hexV c).toUInt8 _ IDW.out HUL.out DRW.out.size
            rw [hx8] at WB
            refine wpAny_ready (rs := [11]) (by kernel_rfl) (by simp) ?_
            refine AllReady.cons (o := { dst := some 27, op := Op.call { callee := Callee.value (Operand.func 81), args := #[Operand.tmp 3, Operand.tmp 26], argTypes := #[92, 5] }, type := 94, pos := "show.go:264", after := #[{ on := 10, ground := Ground.data }, { on := 9, ground := Ground.chain }], guard := none }) rfl (fun K hK => ?_) AllReady.nil
            rw [if_pos (by rfl)]
            go_simp
            refine WB.mono ?_
            rintro e w4 ⟨rfl, i4, b4, _⟩
            refine hK _ _ ?_
            clear hK K
            (try simp only [Act.put, List.setIfInBounds_toArray, List.set_cons_zero, List.set_cons_succ])
            refine wpAny_done (by kernel_rfl) ?_ _
            have I4 := Lib.hid i4
            have B4 := Lib.hid (DRW.out.trans b4)
            clear i4 b4 WB
            have k0 := HM.out.1
            have k1 : K2 ≤ 1000000000 := by have := HM.out.2; have := HS.out; omega
            go_wp2_with fail
            go_roundw
            case rel => exact HREL.out _ hha hhc I4.out B4.out
            case measure => simp [intOf]; have := HM.out; omega
      · have hk' : ¬ ((2 * k : Nat) : Int) < (s.length : Int) := by omega
        have hk2 : 2 * k = s.length := by omega
        have HX : Hid (s.take (2 * k) = s) := Lib.hid (List.take_of_length_le (by omega))
        rw [HX.out] at hal hI
        generalize hK2 : ((2 * k : Nat) : Int) = K2 at *
        clear HX hk hk2 hkn hK2
        have HGO : Hid (∀ V, Below w1.heap.size w1 V → HexPost s w1 (.returned (.string ⟨(unhex s).toArray⟩)) V) := Lib.hid (fun V h => HexPost.yes HEV.out hal.out h)
        generalize unhex s = U at *
        go_wp2_with fail
        refine (Tryz.Builder_String_any_k w1.heap.size w1.heap.size U wr (Lib.IsBuilderF.of hI.out) hb.out.size).mono ?_
        rintro e w3 ⟨rfl, _, b3, _⟩
        have B3 := Lib.hid (hb.out.trans b3)
        clear b3
        go_wp2_with fail
        go_ret
        exact HGO.out _ B3.out
  · have hm : (s.length : Int) % 2 = 1 := by omega
    have HZ := Lib.hid hev
    clear hs hev
    go_enter Tryz.func93, Tryz.ntmps93
    go_wp2_with fail
    refine (need7_bad _).mono ?_
    rintro e w1 ⟨rfl, rfl⟩
    exact ⟨rfl, HexPost.no (fun h => HZ.out h.1) (Below.refl _ _)⟩
end Go.Proofs.YtiehhlolhhjgpaaGreatDoor.Pl

namespace Go.Proofs.YtiehhlolhhjgpaaGreatDoor.Pl
open Go.RowKit

set_option maxHeartbeats 1000000 in
set_option maxRecDepth 100000 in
theorem rplainc_any (c : Int) (w : World) :
    Calls Tryz.prog 35 #[.int .i32 c] w fun e w' => e = .returned (.bool (plainC c)) ∧ w = w' := by
  have hcs : c < 32 ∨ (32 ≤ c ∧ c < 34) ∨ c = 34 ∨ (34 < c ∧ c ≤ 126) ∨ (126 < c ∧ c < 161) ∨ (161 ≤ c ∧ c ≤ 687) ∨ (687 < c ∧ c < 880) ∨ (880 ≤ c ∧ c ≤ 1279) ∨ 1279 < c := by omega
  obtain ⟨z, hz⟩ : ∃ z, z = plainC c := ⟨_, rfl⟩
  rw [← hz]
  unfold plainC at hz
  rcases hcs with h | ⟨h, h'⟩ | h | ⟨h, h'⟩ | ⟨h, h'⟩ | ⟨h, h'⟩ | ⟨h, h'⟩ | ⟨h, h'⟩ | h
  · obtain rfl : z = false := hz.trans (decide_eq_false (by omega))
    have q1 : decide (32 ≤ c) = false := decide_eq_false (by omega)
    have q2 : decide (161 ≤ c) = false := decide_eq_false (by omega)
    have q3 : decide (880 ≤ c) = false := decide_eq_false (by omega)
    clear hz
    go_enter Tryz.func35, Tryz.ntmps35
    go_wp2_with fail
    go_ret
    exact ⟨rfl, rfl⟩
  · obtain rfl : z = true := hz.trans (decide_eq_true (by omega))
    have q1 : decide (32 ≤ c) = true := decide_eq_true (by omega)
    have q2 : decide (c ≤ 126) = true := decide_eq_true (by omega)
    have q3 : (c != 34) = true := by rw [bne_iff_ne]; omega
    clear hz
    go_enter Tryz.func35, Tryz.ntmps35
    go_wp2_with fail
    go_ret
    exact ⟨rfl, rfl⟩
  · subst h
    obtain rfl : z = false := hz.trans (by decide)
    clear hz
    go_enter Tryz.func35, Tryz.ntmps35
    go_wp2_with fail
    go_ret
    exact ⟨rfl, rfl⟩
  · obtain rfl : z = true := hz.trans (decide_eq_true (by omega))
    have q1 : decide (32 ≤ c) = true := decide_eq_true (by omega)
    have q2 : decide (c ≤ 126) = true := decide_eq_true (by omega)
    have q3 : (c != 34) = true := by rw [bne_iff_ne]; omega
    clear hz
    go_enter Tryz.func35, Tryz.ntmps35
    go_wp2_with fail
    go_ret
    exact ⟨rfl, rfl⟩
  · obtain rfl : z = false := hz.trans (decide_eq_false (by omega))
    have q1 : decide (32 ≤ c) = true := decide_eq_true (by omega)
    have q2 : decide (c ≤ 126) = false := decide_eq_false (by omega)
    have q3 : decide (161 ≤ c) = false := decide_eq_false (by omega)
    have q4 : decide (880 ≤ c) = false := decide_eq_false (by omega)
    clear hz
    go_enter Tryz.func35, Tryz.ntmps35
    go_wp2_with fail
    go_ret
    exact ⟨rfl, rfl⟩
  · obtain rfl : z = true := hz.trans (decide_eq_true (by omega))
    have q1 : decide (32 ≤ c) = true := decide_eq_true (by omega)
    have q2 : decide (c ≤ 126) = false := decide_eq_false (by omega)
    have q3 : decide (161 ≤ c) = true := decide_eq_true (by omega)
    have q4 : decide (c ≤ 687) = true := decide_eq_true (by omega)
    clear hz
    go_enter Tryz.func35, Tryz.ntmps35
    go_wp2_with fail
    go_ret
    exact ⟨rfl, rfl⟩
  · obtain rfl : z = false := hz.trans (decide_eq_false (by omega))
    have q1 : decide (32 ≤ c) = true := decide_eq_true (by omega)
    have q2 : decide (c ≤ 126) = false := decide_eq_false (by omega)
    have q3 : decide (161 ≤ c) = true := decide_eq_true (by omega)
    have q4 : decide (c ≤ 687) = false := decide_eq_false (by omega)
    have q5 : decide (880 ≤ c) = false := decide_eq_false (by omega)
    clear hz
    go_enter Tryz.func35, Tryz.ntmps35
    go_wp2_with fail
    go_ret
    exact ⟨rfl, rfl⟩
  · obtain rfl : z = true := hz.trans (decide_eq_true (by omega))
    have q1 : decide (32 ≤ c) = true := decide_eq_true (by omega)
    have q2 : decide (c ≤ 126) = false := decide_eq_false (by omega)
    have q3 : decide (161 ≤ c) = true := decide_eq_true (by omega)
    have q4 : decide (c ≤ 687) = false := decide_eq_false (by omega)
    have q5 : decide (880 ≤ c) = true := decide_eq_true (by omega)
    have q6 : decide (c ≤ 1279) = true := decide_eq_true (by omega)
    clear hz
    go_enter Tryz.func35, Tryz.ntmps35
    go_wp2_with fail
    go_ret
    exact ⟨rfl, rfl⟩
  · obtain rfl : z = false := hz.trans (decide_eq_false (by omega))
    have q1 : decide (32 ≤ c) = true := decide_eq_true (by omega)
    have q2 : decide (c ≤ 126) = false := decide_eq_false (by omega)
    have q3 : decide (161 ≤ c) = true := decide_eq_true (by omega)
    have q4 : decide (c ≤ 687) = false := decide_eq_false (by omega)
    have q5 : decide (880 ≤ c) = true := decide_eq_true (by omega)
    have q6 : decide (c ≤ 1279) = false := decide_eq_false (by omega)
    clear hz
    go_enter Tryz.func35, Tryz.ntmps35
    go_wp2_with fail
    go_ret
    exact ⟨rfl, rfl⟩

set_option maxHeartbeats 2000000 in
set_option maxRecDepth 100000 in
theorem rplain_any (s : ByteArray) (w : World) :
    Calls Tryz.prog 15 #[.string s] w fun e w' => e = .returned (.bool (plainB (bl s))) ∧ Below w.heap.size w w' := by
  obtain ⟨z, hz⟩ : ∃ z, z = plainB (bl s) := ⟨_, rfl⟩
  rw [← hz]
  have HZ : Hid (z = (runes s).all plainC) := Lib.hid (by rw [hz]; unfold plainB; rw [rn_bl])
  clear hz
  go_enter Tryz.func15, Tryz.ntmps15
  go_wp2_with fail
  go_loopw [] (fun wr => ∃ pos fuel : Nat, Hid (wr.heap[w.heap.size]? = some (.stringIter s pos)) ∧ Hid (Below w.heap.size w wr) ∧ Hid (z = (runesF s fuel pos).all plainC) ∧ Hid (s.size ≤ pos + fuel)) (fun wr => s.size - wr.iterPos w.heap.size)
  case atStart =>
    exact ⟨0, s.size, Lib.hid (World.iter_heap w s 0), Lib.hid ((Below.refl _ w).alloc (Nat.le_refl _) _), HZ, Lib.hid (by omega)⟩
  case round =>
    obtain ⟨pos, fuel, hit, hb, hacc, hfu⟩ := hrel
    by_cases hp : pos < s.size
    · have hwd := Lib.hid (width_pos s pos hp)
      have hit2 := Lib.hid (Lib.iterAt_heap wr w.heap.size s pos (pos + (Utf8.decode s pos).2) hit.out)
      have hb2 := Lib.hid (Lib.below_iterAt hb.out (k := w.heap.size) (Nat.le_refl _) s (pos + (Utf8.decode s pos).2))
      have hnx : ∀ ty, (Instr.next (.pointer (some ⟨w.heap.size, 0, none⟩)) true ty).run Tryz.prog wr = _ := fun ty => Lib.run_next_any_at wr w.heap.size s pos ty hit.out hp
      generalize wr.iterAt w.heap.size s (pos + (Utf8.decode s pos).2) = W1 at *
      have HC := Lib.hid (fun V => rplainc_any ((Utf8.decode s pos).1 : Int) V)
      have hf1 : fuel = (fuel - 1) + 1 := by have := hfu.out; omega
      have HST : Hid (z = (plainC ((Utf8.decode s pos).1 : Int) && (runesF s (fuel - 1) (pos + (Utf8.decode s pos).2)).all plainC)) := Lib.hid (by
        rw [hacc.out, hf1, runesF_step s (fuel - 1) pos hp, List.all_cons]; rfl)
      have HF2 : Hid (s.size ≤ pos + (Utf8.decode s pos).2 + (fuel - 1)) := Lib.hid (by have := hfu.out; have := hwd.out; omega)
      obtain ⟨n, hn⟩ : ∃ n, n = (Utf8.decode s pos).1 := ⟨_, rfl⟩
      obtain ⟨dw, hdw⟩ : ∃ dw, dw = (Utf8.decode s pos).2 := ⟨_, rfl⟩
      rw [← hn, ← hdw] at HST
      rw [← hdw] at HF2 hit2 hwd
      rw [← hn] at hnx HC
      clear hn hdw hf1
      cases hpc : plainC (n : Int) with
      | true =>
        rw [hpc] at HC HST
        have HST2 : Hid (z = (runesF s (fuel - 1) (pos + dw)).all plainC) := Lib.hid (HST.out.trans (Bool.true_and _))
        clear hpc
        go_wp2_with (go_at_call 35; refine (HC.out _).mono ?_; rintro e w2 ⟨rfl, rfl⟩)
        go_roundw
        case rel => exact ⟨pos + dw, fuel - 1, hit2, hb2, HST2, HF2⟩
        case measure => simp only [World.iterPos, hit2.out, hit.out]; have := hwd.out; omega
      | false =>
        rw [hpc] at HC HST
        have HST2 : Hid (z = false) := Lib.hid (HST.out.trans (Bool.false_and _))
        clear hpc
        go_wp2_with (go_at_call 35; refine (HC.out _).mono ?_; rintro e w2 ⟨rfl, rfl⟩)
        go_ret
        exact ⟨ret6_bool HST2.out.symm, hb2.out⟩
    · have hnx : ∀ ty, (Instr.next (.pointer (some ⟨w.heap.size, 0, none⟩)) true ty).run Tryz.prog wr = _ := fun ty => Lib.run_next_end_at wr w.heap.size s pos ty hit.out hp
      have HQ : Hid (z = true) := Lib.hid (by rw [hacc.out, runesF_end s fuel pos hp]; rfl)
      clear hp
      go_wp2_with fail
      go_ret
      exact ⟨ret6_bool HQ.out.symm, hb.out⟩

set_option maxHeartbeats 2000000 in
set_option maxRecDepth 100000 in
theorem rwidth_any (s : ByteArray) (hs : s.size ≤ 281474976710656) (w : World) :
    Calls Tryz.prog 17 #[.string s] w fun e w' => e = .returned (.int .i64 (rn (bl s)).length) ∧ Below w.heap.size w w' := by
  obtain ⟨z, hz⟩ : ∃ z, z = (rn (bl s)).length := ⟨_, rfl⟩
  rw [← hz]
  have HZ : Hid (z = (runes s).length) := Lib.hid (by rw [hz, rn_bl])
  have hzl : z ≤ 281474976710656 := by rw [HZ.out]; exact Nat.le_trans (runes_length s) hs
  clear hz
  go_enter Tryz.func17, Tryz.ntmps17
  go_wp2_with fail
  go_loopw [3] (fun v wr => ∃ pos fuel acc : Nat, v = .int .i64 acc ∧ acc ≤ 281474976710656 ∧ Hid (wr.heap[w.heap.size]? = some (.stringIter s pos)) ∧ Hid (Below w.heap.size w wr) ∧ Hid (z = acc + (runesF s fuel pos).length) ∧ Hid (s.size ≤ pos + fuel)) (fun _ wr => s.size - wr.iterPos w.heap.size)
  case atStart =>
    exact ⟨0, s.size, 0, rfl, by decide, Lib.hid (World.iter_heap w s 0), Lib.hid ((Below.refl _ w).alloc (Nat.le_refl _) _), Lib.hid (by rw [Nat.zero_add]; exact HZ.out), Lib.hid (by omega)⟩
  case round =>
    obtain ⟨pos, fuel, acc, rfl, hal, hit, hb, hacc, hfu⟩ := hrel
    by_cases hp : pos < s.size
    · have hwd := Lib.hid (width_pos s pos hp)
      have hit2 := Lib.hid (Lib.iterAt_heap wr w.heap.size s pos (pos + (Utf8.decode s pos).2) hit.out)
      have hb2 := Lib.hid (Lib.below_iterAt hb.out (k := w.heap.size) (Nat.le_refl _) s (pos + (Utf8.decode s pos).2))
      have hnx : ∀ ty, (Instr.next (.pointer (some ⟨w.heap.size, 0, none⟩)) true ty).run Tryz.prog wr = _ := fun ty => Lib.run_next_any_at wr w.heap.size s pos ty hit.out hp
      generalize wr.iterAt w.heap.size s (pos + (Utf8.decode s pos).2) = W1 at *
      have hf1 : fuel = (fuel - 1) + 1 := by have := hfu.out; omega
      have HST : Hid (z = acc + 1 + (runesF s (fuel - 1) (pos + (Utf8.decode s pos).2)).length) := Lib.hid (by
        rw [hacc.out, hf1, runesF_step s (fuel - 1) pos hp, List.length_cons, Nat.add_sub_cancel]; omega)
      have HF2 : Hid (s.size ≤ pos + (Utf8.decode s pos).2 + (fuel - 1)) := Lib.hid (by have := hfu.out; have := hwd.out; omega)
      have HA2 : Hid (acc + 1 ≤ 281474976710656) := Lib.hid (by have := HST.out; omega)
      clear hf1
      go_wp2_with fail
      go_roundw
      case rel => exact ⟨pos + (Utf8.decode s pos).2, fuel - 1, acc + 1, by go_num, HA2.out, hit2, hb2, HST, HF2⟩
      case measure => simp only [World.iterPos, hit2.out, hit.out]; have := hwd.out; omega
    · have hnx : ∀ ty, (Instr.next (.pointer (some ⟨w.heap.size, 0, none⟩)) true ty).run Tryz.prog wr = _ := fun ty => Lib.run_next_end_at wr w.heap.size s pos ty hit.out hp
      have HQ : Hid (z = acc) := Lib.hid (by rw [hacc.out, runesF_end s fuel pos hp]; rfl)
      clear hp
      go_wp2_with fail
      go_ret
      exact ⟨by rw [HQ.out]; rfl, hb.out⟩
end Go.Proofs.YtiehhlolhhjgpaaGreatDoor.Pl

namespace Go.Proofs.YtiehhlolhhjgpaaGreatDoor.Pl
open Go.RowKit

def hexDigits : ByteArray := ⟨#[48, 49, 50, 51, 52, 53, 54, 55, 56, 57, 97, 98, 99, 100, 101, 102]⟩
theorem hexd_index (x : Nat) (h : x < 16) (V : World) : (Instr.index 9 (.string ⟨#[48, 49, 50, 51, 52, 53, 54, 55, 56, 57, 97, 98, 99, 100, 101, 102]⟩) (.int .u8 (x : Int))).run Tryz.prog V = .ok (.int .u8 ((hexD x).toNat : Int)) V := by
  obtain rfl | rfl | rfl | rfl | rfl | rfl | rfl | rfl | rfl | rfl | rfl | rfl | rfl | rfl | rfl | rfl : x = 0 ∨ x = 1 ∨ x = 2 ∨ x = 3 ∨ x = 4 ∨ x = 5 ∨ x = 6 ∨ x = 7 ∨ x = 8 ∨ x = 9 ∨ x = 10 ∨ x = 11 ∨ x = 12 ∨ x = 13 ∨ x = 14 ∨ x = 15 := by omega
  all_goals kernel_rfl
/-- string([]byte{a, b}). -/
theorem convert2 (a b : UInt8) (V : World) : (convert 87 9 (.slice (some ⟨V.heap.size, 0, none⟩) 2 2)).run Tryz.prog ((V.alloc (.cells #[.int .u8 (a.toNat : Int), .int .u8 (b.toNat : Int)] 5)).drew) = .ok (.string ⟨#[a, b]⟩) ((V.alloc (.cells #[.int .u8 (a.toNat : Int), .int .u8 (b.toNat : Int)] 5)).drew) :=
  run_convert_bytes_back (P := Tryz.prog) _ 87 9 5 ⟨V.heap.size, 0, none⟩ 2 [a, b] Tryz.underlying87 Tryz.underlying5 Tryz.underlying9 (fun j hj => by
    have h : ∀ k, (World.drew (V.alloc (.cells #[.int .u8 (a.toNat : Int), .int .u8 (b.toNat : Int)] 5))).cell? ⟨V.heap.size, k, none⟩ = (V.alloc (.cells #[.int .u8 (a.toNat : Int), .int .u8 (b.toNat : Int)] 5)).cell? ⟨V.heap.size, k, none⟩ := fun _ => rfl
    match j, hj with
    | 0, _ => rw [show (⟨V.heap.size, 0, none⟩ : Addr).add 0 = ⟨V.heap.size, 0, none⟩ from rfl, h]; simp
    | 1, _ => rw [show (⟨V.heap.size, 0, none⟩ : Addr).add 1 = ⟨V.heap.size, 1, none⟩ from rfl, h]; simp)
theorem hex_next (s : ByteArray) (k : Nat) (h : k < s.size) (b : UInt8) (hb : b = (bl s).getD k 0) : hexL ((bl s).take (k + 1)) = hexL ((bl s).take k) ++ [hexD (b.toNat / 16), hexD (b.toNat % 16)] := by
  rw [List.take_succ_eq_append_getElem (by rw [bl_length]; exact h)]
  have e : (bl s)[k]'(by rw [bl_length]; exact h) = b := by rw [hb, List.getD_eq_getElem?_getD, List.getElem?_eq_getElem (by rw [bl_length]; exact h)]; rfl
  rw [e]
  simp [hexL]
theorem cat_hex (s : ByteArray) (k : Nat) (h : k < s.size) (b : UInt8) (hb : b = (bl s).getD k 0) : (⟨(120 :: hexL ((bl s).take k)).toArray⟩ : ByteArray) ++ ⟨#[hexD (b.toNat / 16), hexD (b.toNat % 16)]⟩ = ⟨(120 :: hexL ((bl s).take (k + 1))).toArray⟩ := by
  have e := hex_next s k h b hb
  generalize bl s = X at e ⊢
  apply bl_inj
  rw [cat_bytes, bl_mk (120 :: hexL (X.take k)), bl_mk (120 :: hexL (X.take (k + 1))), e]; rfl
set_option maxHeartbeats 2000000 in
set_option maxRecDepth 100000 in
theorem rdatum_any (s : ByteArray) (hs : s.size ≤ 1000000) (w : World) :
    Calls Tryz.prog 51 #[.string s] w fun e w' => e = .returned (.string ⟨(datumL (bl s)).toArray⟩) ∧ Below w.heap.size w w' := by
  have HP := fun V => rplain_any s V
  obtain ⟨z, hz⟩ : ∃ z, z = datumL (bl s) := ⟨_, rfl⟩
  rw [← hz]
  unfold datumL at hz
  cases hp : plainB (bl s) with
  | true =>
    rw [hp] at HP hz
    rw [if_pos rfl] at hz
    have HP := Lib.hid HP
    have HZ : Hid ((⟨z.toArray⟩ : ByteArray) = (⟨#[34]⟩ ++ s) ++ ⟨#[34]⟩) := Lib.hid (by
      apply bl_inj; rw [bl_mk, cat_bytes, cat_bytes, hz]; rfl)
    have h1 : (⟨#[34]⟩ : ByteArray).size + s.size ≤ 9223372036854775807 := by have : (⟨#[34]⟩ : ByteArray).size = 1 := rfl; omega
    have h2 : (⟨#[34]⟩ ++ s : ByteArray).size + (⟨#[34]⟩ : ByteArray).size ≤ 9223372036854775807 := by rw [ByteArray.size_append]; have : (⟨#[34]⟩ : ByteArray).size = 1 := rfl; omega
    rw [HZ.out]
    clear hz hp
    go_enter Tryz.func51, Tryz.ntmps51
    go_wp2_with (go_at_call 15; refine (HP.out _).mono ?_; rintro e w1 ⟨rfl, b1⟩)
    go_ret
    exact ⟨rfl, b1⟩
  | false =>
    rw [hp] at HP hz
    rw [if_neg (by decide)] at hz
    have HP := Lib.hid HP
    have HZ := Lib.hid hz
    have HS := Lib.hid hs
    clear hz hp
    go_enter Tryz.func51, Tryz.ntmps51
    go_wp2_with (go_at_call 15; refine (HP.out _).mono ?_; rintro e w1 ⟨rfl, b1⟩)
    go_loopw [3, 4] (fun tv iv wr => ∃ k : Nat, tv = .string ⟨(120 :: hexL ((bl s).take k)).toArray⟩ ∧ iv = .int .i64 k ∧ k ≤ s.size ∧ Hid (Below w.heap.size w wr)) (fun _ iv _ => s.size - (intOf iv).toNat)
    case atStart => exact ⟨0, rfl, rfl, Nat.zero_le _, Lib.hid b1⟩
    case round =>
      obtain ⟨k, rfl, rfl, hkn, hb⟩ := hrel
      by_cases hk : k < s.size
      · have hk' : (k : Int) < (s.size : Int) := by omega
        have hk0 : (0 : Int) ≤ (k : Int) := by omega
        obtain ⟨b, eb⟩ : ∃ b : UInt8, b = (bl s).getD k 0 := ⟨_, rfl⟩
        have hb256 := b.toNat_lt
        have hix : ∀ V : World, (Instr.index 9 (.string s) (.int .i64 (k : Int))).run Tryz.prog V = .ok (.int .u8 (b.toNat : Int)) V := tstr_index s k b hk eb
        obtain ⟨x, ex⟩ : ∃ x : Nat, x = b.toNat / 16 := ⟨_, rfl⟩
        obtain ⟨y, ey⟩ : ∃ y : Nat, y = b.toNat % 16 := ⟨_, rfl⟩
        have hx1 := hexd_index x (by omega)
        have hx2 := hexd_index y (by omega)
        have d1 : Int.tdiv (b.toNat : Int) 16 = (x : Int) := by rw [Int.tdiv_eq_ediv_of_nonneg (by omega)]; omega
        have d2 : (b.toNat : Int) / 16 = (x : Int) := by omega
        have d3 : Int.tmod (b.toNat : Int) 16 = (y : Int) := by rw [Int.tmod_eq_emod_of_nonneg (by omega)]; omega
        have d4 : (b.toNat : Int) % 16 = (y : Int) := by omega
        have d5 : IntKind.u8.wrap (x : Int) = (x : Int) := by rw [IntKind.wrap_u8']; omega
        have hcv := convert2 (hexD x) (hexD y) wr
        have HN := Lib.hid (cat_hex s k hk b eb)
        rw [← ex, ← ey] at HN
        have hsz : (⟨(120 :: hexL ((bl s).take k)).toArray⟩ : ByteArray).size ≤ 9223372036854775805 := by
          rw [size_lit, List.length_cons, hexL_len, List.length_take]; omega
        have HKN : Hid (k + 1 ≤ s.size) := Lib.hid (by omega)
        generalize (⟨(120 :: hexL ((bl s).take k)).toArray⟩ : ByteArray) = tb at *
        clear ex ey eb hb256
        go_wp2_with fail
        refine wp_region_any (by kernel_rfl) ?_
        change wpAny _ _ _ _ _ _ _ (World.drew wr)
        --BEGIN
        refine wpAny_take (i := 0) (oi := { dst := some 16, op := Op.move (Operand.tmp 3), type := 9, pos := "ref.go:42", after := #[], guard := none }) (v := .string tb) rfl (by kernel_rfl) (by kernel_rfl) (by kernel_rfl) (fun _ _ _ h => h) (Or.inl ⟨by rfl, fun w => by go_simp⟩) ?_
        (try simp only [Act.put, List.setIfInBounds_toArray, List.set_cons_zero, List.set_cons_succ])
        refine wpAny_take (i := 1) (oi := { dst := some 17, op := Op.move (Operand.tmp 0), type := 9, pos := "ref.go:42", after := #[], guard := none }) (v := .string s) rfl (by kernel_rfl) (by kernel_rfl) (by kernel_rfl) (fun _ _ _ h => h) (Or.inl ⟨by rfl, fun w => by go_simp⟩) ?_
        (try simp only [Act.put, List.setIfInBounds_toArray, List.set_cons_zero, List.set_cons_succ])
        refine wpAny_take (i := 2) (oi := { dst := some 18, op := Op.move (Operand.tmp 4), type := 3, pos := "ref.go:42", after := #[], guard := none }) (v := .int .i64 (k : Int)) rfl (by kernel_rfl) (by kernel_rfl) (by kernel_rfl) (fun _ _ _ h => h) (Or.inl ⟨by rfl, fun w => by go_simp⟩) ?_
        (try simp only [Act.put, List.setIfInBounds_toArray, List.set_cons_zero, List.set_cons_succ])
        refine wpAny_take (i := 3) (oi := { dst := some 19, op := Op.index 9 (Operand.tmp 17) (Operand.tmp 18), type := 5, pos := "ref.go:42", after := #[{ on := 1, ground := Ground.data }, { on := 2, ground := Ground.data }], guard := none }) (v := .int .u8 (b.toNat : Int)) rfl (by kernel_rfl) (by kernel_rfl) (by kernel_rfl) (fun _ _ _ h => h) (Or.inl ⟨by rfl, fun w => by go_simp⟩) ?_
        (try simp only [Act.put, List.setIfInBounds_toArray, List.set_cons_zero, List.set_cons_succ])
        refine wpAny_take (i := 4) (oi := { dst := some 20, op := Op.binOp BinOp.quo 5 (Operand.tmp 19) (Operand.const (Value.int IntKind.u8 16)) 5, type := 5, pos := "ref.go:42", after := #[{ on := 3, ground := Ground.data }], guard := none }) (v := .int .u8 (x : Int)) rfl (by kernel_rfl) (by kernel_rfl) (by kernel_rfl) (fun _ _ _ h => h) (Or.inl ⟨by rfl, fun w => by go_simp⟩) ?_
        (try simp only [Act.put, List.setIfInBounds_toArray, List.set_cons_zero, List.set_cons_succ])
        refine wpAny_take (i := 5) (oi := { dst := some 21, op := Op.index 9 (Operand.const (Value.string { data := #[48, 49, 50, 51, 52, 53, 54, 55, 56, 57, 97, 98, 99, 100, 101, 102] })) (Operand.tmp 20), type := 5, pos := "ref.go:42", after := #[{ on := 4, ground := Ground.data }], guard := none }) (v := .int .u8 (hexD x).toNat) rfl (by kernel_rfl) (by kernel_rfl) (by kernel_rfl) (fun _ _ _ h => h) (Or.inl ⟨by rfl, fun w => by go_simp⟩) ?_
        (try simp only [Act.put, List.setIfInBounds_toArray, List.set_cons_zero, List.set_cons_succ])
        refine wpAny_take (i := 6) (oi := { dst := some 22, op := Op.move (Operand.tmp 0), type := 9, pos := "ref.go:42", after := #[], guard := none }) (v := .string s) rfl (by kernel_rfl) (by kernel_rfl) (by kernel_rfl) (fun _ _ _ h => h) (Or.inl ⟨by rfl, fun w => by go_simp⟩) ?_
        (try simp only [Act.put, List.setIfInBounds_toArray, List.set_cons_zero, List.set_cons_succ])
        refine wpAny_take (i := 7) (oi := { dst := some 23, op := Op.move (Operand.tmp 4), type := 3, pos := "ref.go:42", after := #[], guard := none }) (v := .int .i64 (k : Int)) rfl (by kernel_rfl) (by kernel_rfl) (by kernel_rfl) (fun _ _ _ h => h) (Or.inl ⟨by rfl, fun w => by go_simp⟩) ?_
        (try simp only [Act.put, List.setIfInBounds_toArray, List.set_cons_zero, List.set_cons_succ])
        refine wpAny_take (i := 8) (oi := { dst := some 24, op := Op.index 9 (Operand.tmp 22) (Operand.tmp 23), type := 5, pos := "ref.go:42", after := #[{ on := 6, ground := Ground.data }, { on := 7, ground := Ground.data }], guard := none }) (v := .int .u8 (b.toNat : Int)) rfl (by kernel_rfl) (by kernel_rfl) (by kernel_rfl) (fun _ _ _ h => h) (Or.inl ⟨by rfl, fun w => by go_simp⟩) ?_
        (try simp only [Act.put, List.setIfInBounds_toArray, List.set_cons_zero, List.set_cons_succ])
        refine wpAny_take (i := 9) (oi := { dst := some 25, op := Op.binOp BinOp.rem 5 (Operand.tmp 24) (Operand.const (Value.int IntKind.u8 16)) 5, type := 5, pos := "ref.go:42", after := #[{ on := 8, ground := Ground.data }], guard := none }) (v := .int .u8 (y : Int)) rfl (by kernel_rfl) (by kernel_rfl) (by kernel_rfl) (fun _ _ _ h => h) (Or.inl ⟨by rfl, fun w => by go_simp⟩) ?_
        (try simp only [Act.put, List.setIfInBounds_toArray, List.set_cons_zero, List.set_cons_succ])
        refine wpAny_take (i := 10) (oi := { dst := some 26, op := Op.index 9 (Operand.const (Value.string { data := #[48, 49, 50, 51, 52, 53, 54, 55, 56, 57, 97, 98, 99, 100, 101, 102] })) (Operand.tmp 25), type := 5, pos := "ref.go:42", after := #[{ on := 9, ground := Ground.data }], guard := none }) (v := .int .u8 (hexD y).toNat) rfl (by kernel_rfl) (by kernel_rfl) (by kernel_rfl) (fun _ _ _ h => h) (Or.inl ⟨by rfl, fun w => by go_simp⟩) ?_
        (try simp only [Act.put, List.setIfInBounds_toArray, List.set_cons_zero, List.set_cons_succ])
        refine wpAny_ready (rs := [11]) (by kernel_rfl) (by simp) ?_
        refine AllReady.cons (o := { dst := some 27, op := Op.buildSlice 87 2 #[(0, Operand.tmp 21), (1, Operand.tmp 26)], type := 87, pos := "ref.go:42", after := #[{ on := 5, ground := Ground.data }, { on := 10, ground := Ground.data }], guard := none }) rfl (fun K hK => ?_) AllReady.nil
        go_simp
        refine hK _ _ ?_
        clear hK K
        (try simp only [Act.put, List.setIfInBounds_toArray, List.set_cons_zero, List.set_cons_succ])
        refine wpAny_ready (rs := [12]) (by kernel_rfl) (by simp) ?_
        refine AllReady.cons (o := { dst := some 28, op := Op.convert 87 9 (Operand.tmp 27), type := 9, pos := "ref.go:42", after := #[{ on := 11, ground := Ground.data }], guard := none }) rfl (fun K hK => ?_) AllReady.nil
        go_simp
        refine hK _ _ ?_
        clear hK K
        (try simp only [Act.put, List.setIfInBounds_toArray, List.set_cons_zero, List.set_cons_succ])
        refine wpAny_take (i := 13) (oi := { dst := some 29, op := Op.binOp BinOp.add 9 (Operand.tmp 16) (Operand.tmp 28) 9, type := 9, pos := "ref.go:42", after := #[{ on := 0, ground := Ground.data }, { on := 12, ground := Ground.data }], guard := none }) (v := .string (tb ++ ⟨#[hexD x, hexD y]⟩)) rfl (by kernel_rfl) (by kernel_rfl) (by kernel_rfl) (fun _ _ _ h => h) (Or.inl ⟨by rfl, fun w => by go_simp⟩) ?_
        (try simp only [Act.put, List.setIfInBounds_toArray, List.set_cons_zero, List.set_cons_succ])
        refine wpAny_take (i := 14) (oi := { dst := some 3, op := Op.assign (Operand.tmp 29), type := 9, pos := "ref.go:42", after := #[{ on := 13, ground := Ground.data }, { on := 0, ground := Ground.phase }, { on := 1, ground := Ground.phase }, { on := 2, ground := Ground.phase }, { on := 3, ground := Ground.phase }, { on := 4, ground := Ground.phase }, { on := 5, ground := Ground.phase }, { on := 6, ground := Ground.phase }, { on := 7, ground := Ground.phase }, { on := 8, ground := Ground.phase }, { on := 9, ground := Ground.phase }, { on := 10, ground := Ground.phase }, { on := 11, ground := Ground.phase }, { on := 12, ground := Ground.phase }, { on := 13, ground := Ground.phase }], guard := none }) (v := .string (tb ++ ⟨#[hexD x, hexD y]⟩)) rfl (by kernel_rfl) (by kernel_rfl) (by kernel_rfl) (fun _ _ _ h => h) (Or.inl ⟨by rfl, fun w => by go_simp⟩) ?_
        (try simp only [Act.put, List.setIfInBounds_toArray, List.set_cons_zero, List.set_cons_succ])
        refine wpAny_done (by kernel_rfl) ?_ _
        --END
        go_wp2_with fail
        go_roundw
        case rel => exact ⟨k + 1, by rw [HN.out], by go_num, HKN.out, Lib.hid ((hb.out.alloc hb.out.size _).drew)⟩
        case measure => simp [intOf]; omega
      · obtain rfl : k = s.size := by omega
        have HQ : Hid ((120 :: hexL ((bl s).take s.size)) = z) := Lib.hid (by rw [HZ.out, List.take_of_length_le (by rw [bl_length]; exact Nat.le_refl _)])
        rw [HQ.out]
        clear hk hkn
        go_wp2_with fail
        go_ret
        exact ⟨rfl, hb.out⟩
end Go.Proofs.YtiehhlolhhjgpaaGreatDoor.Pl

namespace Go.Proofs.YtiehhlolhhjgpaaGreatDoor.Pl
open Go.RowKit

theorem sepL_append (a b : List (List UInt8)) : sepL (a ++ b) = sepL a ++ sepL b := by simp [sepL]
theorem joinL_take (ls : List (List UInt8)) (k : Nat) (hk : k < ls.length) : joinL (ls.take (k + 1)) = (if 0 < k then joinL (ls.take k) ++ [44, 32] else joinL (ls.take k)) ++ ls[k] := by
  cases ls with
  | nil => simp at hk
  | cons x r =>
    cases k with
    | zero => simp [joinL, sepL]
    | succ k =>
      simp only [List.length_cons] at hk
      have hk' : k < r.length := by omega
      rw [if_pos (by omega), List.take_succ_cons, List.take_succ_cons, joinL, joinL, List.take_succ_eq_append_getElem hk', sepL_append]
      simp [sepL]
theorem joinL_take_le (ls : List (List UInt8)) (k : Nat) : (joinL (ls.take k)).length ≤ (joinL ls).length := by
  cases ls with
  | nil => simp [joinL]
  | cons x r =>
    cases k with
    | zero => simp [joinL]
    | succ k =>
      rw [List.take_succ_cons, joinL, joinL]
      have : sepL r = sepL (r.take k) ++ sepL (r.drop k) := by rw [← sepL_append, List.take_append_drop]
      rw [this]; simp only [List.length_append]; omega
theorem kind_head {h : List UInt8} {l : List Tm} (hv : (Tm.node h l).valid) {b : UInt8} {r : List UInt8} (e : h = b :: r) : kindP (Tm.node h l).enc = if b = 100 then 1 else if b = 97 then 2 else if b = 114 then 3 else if b = 104 then 4 else if b = 109 then 5 else 6 := by
  unfold kindP
  rw [if_pos (check_enc hv), Tm.enc_node, e, List.cons_append]
theorem text_head {h : List UInt8} {l : List Tm} (hv : (Tm.node h l).valid) {b : UInt8} {x : List UInt8} (e : h = b :: txt x) (hb : b = 100 ∨ b = 97) (hx : x.length ≤ 1024) : textP (Tm.node h l).enc = (x, true) := by
  have hr := rdt_txt (t := x) (by rw [two64]; omega) (encs l) 1024 (by omega)
  unfold textP
  rw [if_pos ⟨check_enc hv, by rw [Tm.enc_node, e]; rcases hb with rfl | rfl <;> simp⟩, Tm.enc_node, e, List.cons_append, List.drop_succ_cons, List.drop_zero, hr]
theorem text_none {h : List UInt8} {l : List Tm} {b : UInt8} {r : List UInt8} (e : h = b :: r) (h1 : b ≠ 100) (h2 : b ≠ 97) : textP (Tm.node h l).enc = ([], false) := by
  unfold textP
  rw [if_neg]
  rintro ⟨_, k⟩
  rw [Tm.enc_node, e] at k
  simp at k
  rcases k with k | k
  · exact h1 k
  · exact h2 k
theorem parts_node {h : List UInt8} {l : List Tm} (hv : (Tm.node h l).valid) : partsP (Tm.node h l).enc = (l.map Tm.enc, true) := by
  unfold partsP; rw [treeOf_enc hv]
/-- The four kinds that have parts. -/
theorem wrap_parts {h : List UInt8} {l : List Tm} (hv : (Tm.node h l).valid) :
    (∃ x, h = 100 :: txt x ∧ x.length ≤ 1024) ∨ (∃ x, h = 97 :: txt x ∧ x.length ≤ 1024) ∨
    ∃ kd : Nat, kindP (Tm.node h l).enc = kd ∧ textP (Tm.node h l).enc = ([], false) ∧ ((kd = 3 ∧ ∀ ls, wrapL h ls = 91 :: (joinL ls ++ [93])) ∨ (kd = 4 ∧ ∀ ls, wrapL h ls = 104 :: 40 :: (joinL ls ++ [41])) ∨ (kd = 5 ∧ ∀ ls, wrapL h ls = 109 :: 40 :: (joinL ls ++ [41])) ∨ (kd = 6 ∧ ∀ ls, wrapL h ls = 115 :: 40 :: (joinL ls ++ [41]))) := by
  have hg := hv.1
  simp only [Tm.good] at hg
  obtain ⟨c, hk⟩ := head_kind hg.1
  cases hk with
  | data x e e1 _ => exact .inl ⟨x, e, e1⟩
  | atom x e e1 _ _ => exact .inr (.inl ⟨x, e, by omega⟩)
  | row v e _ _ => exact .inr (.inr ⟨3, by rw [kind_head hv e]; rfl, text_none e (by decide) (by decide), .inl ⟨rfl, fun ls => by rw [e, wrap_row]⟩⟩)
  | hash e e2 => exact .inr (.inr ⟨4, by rw [kind_head hv e]; rfl, text_none e (by decide) (by decide), .inr (.inl ⟨rfl, fun ls => by rw [e, wrap_hash]⟩)⟩)
  | mac e e2 => exact .inr (.inr ⟨5, by rw [kind_head hv e]; rfl, text_none e (by decide) (by decide), .inr (.inr (.inl ⟨rfl, fun ls => by rw [e, wrap_mac]⟩))⟩)
  | seal_ e e2 => exact .inr (.inr ⟨6, by rw [kind_head hv e]; rfl, text_none e (by decide) (by decide), .inr (.inr (.inr ⟨rfl, fun ls => by rw [e, wrap_seal]⟩))⟩)
theorem ret6_str {a b : ByteArray} (h : a = b) : Ending.returned (.string a) = .returned (.string b) := by rw [h]

set_option maxHeartbeats 4000000 in
set_option maxRecDepth 100000 in
theorem rline_any (most : Int) : ∀ T : Tm, T.valid → ∀ (s : ByteArray), bl s = T.enc → ∀ dep : Nat, dep + T.deep ≤ 1000 → ∀ w : World,
    Calls Tryz.prog 27 #[.string s, .int .i64 dep, .int .i64 most] w fun e w' => e = .returned (.string ⟨(lineT most T dep).toArray⟩) ∧ Below w.heap.size w w' := by
  refine Tm.ind ?_
  intro h l ih hv s hs dep hd w
  have hss : s.size ≤ 16384 := by rw [size_bl, hs]; exact hv.2.2
  obtain ⟨z, hz⟩ : ∃ z, z = lineT most (.node h l) dep := ⟨_, rfl⟩
  rw [← hz]
  rw [lineT_node] at hz
  by_cases hm : most < (dep : Int)
  · rw [if_pos hm] at hz
    have HZ := Lib.hid hz
    rw [HZ.out]
    clear hz ih hv hs hd
    go_enter Tryz.func27, Tryz.ntmps27
    go_wp2_with fail
    go_ret
    exact ⟨rfl, Below.refl _ _⟩
  rw [if_neg hm] at hz
  have HK := Lib.hid (fun V => rkind_any s (by omega) V)
  have HT := Lib.hid (fun V => rtext6_any s (by omega) V)
  have HP := Lib.hid (fun V => rparts6_any s (by omega) V)
  rw [hs] at HK HT HP
  rcases wrap_parts hv with ⟨x, hx, hxl⟩ | ⟨x, hx, hxl⟩ | ⟨kd, hkd, htx, hw⟩
  · rw [kind_head hv hx] at HK
    rw [text_head hv hx (.inl rfl) hxl] at HT
    rw [hx, wrap_data hxl] at hz
    have HD := Lib.hid (fun V => rdatum_any ⟨x.toArray⟩ (by rw [size_lit]; omega) V)
    rw [bl_mk x, ← hz] at HD
    clear HP ih hv hs hd hz hx hxl
    go_enter Tryz.func27, Tryz.ntmps27
    go_wp2_with fail
    refine (HK.out w).mono ?_; rintro e w1 ⟨rfl, b1⟩
    go_wp2_with fail
    refine (HT.out w1).mono ?_; rintro e w2 ⟨rfl, b2⟩
    simp only [tb2]
    go_wp2_with fail
    refine (HD.out w2).mono ?_; rintro e w3 ⟨rfl, b3⟩
    go_wp2_with fail
    go_ret
    exact ⟨rfl, below_step (below_step b1 b2) b3⟩
  · rw [kind_head hv hx] at HK
    rw [text_head hv hx (.inr rfl) hxl] at HT
    rw [hx, wrap_atom hxl] at hz
    have HZ : Hid ((⟨#[36]⟩ : ByteArray) ++ ⟨x.toArray⟩ = ⟨z.toArray⟩) := Lib.hid (by
      apply bl_inj; rw [cat_bytes, bl_mk x, bl_mk z, hz]; rfl)
    have hsz : (⟨x.toArray⟩ : ByteArray).size ≤ 9223372036854775806 := by rw [size_lit]; omega
    rw [← HZ.out]
    simp only [tb2] at HT
    generalize (⟨x.toArray⟩ : ByteArray) = xb at *
    clear HP ih hv hs hd hx hz
    go_enter Tryz.func27, Tryz.ntmps27
    go_wp2_with fail
    refine (HK.out w).mono ?_; rintro e w1 ⟨rfl, b1⟩
    go_wp2_with fail
    refine (HT.out w1).mono ?_; rintro e w2 ⟨rfl, b2⟩
    go_wp2_with fail
    go_ret
    exact ⟨rfl, below_step b1 b2⟩
  · rw [hkd] at HK
    rw [htx] at HT
    rw [parts_node hv] at HP
    have hl32 : l.length ≤ 32 := by
      have hg := hv.1
      simp only [Tm.good] at hg
      obtain ⟨c, hkd⟩ := head_kind hg.1
      cases hkd <;> omega
    have hdd : deeps l + dep + 1 ≤ 1000 := by simp only [Tm.deep] at hd; omega
    obtain ⟨ls, hls⟩ : ∃ ls, ls = l.map fun t => lineT most t (dep + 1) := ⟨_, rfl⟩
    have hll : ls.length = l.length := by rw [hls, List.length_map]
    have IH : Hid (∀ k, (hk : k < l.length) → ∀ y : ByteArray, bl y = l[k].enc → ∀ V, Calls Tryz.prog 27 #[.string y, .int .i64 ((dep : Int) + 1), .int .i64 most] V fun e w' => e = .returned (.string ⟨(ls.getD k []).toArray⟩) ∧ Below V.heap.size V w') := Lib.hid (fun k hk y hy V => by
      have := ih l[k] (List.getElem_mem hk) (node_valid_parts hv _ (List.getElem_mem hk)) y hy (dep + 1) (by have := deeps_mem (List.getElem_mem hk); omega) V
      rw [hls, List.getD_eq_getElem?_getD, List.getElem?_map, List.getElem?_eq_getElem hk]
      exact this)
    have hjl : (joinL ls).length ≤ 65536 := by
      have hg := hv.1
      simp only [Tm.good] at hg
      have := joinL_len l (fun t => lineT most t (dep + 1)) (fun t ht => lineT_len most t (goods_mem hg.2 t ht) (dep + 1))
      have h2 := hv.2.2
      rw [Tm.enc_node, List.length_append] at h2
      rw [hls]; omega
    have HJ : Hid (∀ k, k < ls.length → joinL (ls.take (k + 1)) = (if 0 < k then joinL (ls.take k) ++ [44, 32] else joinL (ls.take k)) ++ ls.getD k []) := Lib.hid (fun k hk => by
      rw [joinL_take ls k hk, List.getD_eq_getElem?_getD, List.getElem?_eq_getElem hk]; rfl)
    have HL : Hid (∀ k, (joinL (ls.take k)).length ≤ 65536) := Lib.hid (fun k => Nat.le_trans (joinL_take_le ls k) hjl)
    have hw := hw
    have HZ := Lib.hid hz
    rw [← hls] at HZ
    obtain ⟨n, hn⟩ : ∃ n, n = l.length := ⟨_, rfl⟩
    have HN := Lib.hid hn
    rw [← hn] at hll hl32
    have HLL := Lib.hid hll
    have HW := Lib.hid hw
    have HPE : Hid (∀ L : List ByteArray, L.map bl = l.map Tm.enc → L.length = n ∧ ∀ k, (hk : k < l.length) → bl (L.getD k ByteArray.empty) = l[k].enc) := Lib.hid (fun L e => by
      have hL : L.length = l.length := by simpa using congrArg List.length e
      refine ⟨by rw [hL, hn], fun k hk => ?_⟩
      have hk' : k < L.length := by omega
      have := congrArg (fun q => q[k]?) e
      simp only [List.getElem?_map, List.getElem?_eq_getElem hk, List.getElem?_eq_getElem hk', Option.map_some, Option.some.injEq] at this
      rw [List.getD_eq_getElem?_getD, List.getElem?_eq_getElem hk']
      exact this)
    have hdep : (dep : Int) + 1 ≤ 1000 := by omega
    have hdep0 : (0 : Int) ≤ (dep : Int) := by omega
    have hkd0 : kd = 3 ∨ kd = 4 ∨ kd = 5 ∨ kd = 6 := by rcases hw with h | h | h | h <;> omega
    have q1 : ((kd : Int) == 1) = false := by rw [beq_eq_false_iff_ne]; omega
    have q2 : ((kd : Int) == 2) = false := by rw [beq_eq_false_iff_ne]; omega
    clear ih hv hs hd hls hz hn hjl hdd hw hkd htx
    go_enter Tryz.func27, Tryz.ntmps27
    go_wp2_with fail
    refine (HK.out w).mono ?_; rintro e w1 ⟨rfl, b1⟩
    go_wp2_with fail
    refine (HT.out w1).mono ?_; rintro e w2 ⟨rfl, b2⟩
    simp only [tb2]
    go_wp2_with fail
    refine (HP.out w2).mono ?_; rintro e w3 ⟨v, P, rfl, ho, hPb, b3⟩
    obtain ⟨hPl, hPe⟩ := HPE.out P hPb
    have PE := Lib.hid hPe
    have B1 := Lib.hid (below_step (below_step b1 b2) b3)
    obtain ⟨ao, cap, rfl, hrow⟩ := ownT_row ho
    have R1 := Lib.hid hrow
    rw [hPl]
    clear b1 b2 b3 ho hrow hPb hPe
    go_wp2_with fail
    go_loopw [10, 13] (fun jv iv wr => ∃ k : Nat, iv = .int .i64 k ∧ jv = .string ⟨(joinL (ls.take k)).toArray⟩ ∧ k ≤ n ∧ Hid (TxtRow wr ao P) ∧ Hid (Below w.heap.size w wr)) (fun _ iv _ => n - (intOf iv).toNat)
    case atStart => exact ⟨0, rfl, rfl, Nat.zero_le _, R1, B1⟩
    case round =>
      obtain ⟨k, rfl, rfl, hkn, hrow, hb⟩ := hrel
      by_cases hk : k < n
      · have hk' : (k : Int) < (n : Int) := by omega
        have hk0 : (0 : Int) ≤ (k : Int) := by omega
        have hkl : k < l.length := by rw [← HN.out]; exact hk
        rcases hrow.out with e | ⟨b, off, rfl, hlt, hc⟩
        · exfalso; rw [e] at hPl; simp at hPl; omega
        have ck := hc k (by omega)
        have HY := Lib.hid (PE.out k hkl)
        generalize P.getD k ByteArray.empty = y at *
        have HC := Lib.hid (IH.out k hkl y HY.out)
        have HJK := Lib.hid (HJ.out k (by rw [HLL.out]; exact hk))
        have hj1 := HL.out k
        have hj2 := HL.out (k + 1)
        obtain ⟨J2, hJ2⟩ : ∃ J2, J2 = joinL (ls.take (k + 1)) := ⟨_, rfl⟩
        rw [← hJ2] at HJK hj2
        have HJ2 := Lib.hid hJ2
        clear hJ2
        generalize joinL (ls.take k) = J at *
        generalize ls.getD k [] = g at *
        have hJs : (⟨J.toArray⟩ : ByteArray).size ≤ 65536 := by rw [size_lit]; exact hj1
        clear hc HY hj1
        by_cases hk00 : 0 < k
        · have hk2 : (0 : Int) < (k : Int) := by omega
          rw [if_pos hk00] at HJK
          have hgs : (⟨g.toArray⟩ : ByteArray).size ≤ 65536 := by rw [size_lit]; have := congrArg List.length HJK.out; simp only [List.length_append] at this; omega
          have HJ3 : Hid (((⟨J.toArray⟩ : ByteArray) ++ ⟨#[44, 32]⟩) ++ ⟨g.toArray⟩ = ⟨J2.toArray⟩) := Lib.hid (by
            apply bl_inj; rw [cat_bytes, cat_bytes, bl_mk J, bl_mk g, bl_mk J2, HJK.out]; rfl)
          generalize (⟨J.toArray⟩ : ByteArray) = Jb at *
          generalize (⟨g.toArray⟩ : ByteArray) = gb at *
          clear HJK
          go_wp2_with fail
          refine (HC.out wr).mono ?_; rintro e w2 ⟨rfl, b2⟩
          have B2 := Lib.hid (below_step hb.out b2)
          have R2 := Lib.hid (hrow.out.below b2)
          clear b2
          go_wp2_with fail
          go_roundw
          case rel => exact ⟨k + 1, by go_num, by rw [HJ3.out, HJ2.out], by omega, R2, B2⟩
          case measure => simp [intOf]; omega
        · obtain rfl : k = 0 := by omega
          rw [if_neg hk00] at HJK
          have ck0 := ck
          rw [Nat.add_zero] at ck0
          have hgs : (⟨g.toArray⟩ : ByteArray).size ≤ 65536 := by rw [size_lit]; have := congrArg List.length HJK.out; simp only [List.length_append] at this; omega
          have HJ3 : Hid ((⟨J.toArray⟩ : ByteArray) ++ ⟨g.toArray⟩ = ⟨J2.toArray⟩) := Lib.hid (by
            apply bl_inj; rw [cat_bytes, bl_mk J, bl_mk g, bl_mk J2, HJK.out])
          generalize (⟨J.toArray⟩ : ByteArray) = Jb at *
          generalize (⟨g.toArray⟩ : ByteArray) = gb at *
          clear HJK
          go_wp2_with fail
          refine (HC.out wr).mono ?_; rintro e w2 ⟨rfl, b2⟩
          have B2 := Lib.hid (below_step hb.out b2)
          have R2 := Lib.hid (hrow.out.below b2)
          clear b2
          go_wp2_with fail
          go_roundw
          case rel => exact ⟨0 + 1, by go_num, by rw [HJ3.out, HJ2.out], by omega, R2, B2⟩
          case measure => simp [intOf]; omega
      · obtain rfl : k = n := by omega
        have HTK : Hid (ls.take k = ls) := Lib.hid (List.take_of_length_le (by rw [HLL.out]; exact Nat.le_refl _))
        have hj := HL.out k
        rw [HTK.out] at hj ⊢
        rcases HW.out with ⟨rfl, e⟩ | ⟨rfl, e⟩ | ⟨rfl, e⟩ | ⟨rfl, e⟩
        all_goals
          have HZ2 := Lib.hid (HZ.out.trans (e ls))
          generalize joinL ls = J at *
          have hJs : (⟨J.toArray⟩ : ByteArray).size ≤ 65536 := by rw [size_lit]; exact hj
          clear HL HJ
          go_wp2_with fail
          go_ret
          refine ⟨ret6_str ?_, hb.out⟩
          apply bl_inj
          rw [cat_bytes, cat_bytes, bl_mk J, bl_mk z, HZ2.out]
          rfl

/-- A term's line, as deep as that, or that it is none. -/
noncomputable def briefP (most : Int) (s : List UInt8) : List UInt8 × Nat := match treeOf s with | some T => (lineT most T 1, 0) | none => ([], 2)
theorem briefP_some {T : Tm} (h : T.valid) (most : Int) : briefP most T.enc = (lineT most T 1, 0) := by unfold briefP; rw [treeOf_enc h]
theorem briefP_none {s : List UInt8} (h : checkP s ≠ 0) (most : Int) : briefP most s = ([], 2) := by unfold briefP; rw [treeOf_none h]
theorem briefP_len (most : Int) (s : List UInt8) : (briefP most s).1.length ≤ 65536 := by
  by_cases h : checkP s = 0
  · obtain ⟨T, tv, te, tr⟩ := tree_of h
    rw [te, briefP_some tv]
    have := lineT_len most T tv.1 1
    have := tv.2.2
    show (lineT most T 1).length ≤ _
    omega
  · rw [briefP_none h]; simp
set_option maxRecDepth 100000 in
theorem rbrief_any (s : ByteArray) (most : Int) (hs : s.size ≤ 281474976710656) (w : World) :
    Calls Tryz.prog 10 #[.string s, .int .i64 most] w fun e w' => e = .returned (st2 (briefP most (bl s))) ∧ Below w.heap.size w w' := by
  have HM := Lib.hid (rmay_any s hs w)
  obtain ⟨z, hz⟩ : ∃ z, z = briefP most (bl s) := ⟨_, rfl⟩
  rw [← hz]
  by_cases hc : checkP (bl s) = 0
  · rw [may_yes hc] at HM
    obtain ⟨T, tv, te, tr⟩ := tree_of hc
    have HD := Lib.hid (fun V => rline_any most T tv s te 1 (by have := tv.2.1; omega) V)
    rw [te, briefP_some tv] at hz
    have HZ := Lib.hid hz
    clear hz hc tv te tr hs
    rw [HZ.out]
    simp only [st2]
    go_enter Tryz.func10, Tryz.ntmps10
    go_wp2_with fail
    refine HM.out.mono ?_; rintro e w1 ⟨rfl, b1⟩
    have B1 := Lib.hid b1
    clear b1
    go_wp2_with fail
    refine (HD.out w1).mono ?_; rintro e w2 ⟨rfl, b2⟩
    have B2 := Lib.hid (below_step B1.out b2)
    clear b2
    go_wp2_with fail
    go_ret2
    exact ⟨rfl, B2.out⟩
  · rw [may_no hc] at HM
    rw [briefP_none hc] at hz
    have HZ := Lib.hid hz
    clear hz hc hs
    rw [HZ.out]
    simp only [st2]
    go_enter Tryz.func10, Tryz.ntmps10
    go_wp2_with fail
    refine HM.out.mono ?_; rintro e w1 ⟨rfl, b1⟩
    have B1 := Lib.hid b1
    clear b1
    go_wp2_with fail
    go_ret2
    exact ⟨rfl, B1.out⟩
set_option maxRecDepth 100000 in
theorem rline7_any (s : ByteArray) (hs : s.size ≤ 281474976710656) (w : World) :
    Calls Tryz.prog 8 #[.string s] w fun e w' => e = .returned (st2 (briefP 16 (bl s))) ∧ Below w.heap.size w w' := by
  have HB := Lib.hid (rbrief_any s 16 hs w)
  simp only [st2] at HB ⊢
  go_enter Tryz.func8, Tryz.ntmps8
  go_wp2_with fail
  refine HB.out.mono ?_; rintro e w1 ⟨rfl, b1⟩
  have B1 := Lib.hid b1
  clear b1
  go_wp2_with fail
  go_ret2
  exact ⟨rfl, B1.out⟩
end Go.Proofs.YtiehhlolhhjgpaaGreatDoor.Pl

namespace Go.Proofs.YtiehhlolhhjgpaaGreatDoor.Pl
open Go.RowKit

theorem and15 : ∀ n : Nat, n < 256 → bits .and .u8 (n : Int) 15 = ((n % 16 : Nat) : Int) := by decide +kernel
set_option maxHeartbeats 2000000 in
set_option maxRecDepth 100000 in
theorem datumline7_any (s : ByteArray) (hs : s.size ≤ 1000000) (w : World) :
    Calls Tryz.prog 46 #[.string s] w fun e w' => e = .returned (.string ⟨(datumL (bl s)).toArray⟩) ∧ Below w.heap.size w w' := by
  have HP := fun V => plain7_any s V
  obtain ⟨z, hz⟩ : ∃ z, z = datumL (bl s) := ⟨_, rfl⟩
  rw [← hz]
  unfold datumL at hz
  cases hp : plainB (bl s) with
  | true =>
    rw [hp] at HP hz
    rw [if_pos rfl] at hz
    have HP := Lib.hid HP
    have HZ : Hid ((⟨z.toArray⟩ : ByteArray) = (⟨#[34]⟩ ++ s) ++ ⟨#[34]⟩) := Lib.hid (by
      apply bl_inj; rw [bl_mk, cat_bytes, cat_bytes, hz]; rfl)
    have h1 : (⟨#[34]⟩ : ByteArray).size + s.size ≤ 9223372036854775807 := by have : (⟨#[34]⟩ : ByteArray).size = 1 := rfl; omega
    have h2 : (⟨#[34]⟩ ++ s : ByteArray).size + (⟨#[34]⟩ : ByteArray).size ≤ 9223372036854775807 := by rw [ByteArray.size_append]; have : (⟨#[34]⟩ : ByteArray).size = 1 := rfl; omega
    rw [HZ.out]
    clear hz hp
    go_enter Tryz.func46, Tryz.ntmps46
    go_wp2_with (go_at_call 14; refine (HP.out _).mono ?_; rintro e w1 ⟨rfl, b1⟩)
    go_ret
    exact ⟨rfl, b1⟩
  | false =>
    rw [hp] at HP hz
    rw [if_neg (by decide)] at hz
    have HP := Lib.hid HP
    have HZ := Lib.hid hz
    have HS := Lib.hid hs
    clear hz hp
    go_enter Tryz.func46, Tryz.ntmps46
    go_wp2_with (first
      | (go_at_call 14; refine (HP.out _).mono ?_; rintro e w1 ⟨rfl, b1⟩; have B1 := Lib.hid b1; clear b1)
      | (go_at_call 80; refine (writeString6_any w1.heap.size w1.heap.size [] ⟨#[120]⟩ _ (Lib.fresh_isBuilder 92 5 w1) (by rw [size_lit]; simp) (by simp)).mono ?_; rintro e w2 ⟨rfl, i2, b2, _⟩; have I2 := Lib.hid i2; have B2 := Lib.hid b2; clear i2 b2))
    go_loopw [13] (fun iv wr => ∃ k : Nat, iv = .int .i64 k ∧ k ≤ s.size ∧ Hid (Lib.IsBuilder 92 5 w1.heap.size w1.heap.size (Lib.byteCells (120 :: hexL ((bl s).take k))) wr) ∧ Hid (Below w1.heap.size w1 wr)) (fun iv _ => s.size - (intOf iv).toNat)
    case atStart => exact ⟨0, rfl, Nat.zero_le _, I2, Lib.hid (((Below.refl _ w1).alloc (Nat.le_refl _) _).trans B2.out)⟩
    case round =>
      obtain ⟨k, rfl, hkn, hI, hb⟩ := hrel
      by_cases hk : k < s.size
      · have hk' : (k : Int) < (s.size : Int) := by omega
        have hk0 : (0 : Int) ≤ (k : Int) := by omega
        obtain ⟨b, eb⟩ : ∃ b : UInt8, b = (bl s).getD k 0 := ⟨_, rfl⟩
        have hb256 := b.toNat_lt
        have hix : ∀ V : World, (Instr.index 9 (.string s) (.int .i64 (k : Int))).run Tryz.prog V = .ok (.int .u8 (b.toNat : Int)) V := tstr_index s k b hk eb
        have hand := and15 b.toNat hb256
        have HNX := Lib.hid (hex_next s k hk b eb)
        have HLN : Hid ((120 :: hexL ((bl s).take k)).length + 2 ≤ 140737488355328) := Lib.hid (by
          rw [List.length_cons, hexL_len, List.length_take]; have := HS.out; omega)
        have HWS : Hid (w1.heap.size ≤ wr.heap.size) := Lib.hid hb.out.size
        obtain ⟨x, ex⟩ : ∃ x : Nat, x = b.toNat / 16 := ⟨_, rfl⟩
        obtain ⟨y, ey⟩ : ∃ y : Nat, y = b.toNat % 16 := ⟨_, rfl⟩
        have hx1 := hexd_index x (by omega)
        have hx2 := hexd_index y (by omega)
        rw [← ey] at hand
        have d1 : Int.tdiv (b.toNat : Int) 16 = (x : Int) := by rw [Int.tdiv_eq_ediv_of_nonneg (by omega)]; omega
        have d2 : (b.toNat : Int) / 16 = (x : Int) := by omega
        rw [← ex, ← ey] at HNX
        generalize (bl s).take k = X0 at *
        clear eb ex ey
        go_wp2_with fail
        refine (writeByte7_any w1.heap.size w1.heap.size (120 :: hexL X0) (hexD x) wr hI.out (by have := HLN.out; omega) HWS.out).mono ?_
        rintro e w3 ⟨rfl, i3, b3, _⟩
        have I3 := Lib.hid i3
        have B3 := Lib.hid (hb.out.trans b3)
        have HW3 : Hid (w1.heap.size ≤ w3.heap.size) := Lib.hid B3.out.size
        clear i3 b3
        go_wp2_with fail
        refine (writeByte7_any w1.heap.size w1.heap.size (120 :: hexL X0 ++ [hexD x]) (hexD y) w3 I3.out (by have := HLN.out; rw [List.length_append, List.length_singleton]; omega) HW3.out).mono ?_
        rintro e w4 ⟨rfl, i4, b4, _⟩
        have I4 := Lib.hid i4
        have B4 := Lib.hid (B3.out.trans b4)
        clear i4 b4
        go_wp2_with fail
        go_roundw
        case rel => exact ⟨k + 1, by go_num, by omega, Lib.hid (by have h := I4.out; rw [HNX.out]; simpa using h), B4⟩
        case measure => simp [intOf]; omega
      · obtain rfl : k = s.size := by omega
        have HX : Hid ((bl s).take s.size = bl s) := Lib.hid (List.take_of_length_le (by rw [bl_length]; exact Nat.le_refl _))
        clear hk hkn
        go_wp2_with (go_at_call 82; refine (Tryz.Builder_String_any_k w1.heap.size w1.heap.size _ _ (Lib.IsBuilderF.of hI.out) hb.out.size).mono ?_; rintro e w3 ⟨rfl, _, b3, _⟩; have B3 := Lib.hid (below_step B1.out (hb.out.trans b3)); clear b3)
        go_ret
        exact ⟨by rw [HZ.out, HX.out]; rfl, B3.out⟩
end Go.Proofs.YtiehhlolhhjgpaaGreatDoor.Pl

namespace Go.Proofs.YtiehhlolhhjgpaaGreatDoor.Pl
open Go.RowKit

theorem any_take (p : UInt8 → Bool) (l : List UInt8) (k : Nat) (h : k < l.length) : (l.take (k + 1)).any p = ((l.take k).any p || p (l.getD k 0)) := by
  rw [List.take_succ_eq_append_getElem h, List.any_append, List.getD_eq_getElem?_getD, List.getElem?_eq_getElem h]
  simp
set_option maxHeartbeats 4000000 in
set_option maxRecDepth 100000 in
theorem rfront7_any (s t : ByteArray) (p : UInt8 → Bool) (hp : ∀ b, p b = (bl t).any (fun c => decide (c = b))) (hs : s.size ≤ 281474976710656) (ht : t.size ≤ 1000) (w : World) :
    Calls Tryz.prog 96 #[.string s, .string t] w fun e w' => e = .returned (.int .i64 (runL p (bl s))) ∧ Below w.heap.size w w' := by
  obtain ⟨z, hz⟩ : ∃ z, z = runL p (bl s) := ⟨_, rfl⟩
  rw [← hz]
  have HZL : Hid (z ≤ s.size) := Lib.hid (by rw [hz, ← bl_length]; exact runL_le _ _)
  have HST : Hid (∀ n, n < s.size → n ≤ z → (p ((bl s).getD n 0) = true → n + 1 ≤ z) ∧ (p ((bl s).getD n 0) = false → z = n)) := Lib.hid (fun n h1 h2 => by
    rw [hz]; exact runL_step p (bl s) n (by rw [bl_length]; exact h1) (by rw [← hz]; exact h2))
  clear hz
  go_enter Tryz.func96, Tryz.ntmps96
  go_wp2_with fail
  go_loopw [5] (fun nv wr => ∃ n : Nat, nv = .int .i64 n ∧ n ≤ s.size ∧ Hid (n ≤ z) ∧ Hid (Below w.heap.size w wr)) (fun nv _ => s.size - (intOf nv).toNat)
  case atStart => exact ⟨0, rfl, Nat.zero_le _, Lib.hid (Nat.zero_le _), Lib.hid (Below.refl _ _)⟩
  case round =>
    obtain ⟨n, rfl, hn, hnz, hb⟩ := hrel
    by_cases hk : n < s.size
    · have hk' : (n : Int) < (s.size : Int) := by omega
      have hk0 : (0 : Int) ≤ (n : Int) := by omega
      obtain ⟨c, ec⟩ : ∃ c : UInt8, c = (bl s).getD n 0 := ⟨_, rfl⟩
      have hix : ∀ V : World, (Instr.index 9 (.string s) (.int .i64 (n : Int))).run Tryz.prog V = .ok (.int .u8 (c.toNat : Int)) V := tstr_index s n c hk ec
      have HS := Lib.hid (HST.out n hk hnz.out)
      rw [← ec] at HS
      clear ec
      go_wp2_with fail
      go_loopw [6, 7] (fun bv iv wr' => ∃ i : Nat, ∃ is : Bool, iv = .int .i64 i ∧ bv = .bool is ∧ i ≤ t.size ∧ Hid (is = ((bl t).take i).any (fun x => decide (x = c))) ∧ Hid (Below w.heap.size w wr')) (fun _ iv _ => t.size - (intOf iv).toNat)
      case atStart => exact ⟨0, false, rfl, rfl, Nat.zero_le _, Lib.hid rfl, hb⟩
      case round =>
        obtain ⟨i, is, rfl, rfl, hi, his, hb⟩ := hrel
        by_cases hj : i < t.size
        · have hj' : (i : Int) < (t.size : Int) := by omega
          have hj0 : (0 : Int) ≤ (i : Int) := by omega
          obtain ⟨d, ed⟩ : ∃ d : UInt8, d = (bl t).getD i 0 := ⟨_, rfl⟩
          have hjx : ∀ V : World, (Instr.index 9 (.string t) (.int .i64 (i : Int))).run Tryz.prog V = .ok (.int .u8 (d.toNat : Int)) V := tstr_index t i d hj ed
          have HI : Hid ((is || decide (d = c)) = ((bl t).take (i + 1)).any (fun x => decide (x = c))) := Lib.hid (by
            rw [any_take _ _ _ (by rw [bl_length]; exact hj), his.out, ed])
          clear ed
          have he : ((d.toNat : Int) == (c.toNat : Int)) = decide (d = c) := by
            by_cases h : d = c
            · subst h; simp
            · rw [decide_eq_false h, beq_eq_false_iff_ne]; intro k; exact h (UInt8.toNat_inj.1 (by exact_mod_cast k))
          cases is
          · go_wp2_with fail
            go_quiet (fail)
            go_wp2_with fail
            go_roundw
            case rel => exact ⟨i + 1, _, by go_num, rfl, by omega, Lib.hid (by rw [← HI.out]; rfl), Lib.hid (below_drewN hb.out _)⟩
            case measure => simp [intOf]; omega
          · go_wp2_with fail
            go_quiet (fail)
            go_wp2_with fail
            go_roundw
            case rel => exact ⟨i + 1, _, by go_num, rfl, by omega, Lib.hid (by rw [← HI.out]; rfl), Lib.hid (below_drewN hb.out _)⟩
            case measure => simp [intOf]; omega
        · obtain rfl : i = t.size := by omega
          have HP : Hid (is = p c) := Lib.hid (by rw [hp c, his.out, List.take_of_length_le (by rw [bl_length]; exact Nat.le_refl _)])
          clear hj hi
          cases is with
          | true =>
            have HN1 : Hid (n + 1 ≤ z) := Lib.hid (HS.out.1 HP.out.symm)
            go_wp2_with fail
            go_roundw
            case rel => exact ⟨n + 1, by go_num, by omega, HN1, hb⟩
            case measure => simp [intOf]; omega
          | false =>
            have HN1 : Hid (z = n) := Lib.hid (HS.out.2 HP.out.symm)
            go_wp2_with fail
            go_ret
            exact ⟨ret6_i64 (by rw [HN1.out]), hb.out⟩
    · have HN1 : Hid (z = n) := Lib.hid (by have := HZL.out; have := hnz.out; omega)
      obtain rfl : n = s.size := by omega
      clear hk hn
      go_wp2_with fail
      go_ret
      exact ⟨ret6_i64 (by rw [HN1.out]), hb.out⟩

theorem ret6_u8 {a b : Int} (h : a = b) : Ending.returned (.int .u8 a) = .returned (.int .u8 b) := by rw [h]
set_option maxRecDepth 100000 in
theorem rvalue_any (b : UInt8) (hb : hexB b = true) (w : World) :
    Calls Tryz.prog 98 #[.int .u8 (b.toNat : Int)] w fun e w' => e = .returned (.int .u8 (hexV b : Nat)) ∧ w = w' := by
  have hB := hexB_iff.1 hb
  have h256 := b.toNat_lt
  obtain ⟨z, hz⟩ : ∃ z, z = hexV b := ⟨_, rfl⟩
  rw [← hz]
  unfold hexV at hz
  by_cases h : 97 ≤ b.toNat
  · rw [if_pos h] at hz
    have q1 : decide ((97 : Int) ≤ (b.toNat : Int)) = true := decide_eq_true (by omega)
    have e1 : IntKind.u8.wrap ((b.toNat : Int) - 97) = (b.toNat : Int) - 97 := by rw [IntKind.wrap_u8']; omega
    have e2 : IntKind.u8.wrap ((b.toNat : Int) - 97 + 10) = (z : Int) := by rw [IntKind.wrap_u8']; omega
    clear hb hB
    go_enter Tryz.func98, Tryz.ntmps98
    go_wp2_with fail
    go_ret
    exact ⟨ret6_u8 (by omega), rfl⟩
  · rw [if_neg h] at hz
    have q1 : decide ((97 : Int) ≤ (b.toNat : Int)) = false := decide_eq_false (by omega)
    have e2 : IntKind.u8.wrap ((b.toNat : Int) - 48) = (z : Int) := by rw [IntKind.wrap_u8']; omega
    clear hb hB
    go_enter Tryz.func98, Tryz.ntmps98
    go_wp2_with fail
    go_ret
    exact ⟨ret6_u8 (by omega), rfl⟩
end Go.Proofs.YtiehhlolhhjgpaaGreatDoor.Pl

namespace Go.Proofs.YtiehhlolhhjgpaaGreatDoor.Pl
open Go.RowKit

def nameList : List UInt8 := [97, 98, 99, 100, 101, 102, 103, 104, 105, 106, 107, 108, 109, 110, 111, 112, 113, 114, 115, 116, 117, 118, 119, 120, 121, 122, 48, 49, 50, 51, 52, 53, 54, 55, 56, 57, 47, 46, 45]
def hexList : List UInt8 := [48, 49, 50, 51, 52, 53, 54, 55, 56, 57, 97, 98, 99, 100, 101, 102]
theorem all_bytes {p q : UInt8 → Bool} (h : (List.range 256).all (fun n => p n.toUInt8 == q n.toUInt8) = true) (b : UInt8) : p b = q b := by
  have := List.all_eq_true.1 h b.toNat (List.mem_range.2 b.toNat_lt)
  have e : b.toNat.toUInt8 = b := by simp
  rw [e] at this
  exact eq_of_beq this
theorem name_list (b : UInt8) : nameB b = (bl ⟨nameList.toArray⟩).any (fun c => decide (c = b)) := all_bytes (q := fun b => (bl ⟨nameList.toArray⟩).any (fun c => decide (c = b))) (by kernel_rfl) b
theorem hex_list (b : UInt8) : hexB b = (bl ⟨hexList.toArray⟩).any (fun c => decide (c = b)) := all_bytes (q := fun b => (bl ⟨hexList.toArray⟩).any (fun c => decide (c = b))) (by kernel_rfl) b
theorem rslice_to (x : ByteArray) (b : Nat) (h2 : b ≤ x.size) (V : World) : (Instr.sliceAt 9 (.string x) none (some (.int .i64 (b : Int))) none).run Tryz.prog V = .ok (.string (x.extract 0 b)) V := by
  have h0 : (0 : Int) ≤ (b : Int) := by omega
  have h1 : (b : Int) ≤ (x.size : Int) := by omega
  go_simp

set_option maxRecDepth 100000 in
theorem ratom7_any (s : ByteArray) (hs : s.size ≤ 281474976710656) (w : World) :
    Calls Tryz.prog 70 #[.string s] w fun e w' => e = .returned (st2 (pAtom (bl s))) ∧ Below w.heap.size w w' := by
  have HF := Lib.hid (rfront7_any s ⟨nameList.toArray⟩ nameB name_list hs (by decide) w)
  have HP : Hid (pAtom (bl s) = ((atomP ((bl s).take (runL nameB (bl s)))).1, runL nameB (bl s))) := Lib.hid rfl
  have hn : runL nameB (bl s) ≤ s.size := by rw [← bl_length]; exact runL_le _ _
  generalize pAtom (bl s) = q at *
  obtain ⟨q1, q2⟩ := q
  have h2 := HP.out
  simp only [Prod.mk.injEq] at h2
  obtain ⟨rfl, rfl⟩ := h2
  clear HP
  generalize runL nameB (bl s) = n at *
  have sl := rslice_to s n hn
  have HA := Lib.hid (fun V => ratom_any (s.extract 0 n) (by simp; omega) V)
  rw [show bl (s.extract 0 n) = (bl s).take n by simp [bl]] at HA
  generalize atomP ((bl s).take n) = a at *
  simp only [st2] at HA ⊢
  go_enter Tryz.func70, Tryz.ntmps70
  go_wp2_with fail
  refine HF.out.mono ?_; rintro e w1 ⟨rfl, b1⟩
  go_wp2_with fail
  refine (HA.out w1).mono ?_; rintro e w2 ⟨rfl, b2⟩
  go_wp2_with fail
  go_ret2
  exact ⟨rfl, below_step b1 b2⟩

theorem notq_iff (c : UInt8) : ((c.toNat : Int) != 34) = notQ c := by
  unfold notQ
  by_cases h : c = 34
  · subst h; rfl
  · rw [decide_eq_true h, bne_iff_ne]; intro k; exact h (UInt8.toNat_inj.1 (by exact_mod_cast k))
set_option maxHeartbeats 4000000 in
set_option maxRecDepth 100000 in
theorem rquoted_any (s : ByteArray) (hs : s.size ≤ 281474976710656) (w : World) :
    Calls Tryz.prog 72 #[.string s] w fun e w' => e = .returned (st2 (pQuoted (bl s))) ∧ Below w.heap.size w w' := by
  obtain ⟨z, hz⟩ : ∃ z, z = runL notQ (bl s) := ⟨_, rfl⟩
  obtain ⟨q, hq⟩ : ∃ q, q = pQuoted (bl s) := ⟨_, rfl⟩
  have HQ := Lib.hid hq
  unfold pQuoted at HQ
  rw [← hz, bl_length] at HQ
  rw [← hq]
  have hzl : z ≤ s.size := by rw [hz, ← bl_length]; exact runL_le _ _
  have HST : Hid (∀ n, n < s.size → n ≤ z → (notQ ((bl s).getD n 0) = true → n + 1 ≤ z) ∧ (notQ ((bl s).getD n 0) = false → z = n)) := Lib.hid (fun n h1 h2 => by
    rw [hz]; exact runL_step notQ (bl s) n (by rw [bl_length]; exact h1) (by rw [← hz]; exact h2))
  have sl := rslice_to s z hzl
  have HPL := Lib.hid (fun V => rplain_any (s.extract 0 z) V)
  have HD := Lib.hid (fun V => rdata_any (s.extract 0 z) (by simp; omega) V)
  rw [show bl (s.extract 0 z) = (bl s).take z by simp [bl]] at HPL HD
  generalize plainB ((bl s).take z) = pl at *
  generalize dataP ((bl s).take z) = da at *
  generalize s.extract 0 z = sx at *
  clear hz hq
  simp only [st2] at HD ⊢
  go_enter Tryz.func72, Tryz.ntmps72
  go_wp2_with fail
  go_loopw [4] (fun nv wr => ∃ n : Nat, nv = .int .i64 n ∧ n ≤ z ∧ Hid (Below w.heap.size w wr)) (fun nv _ => s.size - (intOf nv).toNat)
  case atStart => exact ⟨0, rfl, Nat.zero_le _, Lib.hid (Below.refl _ _)⟩
  case round =>
    obtain ⟨n, rfl, hnz, hb⟩ := hrel
    by_cases hk : n < s.size
    · have hk' : (n : Int) < (s.size : Int) := by omega
      have hk0 : (0 : Int) ≤ (n : Int) := by omega
      obtain ⟨c, ec⟩ : ∃ c : UInt8, c = (bl s).getD n 0 := ⟨_, rfl⟩
      have hix : ∀ V : World, (Instr.index 9 (.string s) (.int .i64 (n : Int))).run Tryz.prog V = .ok (.int .u8 (c.toNat : Int)) V := tstr_index s n c hk ec
      have HS := Lib.hid (HST.out n hk hnz)
      rw [← ec] at HS
      have hc := notq_iff c
      clear ec
      cases hqc : notQ c with
      | true =>
        rw [hqc] at hc
        have hn2 := HS.out.1 hqc
        clear hqc
        go_wp2_with fail
        go_roundw
        case rel => exact ⟨n + 1, by go_num, hn2, hb⟩
        case measure => simp [intOf]; omega
      | false =>
        rw [hqc] at hc
        obtain rfl := HS.out.2 hqc
        clear hqc hnz hzl
        have qe : ((z : Int) == (s.size : Int)) = false := by rw [beq_eq_false_iff_ne]; omega
        by_cases hl : 1024 < z
        · have ql : decide ((1024 : Int) < (z : Int)) = true := decide_eq_true (by omega)
          rw [if_pos (.inr (.inl hl))] at HQ
          go_wp2_with fail
          go_ret2
          exact ⟨by rw [HQ.out]; rfl, hb.out⟩
        · have ql : decide ((1024 : Int) < (z : Int)) = false := decide_eq_false (by omega)
          cases pl with
          | false =>
            rw [if_pos (.inr (.inr rfl))] at HQ
            clear hl
            go_wp2_with fail
            refine (HPL.out wr).mono ?_; rintro e w1 ⟨rfl, b1⟩
            go_wp2_with fail
            go_ret2
            exact ⟨by rw [HQ.out]; rfl, below_step hb.out b1⟩
          | true =>
            rw [if_neg (by rintro (h | h | h); · omega
                           · omega
                           · cases h)] at HQ
            clear hl
            go_wp2_with fail
            refine (HPL.out wr).mono ?_; rintro e w1 ⟨rfl, b1⟩
            go_wp2_with fail
            refine (HD.out w1).mono ?_; rintro e w2 ⟨rfl, b2⟩
            go_wp2_with fail
            go_ret2
            exact ⟨by rw [HQ.out]; rfl, below_step (below_step hb.out b1) b2⟩
    · obtain rfl : n = z := by omega
      obtain rfl : n = s.size := by omega
      rw [if_pos (.inl rfl)] at HQ
      clear hk hnz hzl
      go_wp2_with fail
      go_ret2
      exact ⟨by rw [HQ.out]; rfl, hb.out⟩
end Go.Proofs.YtiehhlolhhjgpaaGreatDoor.Pl

namespace Go.Proofs.YtiehhlolhhjgpaaGreatDoor.Pl
open Go.RowKit Go.ChangeShapes Go.WideShapes

/-- Each of these types can be read, and is a row of the table. -/
def typesRowed (P : Program) (ts : List TypeId) : Bool := ts.all fun t => P.readableRec t && decide (t < P.types.size)

theorem trodAll_later {H : Type} {enc : TypeId × Value → H} {P : Program} (hl : laidOutB P = true) {W W' : World} (hb : Below W.heap.size W W') :
    ∀ {ts : List TypeId} {vs : List Value} {ds : List (DataW H)} {ps : List MemPlace}, typesRowed P ts = true →
      DataW.TrodAll enc P W 0 (fun _ => true) true ts vs ds ps → DataW.TrodAll enc P W' 0 (fun b => decide (b < W.heap.size)) true ts vs ds ps
  | [], [], [], _, _, h => h
  | t :: ts, v :: vs, d :: ds, ps, ht, h => by
    have hlt := h.lt
    obtain ⟨p, q, h1, h2, e⟩ := h
    simp only [typesRowed, List.all_cons, Bool.and_eq_true, decide_eq_true_eq] at ht
    exact ⟨p, q, Below.trod hl ht.1.1 ht.1.2 h1 hb (fun x hx => hlt x (by rw [e]; simp [hx])), trodAll_later hl hb ht.2 h2, e⟩
  | [], [], _ :: _, _, _, h => h.elim
  | [], _ :: _, _, _, _, h => h.elim
  | _ :: _, [], _, _, _, h => h.elim
  | _ :: _, _ :: _, [], _, _, h => h.elim

/-- The law's post: the result is true, the arguments read as they did. -/
theorem law_post {H : Type} {enc : TypeId × Value → H} {P : Program} {f : Func} {s : ChangeSpec} {W W' : World} {args : Array Value} {ds gs : List (DataW H)} {before : List MemPlace} {T : TypeId}
    (hl : laidOutB P = true) (ht : typesRowed P f.params.toList = true) (hT : P.underlying T = some .bool) (hr : f.resultTypes = #[T]) (hv : s.vars = [])
    (hW : DataW.Whole enc P f.params.toList s.vars false W args.toList ds gs before) (hb : Below W.heap.size W W')
    (h1 : (s.fn H (ds ++ gs)).results = [.lit (.bool true)]) (h2 : (s.fn H (ds ++ gs)).args = ds) (h3 : (s.fn H (ds ++ gs)).vars = []) :
    s.post enc P f false true false false W args (.bool true) W' := by
  have hW' := hW
  obtain ⟨p, q, hA, hV, hps, _, _⟩ := hW'
  rw [hv] at hV
  obtain ⟨rfl, rfl⟩ := trodVars_none hV
  refine ⟨ds, [], before, [], p, [], hW, ?_, ?_, ?_, World.keptBut_mono (fun x hx => hx.elim) (hb.frame (fun _ => False)), fun h => by cases h⟩
  · rw [h1, hr]
    exact trodAll_mk1 (shut_bool hT true)
  · rw [h2]
    exact trodAll_later hl hb ht hA
  · rw [h3, hv]
    rfl
end Go.Proofs.YtiehhlolhhjgpaaGreatDoor.Pl
