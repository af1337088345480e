/- OctetTexts answers true, whatever it is given. -/
import Derived.Test.YtdddmaobmdinbaaApart
import Derived.Test.YtdddmaobmdinbaaRefTexts
namespace Go.Proofs.Ytdddmaobmdinbaa.Pl
open Go.RowKit

set_option maxRecDepth 100000 in
theorem texts_long (p : Option Addr) (n c1 : Nat) (ss : List ByteArray) (s : ByteArray) (c m : Int) (w : World) (h1 : Src w p n ss) (hn : n ≤ 9223372036854775807) (hl : longB ss = true) :
    Calls Try.prog 4 #[.slice p n c1, .string s, .int .i64 c, .int .i64 m] w fun e w' => e = .returned (.bool true) ∧ Below w.heap.size w w' := by
  have H1 := long_src p n c1 ss w h1 hn
  rw [hl] at H1
  have H := Lib.hid H1
  clear H1
  go_enter Try.func4, Try.ntmps4
  go_wp2_with fail
  refine H.out.mono ?_; rintro e w' ⟨rfl, rfl⟩
  go_wp2_with fail
  refine (alive_any _).mono ?_; rintro e w' ⟨rfl, hb⟩
  go_wp2_with fail
  go_ret
  exact ⟨rfl, hb⟩
set_option maxRecDepth 100000 in
theorem texts_big (p : Option Addr) (n c1 : Nat) (ss : List ByteArray) (s : ByteArray) (c m : Int) (w : World) (h1 : Src w p n ss) (hn : n ≤ 9223372036854775807) (hl : longB ss = false) (hs : 8192 < s.size) (hs2 : s.size ≤ 9223372036854775807) :
    Calls Try.prog 4 #[.slice p n c1, .string s, .int .i64 c, .int .i64 m] w fun e w' => e = .returned (.bool true) ∧ Below w.heap.size w w' := by
  have H1 := long_src p n c1 ss w h1 hn
  rw [hl] at H1
  have H := Lib.hid H1
  clear H1
  go_enter Try.func4, Try.ntmps4
  go_wp2_with fail
  refine H.out.mono ?_; rintro e w' ⟨rfl, rfl⟩
  go_wp2_with fail
  refine (alive_any _).mono ?_; rintro e w' ⟨rfl, hb⟩
  go_wp2_with fail
  go_ret
  exact ⟨rfl, hb⟩

/-- An operation that its guard lets through goes as one without a guard. -/
theorem wpList_unguard {P : Program} {ops : Array Oper} {rest : List Oper} {o : Oper} {a : Act} {Q : Exit → Act → World → Prop} {w : World} (hw : Region.wanted o (yielded ops a.tmps) = true)
    (h : wpList P ops Q ({ o with guard := none } :: rest) a w) : wpList P ops Q (o :: rest) a w := by
  unfold wpList at h ⊢
  rw [if_pos hw]
  rw [if_pos (by simp [Region.wanted])] at h
  exact h
theorem rdrow_len (m : Int) : ∀ (k : Nat) (l : List UInt8) (acc : List (List UInt8)) (at' : Nat), (rdrow m k l acc at').1.length ≤ acc.length + k
  | 0, l, acc, at' => by simp [rdrow]
  | k + 1, l, acc, at' => by
    rw [rdrow]
    split
    · have h := rdrow_len m k (l.drop (rdt l m).2.1) (acc ++ [(rdt l m).1]) (at' + (rdt l m).2.1)
      rw [List.length_append] at h
      simp at h ⊢
      omega
    · simp
theorem keep1 {W w1 : World} {p : Addr} {x : Value} (hb : Below W.heap.size W w1) (h : W.cell? p = some x) : w1.cell? p = some x := (hb.cell (World.block_lt_of_cell? _ _ h)).trans h
set_option maxHeartbeats 1000000 in
set_option maxRecDepth 100000 in
theorem texts_walk (p : Option Addr) (n c1 : Nat) (ss : List ByteArray) (s : ByteArray) (c m : Int) (w : World) (h1 : Src w p n ss) (hl : longB ss = false) (hp : p = none → c1 = 0) (hs : s.size ≤ 8192)
    (k1 : -9223372036854775808 ≤ c) (k2 : c ≤ 9223372036854775807) (m1 : -9223372036854775808 ≤ m) (m2 : m ≤ 9223372036854775807) :
    Calls Try.prog 4 #[.slice p n c1, .string s, .int .i64 c, .int .i64 m] w fun e w' => e = .returned (.bool true) ∧ Below w.heap.size w w' := by
  have b1 := longB_no hl
  have hn : n ≤ 300 := by have := h1.1; omega
  have HL := long_src p n c1 ss w h1 (by omega)
  rw [hl] at HL
  have A1 := Lib.hid HL
  have S1 := Lib.hid h1
  have B1 := Lib.hid b1
  have HP := Lib.hid hp
  have g1 : (rowT ss).length ≤ 140737488355328 := by have := rowT_len ss; omega
  clear HL h1 b1 hl hp
  go_enter Try.func4, Try.ntmps4
  go_wp2_with fail
  refine A1.out.mono ?_; rintro e w' ⟨rfl, rfl⟩
  go_wp2_with fail
  go_loopw [9] (fun i wr => ∃ j : Nat, j ≤ n ∧ i = .int .i64 j ∧ Below w.heap.size w wr) (fun i _ => n - (intOf i).toNat)
  case atStart => exact ⟨0, Nat.zero_le _, rfl, Below.refl _ _⟩
  case round =>
    obtain ⟨j, hj, rfl, hbel⟩ := hrel
    by_cases hlt : j < n
    · rcases S1.out.2 with h0 | ⟨b, off, rfl, t1⟩
      · omega
      · have g3 := (t1.below hbel).2 j hlt
        have z1 : (ss.getD j ⟨#[]⟩).size ≤ 8192 := Nat.le_trans (getD_le_tot (by rw [t1.1]; exact hlt)) B1.out.1
        generalize hx : ss.getD j ⟨#[]⟩ = x at g3 z1
        clear hx t1
        have q1 : (0 : Int) ≤ (j : Int) := by omega
        have q2 : (j : Int) < (n : Int) := by omega
        have f3 : ((txt x.data.toList) != (txt x.data.toList)) = false := by simp
        go_wp2_with fail
        go_region_held3 (fun W => W.cell? ⟨b, off + j, none⟩ = some (.string x)) (first | assumption | exact g3 | exact keep1 ‹_› ‹_›) (first | (go_at_call 14; refine (text_out x _ (by omega)).mono ?_; rintro e w6 ⟨rfl, hb6⟩) | (go_at_call 15; refine (reftext_any x _ (by omega)).mono ?_; rintro e w7 ⟨rfl, hb7⟩))
        go_wp2_with fail
        exact ⟨⟨j + 1, by omega, by go_num, below_step (below_step hbel (below_undrew hb6)) hb7⟩, by simp [intOf]; omega⟩
    · obtain rfl : j = n := by omega
      obtain ⟨t, k, z, hr⟩ : ∃ t k z, rdt s.data.toList m = (t, k, z) := ⟨_, _, _, rfl⟩
      have HA : Hid (∀ W, Calls Try.prog 16 #[.string s, .int .i64 m] W fun e w' => e = .returned (.tuple #[.string ⟨t.toArray⟩, .int .i64 k, .int .i64 z]) ∧ Below W.heap.size W w') := by
        intro W
        have h := readtext_any s m W (by omega) m1 m2
        rw [hr] at h
        exact h
      have HB : Hid (∀ W, Calls Try.prog 17 #[.string s, .int .i64 m] W fun e w' => e = .returned (.tuple #[.string ⟨t.toArray⟩, .int .i64 k, .int .i64 z]) ∧ Below W.heap.size W w') := by
        intro W
        have h := refreadtext_any s m W (by omega) m1 m2
        rw [hr] at h
        exact h
      clear hr
      go_wp2_with fail
      refine (HA.out _).mono ?_; rintro e w1 ⟨rfl, hb1⟩
      go_wp2_with fail
      refine (HB.out _).mono ?_; rintro e w2 ⟨rfl, hb2⟩
      go_wp2_with (at_builtin; refine wpList_unguard rfl (wpList_copy_texts rfl _ rfl p j c1 ss rfl ?c1 ?c2 ?c3 ?_))
      case c1 => exact S1.out.below (below_step (below_step hbel hb1) hb2)
      case c2 => omega
      case c3 => exact HP.out
      intro q1 k3 w3 hs3 hb3
      have hb13 : Below w.heap.size w w3 := below_step (below_step (below_step hbel hb1) hb2) hb3
      go_wp2_with fail
      refine (row_src q1 j k3 ss _ hs3 (by omega) g1).mono ?_; rintro e w4 ⟨rfl, hb4⟩
      go_wp2_with fail
      refine (refrow_src p j c1 ss _ (S1.out.below (below_step hb13 hb4)) (by omega) g1).mono ?_; rintro e w5 ⟨rfl, hb5⟩
      have hb15 := below_step (below_step hb13 hb4) hb5
      clear hb1 hb2 hb3 hb4 hb5 hb13 hbel
      obtain ⟨R, hR⟩ : ∃ R, rdrow m (min c 10000).toNat s.data.toList [] 0 = R := ⟨_, rfl⟩
      have hRl : R.1.length ≤ 10000 := by
        rw [← hR]
        have h := rdrow_len m (min c 10000).toNat s.data.toList [] 0
        simp at h
        omega
      have HC : Hid (∀ W, Calls Try.prog 20 #[.string s, .int .i64 (min c 10000), .int .i64 m] W (RowPost R W)) := fun W => by
        have h := readrow_any s (min c 10000) m (by omega) W (by omega) m1 m2
        rw [hR] at h
        exact h
      have HD : Hid (∀ W, Calls Try.prog 21 #[.string s, .int .i64 (min c 10000), .int .i64 m] W (RowPost R W)) := fun W =>
        refreadrow_any s (min c 10000) m (by omega) (by omega) W (by omega) m1 m2 R hR
      clear hR HA HB
      go_wp2_with fail
      refine (HC.out _).mono ?_; rintro e w6 ⟨p6, k6, rfl, hs6, hb6⟩
      go_wp2_with fail
      refine (HD.out _).mono ?_; rintro e w7 ⟨p7, k7, rfl, hs7, hb7⟩
      have HS := Lib.hid (same_src p6 p7 R.1.length R.1.length k6 k7 _ _ w7 (by omega) (hs6.below hb7) hs7)
      rw [decide_eq_true rfl] at HS
      have hb17 := below_step (below_step hb15 hb6) hb7
      clear hs6 hs7 hb6 hb7
      go_wp2_with fail
      refine HS.out.mono ?_; rintro e w8 ⟨rfl, hb8⟩
      go_wp2_with fail
      refine (alive_any _).mono ?_; rintro e w9 ⟨rfl, hb9⟩
      go_wp2_with fail
      go_ret
      exact ⟨rfl, below_step (below_step hb17 hb8) hb9⟩

theorem texts_any (p : Option Addr) (n c1 : Nat) (ss : List ByteArray) (s : ByteArray) (c m : Int) (w : World) (h1 : Src w p n ss) (hn : n ≤ 9223372036854775807) (hp : p = none → c1 = 0) (hs : s.size ≤ 9223372036854775807)
    (k1 : -9223372036854775808 ≤ c) (k2 : c ≤ 9223372036854775807) (m1 : -9223372036854775808 ≤ m) (m2 : m ≤ 9223372036854775807) :
    Calls Try.prog 4 #[.slice p n c1, .string s, .int .i64 c, .int .i64 m] w fun e w' => e = .returned (.bool true) ∧ Below w.heap.size w w' := by
  cases hl : longB ss with
  | true => exact texts_long p n c1 ss s c m w h1 hn hl
  | false =>
    by_cases h8 : 8192 < s.size
    · exact texts_big p n c1 ss s c m w h1 hn hl h8 hs
    · exact texts_walk p n c1 ss s c m w h1 hl hp (by omega) k1 k2 m1 m2
end Go.Proofs.Ytdddmaobmdinbaa.Pl
