/- HmacReady answers true, whatever it is given. -/
import Derived.Test.YtghldnnnhlgmkaaDoorHmacAlive
import Derived.Test.YtghldnnnhlgmkaaDoorShaTexts
namespace Go.Proofs.YtghldnnnhlgmkaaDoor.Pl
open Go.RowKit

/-- What holds throughout a round: two texts where they lie, the table, the key. -/
theorem rd_keep {w W V : World} {b o1 o2 p : Nat} {y z : ByteArray} {k : List Nat}
    (h : W.cell? ⟨b, o1, none⟩ = some (.string y) ∧ W.cell? ⟨b, o2, none⟩ = some (.string z) ∧ Hid (Tab W) ∧ Hid (KeyAt W p k) ∧ Hid (Below w.heap.size w W)) (hb : Below W.heap.size W V) :
    V.cell? ⟨b, o1, none⟩ = some (.string y) ∧ V.cell? ⟨b, o2, none⟩ = some (.string z) ∧ Hid (Tab V) ∧ Hid (KeyAt V p k) ∧ Hid (Below w.heap.size w V) := by
  obtain ⟨h0, h1, h2, h3, h4⟩ := h
  exact ⟨(hb.cell (p := ⟨b, o1, none⟩) (World.block_lt_of_cell? _ _ h0)).trans h0, (hb.cell (p := ⟨b, o2, none⟩) (World.block_lt_of_cell? _ _ h1)).trans h1, Lib.hid (h2.out.below hb), Lib.hid (h3.out.below hb), Lib.hid (h4.out.trans (hb.mono h4.out.size))⟩
theorem rd_key {w W : World} {b o1 o2 p : Nat} {y z : ByteArray} {k : ByteArray} {T : ByteArray} (x : ByteArray) (hT : Hid (x.size ≤ 4096 ∧ T = bytesOf (tagOf (nums k) (nums x))))
    (h : W.cell? ⟨b, o1, none⟩ = some (.string y) ∧ W.cell? ⟨b, o2, none⟩ = some (.string z) ∧ Hid (Tab W) ∧ Hid (KeyAt W p (nums k)) ∧ Hid (Below w.heap.size w W)) :
    Calls Tryd.prog 11 #[.pointer (some ⟨p, 0, none⟩), .string x] W fun e w' => e = .returned (.string T) ∧ Below W.heap.size W w' := by
  rw [hT.out.2]
  exact keysum_any p k x (by have := hT.out.1; omega) W h.2.2.1.out h.2.2.2.1.out
theorem rd_sum {w W : World} {b o1 o2 p : Nat} {y z : ByteArray} {k : ByteArray} {T : ByteArray} (x : ByteArray) (hk : Hid (k.size ≤ 4096)) (hT : Hid (x.size ≤ 4096 ∧ T = bytesOf (tagOf (nums k) (nums x))))
    (h : W.cell? ⟨b, o1, none⟩ = some (.string y) ∧ W.cell? ⟨b, o2, none⟩ = some (.string z) ∧ Hid (Tab W) ∧ Hid (KeyAt W p (nums k)) ∧ Hid (Below w.heap.size w W)) :
    Calls Tryd.prog 9 #[.string k, .string x] W fun e w' => e = .returned (.string T) ∧ Below W.heap.size W w' := by
  rw [hT.out.2]
  exact tag_any k x (by have := hk.out; omega) (by have := hT.out.1; omega) W h.2.2.1.out

set_option maxRecDepth 100000 in
theorem ready_large (k : ByteArray) (p : Option Addr) (n c : Nat) (w : World) (hT : Tab w) (h : 4096 < k.size ∨ (¬ 4096 < k.size ∧ 30 < n)) :
    Calls Tryd.prog 5 #[.string k, .slice p n c] w fun e w' => e = .returned (.bool true) ∧ Below w.heap.size w w' := by
  have HT := Lib.hid hT
  clear hT
  rcases h with h | ⟨h0, h⟩
  all_goals
    go_enter Tryd.func5, Tryd.ntmps5
    go_wp2_with fail
    refine (alive_any _ HT.out).mono ?_; rintro e w' ⟨rfl, hb⟩
    go_wp2_with fail
    go_ret
    exact ⟨rfl, hb⟩

set_option maxHeartbeats 4000000 in
set_option maxRecDepth 100000 in
theorem ready_small (k : ByteArray) (p : Option Addr) (n c : Nat) (ss : List ByteArray) (w : World) (hT : Tab w) (h0 : ¬ 4096 < k.size) (h1 : ¬ 30 < n) (hs : TextsIn w p n ss) :
    Calls Tryd.prog 5 #[.string k, .slice p n c] w fun e w' => e = .returned (.bool true) ∧ Below w.heap.size w w' := by
  have HT := Lib.hid hT
  have HS := Lib.hid hs
  have HK : Hid (k.size ≤ 4096) := Lib.hid (by omega)
  clear hT hs
  go_enter Tryd.func5, Tryd.ntmps5
  go_wp2_with fail
  refine (hnew_any k (by omega) w HT.out).mono ?_; rintro e w1 ⟨q, rfl, k1, hq, b1⟩
  have K1 := Lib.hid k1
  have B1 := Lib.hid b1
  have T1 := Lib.hid (HT.out.below b1)
  clear k1 b1 hq
  go_wp2_with fail
  go_loop [6] (fun i => ∃ j : Nat, j ≤ n ∧ i = .int .i64 j ∧ Hid (∀ i, i < j → (ss.getD i ⟨#[]⟩).size ≤ 4096)) (fun i => n - (intOf i).toNat)
  case atStart => exact ⟨0, by omega, rfl, Lib.hid (fun i hi => absurd hi (by omega))⟩
  case round =>
    obtain ⟨j, hj, rfl, hz⟩ := hrel
    by_cases hlt : j < n
    · obtain ⟨b, off, rfl, hc⟩ := (HS.out.below B1.out).2.resolve_left (by omega)
      have g1 := hc j hlt
      clear hc
      obtain ⟨y, hy⟩ : ∃ y, y = ss.getD j ⟨#[]⟩ := ⟨_, rfl⟩
      rw [← hy] at g1
      have HY := Lib.hid hy
      clear hy
      by_cases hy1 : 4096 < y.size
      · go_wp2_with fail
        refine (alive_any _ T1.out).mono ?_; rintro e w' ⟨rfl, hb⟩
        go_wp2_with fail
        go_ret
        exact ⟨rfl, below_step B1.out hb⟩
      · go_wp2_with fail
        go_round
        case rel =>
          refine ⟨j + 1, by omega, by go_num, Lib.hid (fun i hi => ?_)⟩
          by_cases e : i = j
          · rw [e, ← HY.out]; omega
          · exact hz.out i (by omega)
        case measure => simp [intOf]; omega
    · obtain rfl : j = n := by omega
      go_wp2_with fail
      go_loopw [7] (fun i wr => ∃ t : Nat, t ≤ j ∧ i = .int .i64 t ∧ Hid (KeyAt wr q (nums k)) ∧ Hid (Below w.heap.size w wr)) (fun i _ => j - (intOf i).toNat)
      case atStart => exact ⟨0, by omega, rfl, K1, B1⟩
      case round =>
        clear K1 B1 T1
        obtain ⟨t, ht, rfl, K, B⟩ := hrel
        have T := Lib.hid (HT.out.below B.out)
        by_cases hlt : t < j
        · obtain ⟨b, off, rfl, hc⟩ := (HS.out.below B.out).2.resolve_left (by omega)
          have g1 := hc t hlt
          have g0 := hc 0 (by omega)
          rw [Nat.add_zero] at g0
          clear hc
          have z1 := hz.out t hlt
          have z0 := hz.out 0 (by omega)
          generalize ss.getD t ⟨#[]⟩ = y at g1 z1
          generalize ss.getD 0 ⟨#[]⟩ = z at g0 z0
          obtain ⟨U, hU⟩ : ∃ U, U = bytesOf (tagOf (nums k) (nums y)) := ⟨_, rfl⟩
          obtain ⟨V, hV⟩ : ∃ V, V = bytesOf (tagOf (nums k) (nums z)) := ⟨_, rfl⟩
          have HU := Lib.hid (And.intro z1 hU)
          have HV := Lib.hid (And.intro z0 hV)
          have RS := rd_keep (w := w) ⟨g1, g0, T, K, B⟩ (drew_below wr)
          have q1 : (0 : Int) ≤ (t : Int) := by omega
          have q2 : (t : Int) < (j : Int) := by omega
          have q3 : (0 : Int) < (j : Int) := by omega
          have q4 : 0 < j := by omega
          clear hU hV z1 z0 g1 g0 T K B
          go_wp2_with fail
          go_region_held3 (fun W => W.cell? ⟨b, off + t, none⟩ = some (.string y) ∧ W.cell? ⟨b, off, none⟩ = some (.string z) ∧ Hid (Tab W) ∧ Hid (KeyAt W q (nums k)) ∧ Hid (Below w.heap.size w W)) (first | assumption | with_reducible exact rd_keep ‹_› ‹_›) (first
            | (go_at_call 11; with_reducible refine (rd_key y HU ‹_›).mono ?_; rintro e w3 ⟨rfl, hb3⟩)
            | (go_at_call 11; with_reducible refine (rd_key z HV ‹_›).mono ?_; rintro e w3 ⟨rfl, hb3⟩)
            | (go_at_call 9; with_reducible refine (rd_sum y HK HU ‹_›).mono ?_; rintro e w3 ⟨rfl, hb3⟩)
            | (go_at_call 9; with_reducible refine (rd_sum z HK HV ‹_›).mono ?_; rintro e w3 ⟨rfl, hb3⟩))
          go_wp2_with fail
          have hS : _ ∧ _ ∧ _ ∧ Hid (KeyAt w3 q (nums k)) ∧ Hid (Below w.heap.size w w3) := ‹_ ∧ _›
          exact ⟨⟨t + 1, by omega, by go_num, hS.2.2.2.1, hS.2.2.2.2⟩, by simp [intOf]; omega⟩
        · obtain rfl : t = j := by omega
          go_wp2_with fail
          refine (alive_any _ T.out).mono ?_; rintro e w' ⟨rfl, hb⟩
          go_wp2_with fail
          go_ret
          exact ⟨rfl, below_step B.out hb⟩
theorem ready_all (k : ByteArray) (p : Option Addr) (n c : Nat) (ss : List ByteArray) (w : World) (hT : Tab w) (hs : TextsIn w p n ss) :
    Calls Tryd.prog 5 #[.string k, .slice p n c] w fun e w' => e = .returned (.bool true) ∧ Below w.heap.size w w' := by
  by_cases h0 : 4096 < k.size
  · exact ready_large k p n c w hT (.inl h0)
  · by_cases h1 : 30 < n
    · exact ready_large k p n c w hT (.inr ⟨h0, h1⟩)
    · exact ready_small k p n c ss w hT h0 h1 hs
end Go.Proofs.YtghldnnnhlgmkaaDoor.Pl
