/- What the program's own List answers. -/
import Derived.Test.YtbhcjdpachboaaaDoorKeysOwn1
import Derived.Test.YtbhcjdpachboaaaDoorKeysRefC
namespace Go.Proofs.YtbhcjdpachboaaaDoor.Pl
open Go.RowKit

theorem list_among (s : Nat) (n : Int) : listK s n = (List.range (amongK n).toNat).filter (fun (a : Nat) => setB s (a : Int)) := by
  unfold listK amongK
  by_cases h : 1 ≤ n ∧ n ≤ 8
  · rw [if_pos h, if_pos h]
  · rw [if_neg h, if_neg h]
    rfl
theorem among_nat (n : Int) : ∃ m : Nat, amongK n = (m : Int) ∧ m ≤ 8 := by
  unfold amongK
  split
  · exact ⟨n.toNat, by omega, by omega⟩
  · exact ⟨0, rfl, by decide⟩
set_option maxHeartbeats 2000000 in
set_option maxRecDepth 100000 in
theorem klist_any (s : Nat) (hs : s < 256) (n : Int) (w : World) : Calls Tryd.prog 22 #[.int .u8 (s : Int), .int .i64 n] w fun e w' => GivesI w (listK s n) e w' ∧ Below w.heap.size w w' := by
  obtain ⟨i0, hi, hz0, hz1, hz2⟩ := info_parts infoInt
  have HI0 := Lib.hid hi
  clear hi
  rw [list_among]
  have HM := Lib.hid (among_any n)
  have HIN := Lib.hid (fun k V => kin0_any s hs k V)
  obtain ⟨m, hm, hm8⟩ := among_nat n
  rw [hm, Int.toNat_natCast]
  rw [hm] at HM
  clear hm hs
  go_enter Tryd.func22, Tryd.ntmps22
  go_wp2_with fail
  refine (HM.out _).mono ?_; rintro e w1 ⟨rfl, rfl⟩
  go_wp2_with fail
  go_loopw [5, 9] (fun lv iv wr => ∃ k : Nat, iv = .int .i64 k ∧ k ≤ m ∧ Hid (OwnI wr w.heap.size lv ((List.range k).filter (fun (a : Nat) => setB s (a : Int)))) ∧ Hid (Below w.heap.size w wr)) (fun _ iv _ => m - (intOf iv).toNat)
  case atStart => exact ⟨0, rfl, Nat.zero_le _, Lib.hid (by rw [List.range_zero, List.filter_nil]; exact World.ownsRow_nil _ _ _ _), Lib.hid (Below.refl _ _)⟩
  case round =>
    obtain ⟨k, rfl, hkn, hown, hb⟩ := hrel
    by_cases hk : k < m
    · have hk' : (k : Int) < (m : Int) := by omega
      have HS := Lib.hid (HIN.out (k : Int))
      have HF := Lib.hid (range_filter (fun (a : Nat) => setB s (a : Int)) k)
      have HLN := Lib.hid (filter_len (fun (a : Nat) => setB s (a : Int)) k)
      generalize hl : (List.range k).filter (fun (a : Nat) => setB s (a : Int)) = l at *
      cases hs : setB s (k : Int) with
      | true =>
        rw [hs] at HS
        have HF2 : Hid ((List.range (k + 1)).filter (fun (a : Nat) => setB s (a : Int)) = l ++ [k]) := Lib.hid (by rw [HF.out, if_pos hs])
        clear hs HF hl
        go_wp2_with fail
        refine (HS.out _).mono ?_; rintro e w2 ⟨rfl, rfl⟩
        go_wp2_with (at_builtin; refine wpList_append_own _ rfl _ _ 35 rfl w.heap.size 3 i0 (.int .i64 0) 1 8 Tryd.underlying35 HI0.out hz0 hz1 hz2 rfl (by decide) _ _ _ rfl (World.ownsRow.alloc hown.out _) ⟨_, 0, none⟩ 1 1 [.int .i64 (k : Int)] rfl rfl ?c1 ?c2 ?c3 ?c4 ?c5 ?_)
        case c1 =>
          intro j u hj
          match j, hj with
          | 0, hj => simp at hj; subst hj; simp [Addr.add]
          | (j + 1), hj => simp at hj
        case c2 => intro u hu; simp at hu; subst hu; rfl
        case c3 => have := HLN.out; unfold maxLen; omega
        case c4 => have := HLN.out; omega
        case c5 => have := hb.out.size; simp; omega
        intro v' w3 hown' hgrow _
        have HO : Hid (OwnI w3 w.heap.size v' ((List.range (k + 1)).filter (fun (a : Nat) => setB s (a : Int)))) := Lib.hid (by
          rw [HF2.out]
          unfold OwnI
          rw [List.map_append, List.length_append]
          exact hown')
        have B3 : Hid (Below w.heap.size w w3) := Lib.hid ((hb.out.alloc hb.out.size _).grown hgrow (by have := hb.out.size; simp; omega) (fun j hj => (hown.out.lt _ hj).1))
        clear hown' hgrow
        go_wp2_with fail
        go_roundw
        case rel => exact ⟨k + 1, by go_num, by omega, HO, B3⟩
        case measure => simp [intOf]; omega
      | false =>
        rw [hs] at HS
        have hf : (List.range (k + 1)).filter (fun (a : Nat) => setB s (a : Int)) = l := by rw [HF.out, if_neg (by simp [hs]), List.append_nil]
        have HO := hown
        rw [← hf] at HO
        clear hf
        clear hs HF hl
        go_wp2_with fail
        refine (HS.out _).mono ?_; rintro e w2 ⟨rfl, rfl⟩
        go_wp2_with fail
        go_roundw
        case rel => exact ⟨k + 1, by go_num, by omega, HO, hb⟩
        case measure => simp [intOf]; omega
    · obtain rfl : k = m := by omega
      clear hk hkn
      go_wp2_with fail
      go_ret
      exact ⟨⟨_, rfl, hown.out⟩, hb.out⟩
end Go.Proofs.YtbhcjdpachboaaaDoor.Pl
