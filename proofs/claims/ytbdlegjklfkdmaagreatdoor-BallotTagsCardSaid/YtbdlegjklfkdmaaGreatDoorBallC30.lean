/- What term's Data, Atom, Num, ReadNum, termAt, join, Row, Hash, Mac and Seal answer. -/
import Derived.Test.YtbdlegjklfkdmaaGreatDoorBallC28
import Derived.Test.YtbdlegjklfkdmaaGreatDoorBallC15
namespace Go.Proofs.YtbdlegjklfkdmaaGreatDoor.Pl
open Go.RowKit

set_option maxRecDepth 100000 in
theorem data6_any (s : ByteArray) (hs : s.size ≤ 281474976710656) (w : World) :
    Calls Tryz.prog 73 #[.string s] w fun e w' => e = .returned (st2 (dataP (bl s))) ∧ Below w.heap.size w w' := by
  by_cases h : 1024 < s.size
  · have HZ : Hid (dataP (bl s) = ([], 5)) := Lib.hid (by unfold dataP; rw [bl_length]; exact if_pos h)
    have h' : (1024 : Int) < (s.size : Int) := by omega
    clear h
    go_enter Tryz.func73, Tryz.ntmps73
    go_wp2_with fail
    go_ret2
    exact ⟨by rw [HZ.out]; rfl, Below.refl _ _⟩
  · have HZ : Hid (dataP (bl s) = (100 :: txt (bl s), 0)) := Lib.hid (by unfold dataP; rw [bl_length]; exact if_neg h)
    have h' : ¬ (1024 : Int) < (s.size : Int) := by omega
    have HT := Lib.hid (fun V => text_any s V hs)
    rw [text_list] at HT
    have hcat : (⟨#[100]⟩ : ByteArray).size + (⟨(txt s.data.toList).toArray⟩ : ByteArray).size ≤ 9223372036854775807 := by
      have h4 : (⟨(txt s.data.toList).toArray⟩ : ByteArray).size = (txt s.data.toList).length := size_lit _
      have := txt_le s.data.toList
      have h2 : s.data.toList.length = s.size := bl_length s
      have h3 : (⟨#[100]⟩ : ByteArray).size = 1 := rfl
      omega
    have HC : Hid ((⟨#[100]⟩ ++ ⟨(txt s.data.toList).toArray⟩ : ByteArray) = ⟨(100 :: txt (bl s)).toArray⟩) := Lib.hid (cat_front _ _)
    generalize (⟨(txt s.data.toList).toArray⟩ : ByteArray) = t at *
    clear h hs
    go_enter Tryz.func73, Tryz.ntmps73
    go_wp2_with (go_at_call 112; refine (HT.out _).mono ?_; rintro e w1 ⟨rfl, b1⟩)
    go_ret2
    exact ⟨by rw [HZ.out, st2, ← HC.out]; rfl, b1⟩

set_option maxRecDepth 100000 in
theorem atom6_any (s : ByteArray) (hs : s.size ≤ 281474976710656) (w : World) :
    Calls Tryz.prog 187 #[.string s] w fun e w' => e = .returned (st2 (atomP (bl s))) ∧ Below w.heap.size w w' := by
  have HN := Lib.hid (fun V => isname_any s hs V)
  by_cases h : 32 < s.size
  · have HZ : Hid (atomP (bl s) = ([], 5)) := Lib.hid (by unfold atomP; rw [bl_length]; exact if_pos h)
    have h' : (32 : Int) < (s.size : Int) := by omega
    clear h
    go_enter Tryz.func187, Tryz.ntmps187
    go_wp2_with fail
    go_ret2
    exact ⟨by rw [HZ.out]; rfl, Below.refl _ _⟩
  · have h' : ¬ (32 : Int) < (s.size : Int) := by omega
    cases hno : nameOK (bl s) with
    | false =>
      have HZ : Hid (atomP (bl s) = ([], 7)) := Lib.hid (by unfold atomP; rw [bl_length, if_neg h, if_pos hno])
      rw [hno] at HN
      clear h hs hno
      go_enter Tryz.func187, Tryz.ntmps187
      go_wp2_with (go_at_call 160; refine (HN.out _).mono ?_; rintro e w1 ⟨rfl, b1⟩)
      go_ret2
      exact ⟨by rw [HZ.out]; rfl, b1⟩
    | true =>
      have HZ : Hid (atomP (bl s) = (97 :: txt (bl s), 0)) := Lib.hid (by unfold atomP; rw [bl_length, if_neg h, if_neg (by rw [hno]; decide)])
      rw [hno] at HN
      have HT := Lib.hid (fun V => text_any s V hs)
      rw [text_list] at HT
      have hcat : (⟨#[97]⟩ : ByteArray).size + (⟨(txt s.data.toList).toArray⟩ : ByteArray).size ≤ 9223372036854775807 := by
        have h4 : (⟨(txt s.data.toList).toArray⟩ : ByteArray).size = (txt s.data.toList).length := size_lit _
        have := txt_le s.data.toList
        have h2 : s.data.toList.length = s.size := bl_length s
        have h3 : (⟨#[97]⟩ : ByteArray).size = 1 := rfl
        omega
      have HC : Hid ((⟨#[97]⟩ ++ ⟨(txt s.data.toList).toArray⟩ : ByteArray) = ⟨(97 :: txt (bl s)).toArray⟩) := Lib.hid (cat_front _ _)
      generalize (⟨(txt s.data.toList).toArray⟩ : ByteArray) = t at *
      clear h hs hno
      go_enter Tryz.func187, Tryz.ntmps187
      go_wp2_with (first | (go_at_call 160; refine (HN.out _).mono ?_; rintro e w1 ⟨rfl, b1⟩) | (go_at_call 112; refine (HT.out _).mono ?_; rintro e w2 ⟨rfl, b2⟩))
      go_ret2
      exact ⟨by rw [HZ.out, st2, ← HC.out]; rfl, below_step b1 b2⟩

set_option maxRecDepth 100000 in
theorem num6_any (v : Int) (h0 : -9223372036854775808 ≤ v) (h1 : v ≤ 9223372036854775807) (w : World) :
    Calls Tryz.prog 28 #[.int .i64 v] w fun e w' => e = .returned (st2 (numP v)) ∧ Below w.heap.size w w' := by
  by_cases hn : v < 0
  · have HZ : Hid (numP v = ([], 2)) := Lib.hid (if_neg (by omega))
    go_enter Tryz.func28, Tryz.ntmps28
    go_wp2_with fail
    go_ret2
    exact ⟨by rw [HZ.out]; rfl, Below.refl _ _⟩
  · by_cases hm : 2147483647 < v
    · have HZ : Hid (numP v = ([], 2)) := Lib.hid (if_neg (by omega))
      go_enter Tryz.func28, Tryz.ntmps28
      go_wp2_with fail
      go_ret2
      exact ⟨by rw [HZ.out]; rfl, Below.refl _ _⟩
    · obtain ⟨n, rfl⟩ := Int.eq_ofNat_of_zero_le (show 0 ≤ v by omega)
      have HZ : Hid (numP (n : Int) = dataP (enc n)) := Lib.hid (by rw [dataP_enc]; exact if_pos ⟨by omega, by omega⟩)
      have hcv : ∀ V : World, (convert 3 108 (.int .i64 (n : Int))).run Tryz.prog V = .ok (.int .u64 (n : Int)) V := fun V => by
        have hw : IntKind.u64.wrap (n : Int) = (n : Int) := IntWalk.u64_in _ (by omega)
        go_simp
      have HN := Lib.hid (fun V => num_any n (by rw [two64]; omega) V)
      have HD := Lib.hid (fun V => data6_any ⟨(enc n).toArray⟩ (by rw [size_lit]; have := enc_len n; omega) V)
      rw [bl_mk] at HD
      generalize (⟨(enc n).toArray⟩ : ByteArray) = t at *
      clear h0 h1
      unfold st2 at HD
      go_enter Tryz.func28, Tryz.ntmps28
      go_wp2_with (first | (go_at_call 74; refine (HN.out _).mono ?_; rintro e w1 ⟨rfl, b1⟩) | (go_at_call 73; refine (HD.out _).mono ?_; rintro e w2 ⟨rfl, b2⟩))
      go_ret2
      exact ⟨by rw [HZ.out]; rfl, below_step b1 b2⟩

set_option maxHeartbeats 1000000 in
set_option maxRecDepth 100000 in
theorem termat_any (s : ByteArray) (p : Nat) (hp : p ≤ s.size) (hs : s.size ≤ 281474976710656) (w : World) :
    Calls Tryz.prog 65 #[.string s, .int .i64 p] w fun e w' => e = .returned (.string (s.extract p (p + (frontP ((bl s).drop p)).1))) ∧ Below w.heap.size w w' := by
  have sl : ∀ V : World, (Instr.sliceAt 9 (.string s) (some (.int .i64 (p : Int))) none none).run Tryz.prog V = .ok (.string (s.extract p s.size)) V := tslice_from s p hp
  have hx : bl (s.extract p s.size) = (bl s).drop p := bl_from s p
  have hxl : (s.extract p s.size).size + p = s.size := by rw [size_bl, hx, List.length_drop, bl_length]; omega
  rw [← hx]
  generalize s.extract p s.size = x at *
  have hle : (frontP (bl x)).1 ≤ x.size := by
    by_cases h0 : (frontP (bl x)).2 = 0
    · exact front_len x h0
    · have : (frontP (bl x)).1 = 0 := by
        unfold frontP at h0 ⊢
        split
        · split
          · rfl
          · rename_i h1 h2; rw [if_pos h1, if_neg h2] at h0; exact absurd h1 h0
        · rfl
      omega
  have HR := Lib.hid (fun V => read6_any x (by omega) V)
  generalize frontP (bl x) = fr at *
  obtain ⟨n, f⟩ := fr
  simp only at hle ⊢
  have sl2 : ∀ V : World, (Instr.sliceAt 9 (.string s) (some (.int .i64 (p : Int))) (some (.int .i64 ((p : Int) + (n : Int)))) none).run Tryz.prog V = .ok (.string (s.extract p (p + n))) V := fun V => tslice_mid s p (p + n) (by omega) (by omega) V
  have HC := Lib.hid (fun V => clone_any (s.extract p (p + n)) V (by rw [size_bl, bl_extract, List.length_drop, List.length_take, bl_length]; omega))
  generalize s.extract p (p + n) = y at *
  clear hx
  go_enter Tryz.func65, Tryz.ntmps65
  go_wp2_with (first | (go_at_call 106; refine (HR.out _).mono ?_; rintro e w1 ⟨rfl, b1⟩) | (go_at_call 35; refine (HC.out _).mono ?_; rintro e w2 ⟨rfl, b2⟩))
  go_ret
  exact ⟨rfl, below_step b1 b2⟩

end Go.Proofs.YtbdlegjklfkdmaaGreatDoor.Pl
