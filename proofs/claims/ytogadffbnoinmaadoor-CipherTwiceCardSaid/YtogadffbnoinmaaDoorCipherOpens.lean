/- CipherOpens answers true, whatever it is given. -/
import Derived.Test.YtogadffbnoinmaaDoorCipherRef
import Derived.Test.YtogadffbnoinmaaDoorCipherAlive
namespace Go.Proofs.YtogadffbnoinmaaDoor.Pl
open Go.RowKit

theorem cut_at (x : ByteArray) (m : Nat) (h : m ≤ x.size) : x.extract 0 m ++ x.extract m x.size = x := by
  apply ByteArray.ext
  have h' : m ≤ x.data.size := h
  simp
theorem ext_size (x : ByteArray) (a b : Nat) (h : b ≤ x.size) : (x.extract a b).size = b - a := by
  simp [Nat.min_eq_left h]
theorem shown_nums (key y : ByteArray) : nums (shown key y) = hide (skey (nums key)) (nums (y.extract 0 12)) (nums (y.extract 12 y.size)) := by
  unfold shown
  exact nums_bytesOf (hide_bytes _ _ (nums_bytes _))
theorem shown_size (key y : ByteArray) : (shown key y).size = y.size - 12 := by
  unfold shown
  rw [bytesOf_size, hide_length, nums_length, ext_size _ _ _ (Nat.le_refl _)]
/-- What is opened is what would be sealed. -/
theorem reseal (key x : ByteArray) (h : 44 ≤ x.size) (hf : Fits key x) : bytesOf (sealedL (nums key) (nums (x.extract 0 12)) (nums (shown key (hidOf x)))) = x := by
  have hy : (hidOf x).size = x.size - 32 := by unfold hidOf; rw [ext_size _ _ _ (Nat.sub_le _ _)]; omega
  have e1 : x.extract 0 12 = (hidOf x).extract 0 12 := (extract_extract x _ 0 12 (by omega)).symm
  have e2 : nums (x.extract 0 12) ++ hide (skey (nums key)) (nums (x.extract 0 12)) (nums (shown key (hidOf x))) = nums (hidOf x) := by
    rw [shown_nums, e1, hide_hide, ← nums_append, cut_at _ _ (by omega)]
  have e3 : tagOf (tkey (nums key)) (nums (hidOf x)) = nums (tagAt x) := by
    rw [hf, nums_bytesOf (tagOf_bytes _ _)]
  have e4 : hidOf x ++ tagAt x = x := by unfold hidOf tagAt; exact cut_at _ _ (Nat.sub_le _ _)
  rw [sealedL, hiddenL, e2, e3, ← nums_append, e4, bytesOf_nums]

set_option maxHeartbeats 1000000 in
set_option maxRecDepth 100000 in
theorem opens_all (key x : ByteArray) (w : World) (hT : Tab w) :
    Calls Tryd.prog 4 #[.string key, .string x] w fun e w' => e = .returned (.bool true) ∧ Below w.heap.size w w' := by
  have HT := Lib.hid hT
  by_cases hg : Large key ⟨#[]⟩ x
  · have HG := Lib.hid hg
    clear hT hg
    go_enter Tryd.func4, Tryd.ntmps4
    go_wp2_with fail
    refine (long_yes key ⟨#[]⟩ x HG.out w).mono ?_; rintro e w1 ⟨rfl, rfl⟩
    go_wp2_with fail
    refine (alive_any4 w HT.out).mono ?_; rintro e w1 ⟨rfl, b1⟩
    have B1 := Lib.hid b1
    clear b1
    go_wp2_with fail
    go_ret
    exact ⟨rfl, B1.out⟩
  · have HG := Lib.hid (not_large hg)
    by_cases h44 : x.size < 44
    · have HS := Lib.hid h44
      clear hT hg h44
      go_enter Tryd.func4, Tryd.ntmps4
      go_wp2_with fail
      refine (long_no key ⟨#[]⟩ x HG.out w).mono ?_; rintro e w1 ⟨rfl, rfl⟩
      go_wp2_with fail
      refine (open_end key x HS.out w).mono ?_; rintro e w1 ⟨rfl, rfl⟩
      go_wp2_with fail
      refine (ropen_end key x HS.out w).mono ?_; rintro e w1 ⟨rfl, rfl⟩
      go_wp2_with fail
      refine (alive_any4 w HT.out).mono ?_; rintro e w3 ⟨rfl, b3⟩
      have B3 := Lib.hid b3
      clear b3
      go_wp2_with fail
      go_ret
      exact ⟨rfl, B3.out⟩
    · by_cases hf : Fits key x
      · have S1 := Lib.hid (open_fits key x (by have := HG.out; omega) (by omega) (by have := HG.out; omega) hf w hT)
        have S2 := Lib.hid (fun V => ropen_fits key x (by have := HG.out; omega) (by omega) (by have := HG.out; omega) hf V)
        have hy : (hidOf x).size = x.size - 32 := by unfold hidOf; rw [ext_size _ _ _ (Nat.sub_le _ _)]; omega
        have S3 := Lib.hid (fun V hV => seal_any key (x.extract 0 12) (shown key (hidOf x)) (by have := HG.out; omega) (by rw [ext_size _ _ _ (by omega)]) (by rw [shown_size _ _]; have := HG.out; omega) V hV)
        have HX := Lib.hid (reseal key x (by omega) hf)
        have hs3 : ∀ V, (Instr.sliceAt 9 (.string x) none (some (.int .i64 12)) none).run Tryd.prog V = .ok (.string (x.extract 0 12)) V := slice_to x 12 (by omega)
        generalize shown key (hidOf x) = A at *
        generalize x.extract 0 12 = n at *
        clear hT hg hf hy h44
        go_enter Tryd.func4, Tryd.ntmps4
        go_wp2_with fail
        refine (long_no key ⟨#[]⟩ x HG.out w).mono ?_; rintro e w1 ⟨rfl, rfl⟩
        go_wp2_with fail
        refine S1.out.mono ?_; rintro e w1 ⟨rfl, b1⟩
        have B1 := Lib.hid b1
        clear b1
        go_wp2_with fail
        refine (S2.out w1).mono ?_; rintro e w2 ⟨rfl, b2⟩
        have B2 := Lib.hid (below_step B1.out b2)
        clear b2
        go_wp2_with fail
        refine (S3.out w2 (HT.out.below B2.out)).mono ?_; rintro e w3 ⟨rfl, b3⟩
        have B3 := Lib.hid (below_step B2.out b3)
        rw [HX.out]
        clear b3
        go_wp2_with fail
        refine (alive_any4 w3 (HT.out.below B3.out)).mono ?_; rintro e w4 ⟨rfl, b4⟩
        have B4 := Lib.hid (below_step B3.out b4)
        clear b4
        go_wp2_with fail
        go_ret
        exact ⟨rfl, B4.out⟩
      · have S1 := Lib.hid (open_unfit key x (by have := HG.out; omega) (by omega) (by have := HG.out; omega) hf w hT)
        have S2 := Lib.hid (fun V => ropen_unfit key x (by have := HG.out; omega) (by omega) (by have := HG.out; omega) hf V)
        clear hT hg hf h44
        go_enter Tryd.func4, Tryd.ntmps4
        go_wp2_with fail
        refine (long_no key ⟨#[]⟩ x HG.out w).mono ?_; rintro e w1 ⟨rfl, rfl⟩
        go_wp2_with fail
        refine S1.out.mono ?_; rintro e w1 ⟨rfl, b1⟩
        have B1 := Lib.hid b1
        clear b1
        go_wp2_with fail
        refine (S2.out w1).mono ?_; rintro e w2 ⟨rfl, b2⟩
        have B2 := Lib.hid (below_step B1.out b2)
        clear b2
        go_wp2_with fail
        refine (alive_any4 w2 (HT.out.below B2.out)).mono ?_; rintro e w3 ⟨rfl, b3⟩
        have B3 := Lib.hid (below_step B2.out b3)
        clear b3
        go_wp2_with fail
        go_ret
        exact ⟨rfl, B3.out⟩
end Go.Proofs.YtogadffbnoinmaaDoor.Pl
