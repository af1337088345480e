/- The document's Decode of layer 12, of a row whose first part is no word. -/
import Derived.Test.YthemopejebioaaaGreatWireY24
namespace Go.Proofs.YthemopejebioaaaGreat.Pl
open Go.RowKit


set_option maxHeartbeats 8000000 in
set_option maxRecDepth 100000 in
theorem rdec_k0 (t : ByteArray) (ht : t.size ≤ 281474976710656) (p0 : ByteArray) (r : List ByteArray) (hp : partsB t = p0 :: r) (hk3 : kindP (bl t) = 3) (hw : ∀ k, 1 ≤ k ∧ k ≤ 6 → (textP (bl p0)).1 ≠ wordP k) (w : World) :
    Calls Tryz.prog 17 #[.string t] w (DecOut w (decP t)) := by
  have HP := fun V => rparts12_any t ht V
  have HK := fun V => rkind_any t ht V
  rw [hk3] at HK
  have HPS := Lib.hid (partsB_size t)
  have HPN := Lib.hid (partsB_len t)
  have HDN : True → Hid (decP t = none) := fun h => Lib.hid (dec_wordless hp hw)
  have hp0 : p0.size ≤ 16384 := HPS.out p0 (by rw [hp]; simp)
  have HT := fun V => rtext6_any p0 (by omega) V
  rw [show tb2 (textP (bl p0)) = .tuple #[.string (tb (textP (bl p0)).1), .bool (textP (bl p0)).2] from rfl] at HT
  rw [hp] at HP HPS HPN
  obtain ⟨W0, hW0⟩ : ∃ V, V = w.alloc (.cells #[.int .u8 0, .int .i64 0, .int .i64 0, .int .i64 0, .int .i64 0, .slice none 0 0, .string ⟨#[]⟩, .bool false, .string ⟨#[]⟩] 26) := ⟨_, rfl⟩
  have B0 : Hid (Below w.heap.size w W0) := Lib.hid (by rw [hW0]; exact (Below.refl _ _).alloc (Nat.le_refl _) _)
  have R0 : Hid (W0.heap[w.heap.size]? = some (.cells #[.int .u8 0, .int .i64 0, .int .i64 0, .int .i64 0, .int .i64 0, .slice none 0 0, .string ⟨#[]⟩, .bool false, .string ⟨#[]⟩] 26 (0, 0))) := Lib.hid (by rw [hW0]; exact Go.heap_alloc_new _ _)
  have HW0 := Lib.hid hW0
  obtain ⟨n, hn⟩ : ∃ n, n = (p0 :: r).length := ⟨_, rfl⟩
  rw [← hn] at HP
  have HN := Lib.hid hn
  have hn0 : (((n : Nat) : Int) == 0) = false := beq_eq_false_iff_ne.2 (by rw [hn]; simp only [List.length_cons]; omega)
  have hnp : (0 : Int) < (n : Int) := by rw [hn]; simp only [List.length_cons]; omega
  generalize (textP (bl p0)).2 = ist at *
  generalize (partsP (bl t)).2 = isp at *
  have HP := Lib.hid HP
  have HK := Lib.hid HK
  clear hW0 hn hp hk3 hp0
  generalize (textP (bl p0)).1 = wv at *
  have HT := Lib.hid HT
  go_enter Tryz.func17, Tryz.ntmps17
  go_wp2_with fail
  rw [← HW0.out]
  refine (HP.out _).mono ?_; rintro e1 w1 ⟨ao, cap, rfl, hcap, hrow, b1⟩
  obtain ⟨pb, off, rfl, hlt, hcs⟩ := txt_cells12 hrow (by simp)
  have L1 : Hid (DecL w pb off (p0 :: r) w1) := Lib.hid ⟨hcs, hlt, (b1.block _ (Array.getElem?_eq_some_iff.1 R0.out).1).trans R0.out, below_step B0.out b1⟩
  clear hcap hrow b1 hlt hcs HW0 HP
  go_wp2_with fail
  refine (HK.out _).mono ?_; rintro e2 w2 ⟨rfl, b2⟩
  have L2 := Lib.hid (L1.out.later b2)
  have q0 := L2.out.row 0 (by simp)
  rw [show (p0 :: r : List ByteArray)[0] = p0 from rfl, Nat.add_zero] at q0
  clear b2 L1 HK
  go_wp2_with fail
  refine (HT.out _).mono ?_; rintro e3 w3 ⟨rfl, b3⟩
  have L3 := Lib.hid (L2.out.later b3)
  clear b3 L2 q0 HT
  go_wp2_with fail
  go_loopw [8] (fun iv wr => ∃ j : Nat, iv = .int .u8 j ∧ 1 ≤ j ∧ j ≤ 7 ∧ Hid (True) ∧ Hid (DecL w pb off (p0 :: r) wr)) (fun iv _ => 7 - (intOf iv).toNat)
  case atStart => exact ⟨1, rfl, by decide, by decide, Lib.hid (trivial), L3⟩
  case round =>
    obtain ⟨j, rfl, hj1, hj7, hst, HL⟩ := hrel
    by_cases hj6 : j ≤ 6
    · have hj' : (j : Int) ≤ 6 := by omega
      obtain ⟨hne, hne2⟩ := str_ne12 (show tb (wordP j) ≠ tb wv from fun e => hw j ⟨hj1, hj6⟩ (tb_inj e).symm)
      have hne3 : ¬ (tb (wordP j)).toList = (tb wv).toList := fun e => by rw [e] at hne; simp at hne
      have HW := Lib.hid (fun V => rword_any j V)
      generalize tb (wordP j) = wj at *
      generalize tb wv = wk at *
      go_wp2_with fail
      refine (HW.out _).mono ?_; rintro e4 w4 ⟨rfl, hw4⟩; rw [hw4]; clear hw4 w4
      go_wp2_with fail
      go_roundw
      case rel => exact ⟨j + 1, by (first | go_num | (simp only [IntKind.wrap_u8']; congr 1; omega)), by omega, by omega, Lib.hid (trivial), HL⟩
      case measure => simp [intOf] <;> omega
    · obtain rfl : j = 7 := by omega
      have hz : decP t = none := (HDN (trivial)).out
      go_wp2_with (refine wpList_store_row rfl 26 _ _ rfl w.heap.size #[.int .u8 0, .int .i64 0, .int .i64 0, .int .i64 0, .int .i64 0, .slice none 0 0, .string ⟨#[]⟩, .bool false, .string ⟨#[]⟩] rfl rfl 26 #[.int .u8 0, .int .i64 0, .int .i64 0, .int .i64 0, .int .i64 0, .slice none 0 0, .string ⟨#[]⟩, .bool false, .string ⟨#[]⟩] HL.out.res (ms_info _ _ _ _ _ _ _ _ _) rfl (ms_one9 _ _ _ _ _ _ _ _ _ _ _) ?_)
      refine bodyPost_ret (results_row_tmp (fn := Tryz.f17) (p := 2) (u := 3) (ty := 26) rfl _ _ w.heap.size 26 #[.int .u8 0, .int .i64 0, .int .i64 0, .int .i64 0, .int .i64 0, .slice none 0 0, .string ⟨#[]⟩, .bool false, .string ⟨#[]⟩] (0, 0) _ rfl (setRow_heap _ _ _ _ _ _ HL.out.res) Tryz.underlying26 rfl (ms_info _ _ _ _ _ _ _ _ _)) rfl ?_
      rw [hz]
      exact HL.out.none
end Go.Proofs.YthemopejebioaaaGreat.Pl
