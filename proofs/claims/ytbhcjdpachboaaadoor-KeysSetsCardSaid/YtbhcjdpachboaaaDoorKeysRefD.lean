/- What a name says to the document's Read. -/
import Derived.Test.YtbhcjdpachboaaaDoorKeysRefB
namespace Go.Proofs.YtbhcjdpachboaaaDoor.Pl
open Go.RowKit

theorem res4 {P : Program} {fn : Func} {t u v x : Tmp} (h : fn.results = #[.tmp t, .tmp u, .tmp v, .tmp x]) (tmps : Array Value) (w : World) :
    (results fn tmps).run P w = .ok (.tuple #[tmps.getD t undef, tmps.getD u undef, tmps.getD v undef, tmps.getD x undef]) w := by
  simp [results, h]
/-- Four results: a kind, two numbers, whether it is a key's name. -/
def read4 (r : Nat × Nat × Nat × Bool) : Value := .tuple #[.int .u8 (r.1 : Int), .int .i64 (r.2.1 : Int), .int .i64 (r.2.2.1 : Int), .bool r.2.2.2]
theorem str_ne9 {a b : ByteArray} (h : a ≠ b) : (a.toList == b.toList) = false ∧ (a.toList != b.toList) = true := by
  have h' : a.toList ≠ b.toList := fun e => h (by
    rw [Lib.toList_data, Lib.toList_data] at e
    apply ByteArray.ext
    exact Array.ext' e)
  exact ⟨beq_eq_false_iff_ne.2 h', bne_iff_ne.2 h'⟩
theorem bl_nmT (c : UInt8) (x y : Nat) : bl (nmT c x y) = nm c x y := bl_mk _
theorem read_at {c : UInt8} (hc : c = 107 ∨ c = 115) {x y : Nat} (hxy : x ≤ y) (hy : y < 8) : readK (bl (nmT c x y)) = (if c = 107 then 1 else 2, x, y, true) := by
  rw [bl_nmT, read_nm hc (by omega) hy, Nat.min_eq_left hxy, Nat.max_eq_right hxy]
theorem read_no {s : ByteArray} (h : ∀ x y, x ≤ y → y < 8 → s ≠ nmT 107 x y ∧ s ≠ nmT 115 x y) : readK (bl s) = (0, 0, 0, false) :=
  read_not fun x y hx hy => ⟨fun e => (h x y hx hy).1 (bl_inj (by rw [bl_nmT]; exact e)), fun e => (h x y hx hy).2 (bl_inj (by rw [bl_nmT]; exact e))⟩
set_option maxHeartbeats 2000000 in
set_option maxRecDepth 100000 in
theorem rread9_any (s : ByteArray) (w : World) :
    Calls Tryd.prog 13 #[.string s] w fun e w' => e = .returned (read4 (readK (bl s))) ∧ Below w.heap.size w w' := by
  obtain ⟨Z, hZ⟩ : ∃ Z, Z = readK (bl s) := ⟨_, rfl⟩
  rw [← hZ]
  have HZ := Lib.hid hZ
  clear hZ
  go_enter Tryd.func13, Tryd.ntmps13
  go_wp2_with fail
  go_loopw [6] (fun iv wr => ∃ k : Nat, iv = .int .i64 k ∧ k ≤ 8 ∧ Hid (∀ x y, x < k → x ≤ y → y < 8 → s ≠ nmT 107 x y ∧ s ≠ nmT 115 x y) ∧ Hid (Below w.heap.size w wr)) (fun iv _ => 8 - (intOf iv).toNat)
  case atStart => exact ⟨0, rfl, Nat.zero_le _, Lib.hid (fun x y hx => absurd hx (by omega)), Lib.hid (Below.refl _ _)⟩
  case round =>
    obtain ⟨k, rfl, hk8, hno, hb⟩ := hrel
    by_cases hk : k < 8
    · have hk' : (k : Int) < 8 := by omega
      go_wp2_with fail
      go_loopw [7] (fun jv wr => ∃ j : Nat, jv = .int .i64 j ∧ k ≤ j ∧ j ≤ 8 ∧ Hid (∀ y, k ≤ y → y < j → s ≠ nmT 107 k y ∧ s ≠ nmT 115 k y) ∧ Hid (Below w.heap.size w wr)) (fun jv _ => 8 - (intOf jv).toNat)
      case atStart => exact ⟨k, rfl, Nat.le_refl _, hk8, Lib.hid (fun y h1 h2 => absurd h1 (by omega)), hb⟩
      case round =>
        obtain ⟨j, rfl, hkj, hj8, hno', hb'⟩ := hrel
        by_cases hj : j < 8
        · have hj' : (j : Int) < 8 := by omega
          have H1 := Lib.hid (fun V => rtag9_any k j V)
          have H2 := Lib.hid (fun V => rkseal9_any k j V)
          rw [nameK_ok 107 (by omega) hj] at H1
          rw [nameK_ok 115 (by omega) hj] at H2
          by_cases e1 : s = nmT 107 k j
          · have HR : Hid (Z = (1, k, j, true)) := Lib.hid (by rw [HZ.out, e1, read_at (.inl rfl) hkj hj]; rfl)
            rw [← e1] at H1
            generalize nmT 115 k j = t at *
            clear e1
            go_wp2_with fail
            refine (H1.out _).mono ?_; rintro e w1 ⟨rfl, b1⟩
            have B1 := Lib.hid (below_step hb'.out b1)
            clear b1
            go_wp2_with fail
            refine (H2.out _).mono ?_; rintro e w2 ⟨rfl, b2⟩
            have B2 := Lib.hid (below_step B1.out b2)
            clear b2
            go_wp2_with fail
            (try simp only [Exit.inBlock, Exit.then])
            refine bodyPost_ret (res4 rfl _ _) rfl ?_
            exact ⟨by rw [HR.out]; rfl, B2.out⟩
          · by_cases e2 : s = nmT 115 k j
            · have HR : Hid (Z = (2, k, j, true)) := Lib.hid (by rw [HZ.out, e2, read_at (.inr rfl) hkj hj]; rfl)
              rw [← e2] at H2
              obtain ⟨g1, g2⟩ := str_ne9 e1
              generalize nmT 107 k j = t at *
              clear e2 e1
              go_wp2_with fail
              refine (H1.out _).mono ?_; rintro e w1 ⟨rfl, b1⟩
              have B1 := Lib.hid (below_step hb'.out b1)
              clear b1
              go_wp2_with fail
              refine (H2.out _).mono ?_; rintro e w2 ⟨rfl, b2⟩
              have B2 := Lib.hid (below_step B1.out b2)
              clear b2
              go_wp2_with fail
              (try simp only [Exit.inBlock, Exit.then])
              refine bodyPost_ret (res4 rfl _ _) rfl ?_
              exact ⟨by rw [HR.out]; rfl, B2.out⟩
            · have HN : Hid (∀ y, k ≤ y → y < j + 1 → s ≠ nmT 107 k y ∧ s ≠ nmT 115 k y) := Lib.hid (fun y h1 h2 => by
                by_cases hy : y = j
                · subst hy; exact ⟨e1, e2⟩
                · exact hno'.out y h1 (by omega))
              obtain ⟨g1, g2⟩ := str_ne9 e1
              obtain ⟨g3, g4⟩ := str_ne9 e2
              generalize nmT 107 k j = t at *
              generalize nmT 115 k j = u at *
              clear e2 e1
              go_wp2_with fail
              refine (H1.out _).mono ?_; rintro e w1 ⟨rfl, b1⟩
              have B1 := Lib.hid (below_step hb'.out b1)
              clear b1
              go_wp2_with fail
              refine (H2.out _).mono ?_; rintro e w2 ⟨rfl, b2⟩
              have B2 := Lib.hid (below_step B1.out b2)
              clear b2
              go_wp2_with fail
              go_roundw
              case rel => exact ⟨j + 1, by go_num, by omega, by omega, HN, B2⟩
              case measure => simp [intOf]; omega
        · obtain rfl : j = 8 := by omega
          have HN : Hid (∀ x y, x < k + 1 → x ≤ y → y < 8 → s ≠ nmT 107 x y ∧ s ≠ nmT 115 x y) := Lib.hid (fun x y h1 h2 h3 => by
            by_cases hx : x = k
            · subst hx; exact hno'.out y h2 h3
            · exact hno.out x y (by omega) h2 h3)
          clear hj hj8
          go_wp2_with fail
          go_roundw
          case rel => exact ⟨k + 1, by go_num, by omega, HN, hb'⟩
          case measure => simp [intOf]; omega
    · obtain rfl : k = 8 := by omega
      have HR : Hid (Z = (0, 0, 0, false)) := Lib.hid (by rw [HZ.out]; exact read_no (fun x y hx hy => hno.out x y (by omega) hx hy))
      clear hk hk8
      go_wp2_with fail
      (try simp only [Exit.inBlock, Exit.then])
      refine bodyPost_ret (res4 rfl _ _) rfl ?_
      exact ⟨by rw [HR.out]; rfl, hb.out⟩
end Go.Proofs.YtbhcjdpachboaaaDoor.Pl
