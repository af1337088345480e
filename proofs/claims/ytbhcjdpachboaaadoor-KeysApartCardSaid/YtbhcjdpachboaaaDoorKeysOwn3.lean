/- What a name says to the program's own Read. -/
import Derived.Test.YtbhcjdpachboaaaDoorKeysOwn2
namespace Go.Proofs.YtbhcjdpachboaaaDoor.Pl
open Go.RowKit

theorem five_of (s : ByteArray) (h : s.size = 5) : ∃ c p x q y, s = ⟨#[c, p, x, q, y]⟩ := by
  obtain ⟨⟨l⟩⟩ := s
  have h' : l.length = 5 := h
  match l, h' with
  | [c, p, x, q, y], _ => exact ⟨c, p, x, q, y, rfl⟩
/-- Where the two digits say who they are: the number told by a digit. -/
def numB (x : UInt8) : Int := (x.toNat : Int) - 48
theorem read_five {c p x q y d : UInt8} (hd : d = 107 ∨ d = 115) (h : nameK d (numB x) (numB y) = ([c, p, x, q, y], 0)) :
    ∃ i j : Nat, numB x = i ∧ numB y = j ∧ readK [c, p, x, q, y] = (if d = 107 then 1 else 2, i, j, true) := by
  obtain ⟨h1, h2, h3⟩ := nameK_in h
  unfold inO numB at h1 h2
  have hm := congrArg (fun l => l.getD 2 0) h3
  have hM := congrArg (fun l => l.getD 4 0) h3
  have e1 : x = UInt8.ofNat (48 + min (numB x).toNat (numB y).toNat) := hm
  have e2 : y = UInt8.ofNat (48 + max (numB x).toNat (numB y).toNat) := hM
  have e1 := congrArg UInt8.toNat e1
  have e2 := congrArg UInt8.toNat e2
  rw [UInt8.toNat_ofNat'] at e1 e2
  unfold numB at e1 e2
  refine ⟨(numB x).toNat, (numB y).toNat, by unfold numB; omega, by unfold numB; omega, ?_⟩
  rw [h3, read_nm hd (by unfold numB; omega) (by unfold numB; omega)]
  unfold numB
  rw [Nat.min_eq_left (by omega), Nat.max_eq_right (by omega)]
theorem read_none {c p x q y : UInt8} (h1 : nameK 107 (numB x) (numB y) ≠ ([c, p, x, q, y], 0)) (h2 : nameK 115 (numB x) (numB y) ≠ ([c, p, x, q, y], 0)) : readK [c, p, x, q, y] = (0, 0, 0, false) := by
  refine read_not fun i j hij hj => ?_
  have key : ∀ d : UInt8, nameK d (numB x) (numB y) ≠ ([c, p, x, q, y], 0) → [c, p, x, q, y] ≠ nm d i j := by
    intro d hne e
    apply hne
    have hm := congrArg (fun l => l.getD 2 0) e
    have hM := congrArg (fun l => l.getD 4 0) e
    have e1 : x = UInt8.ofNat (48 + min i j) := hm
    have e2 : y = UInt8.ofNat (48 + max i j) := hM
    have e1 := congrArg UInt8.toNat e1
    have e2 := congrArg UInt8.toNat e2
    rw [UInt8.toNat_ofNat'] at e1 e2
    have a1 : numB x = i := by unfold numB; omega
    have a2 : numB y = j := by unfold numB; omega
    rw [a1, a2, e]
    unfold nameK
    rw [if_pos ⟨⟨by omega, by omega⟩, by omega, by omega⟩]
    rfl
  exact ⟨key 107 h1, key 115 h2⟩
theorem read_short {l : List UInt8} (h : l.length ≠ 5) : readK l = (0, 0, 0, false) := by
  unfold readK
  split
  · exact absurd rfl h
  · rfl
theorem num_at (x : UInt8) : wrap64 (wrap64 (x.toNat : Int) - 48) = numB x := by
  have h := x.toNat_lt
  unfold numB wrap64
  omega
theorem kinds_at0 (V : World) : (Instr.index 51 (.agg #[.int .u8 1, .int .u8 2]) (.int .i64 0)).run Tryd.prog V = .ok (.int .u8 1) V := by kernel_rfl
theorem kinds_at1 (V : World) : (Instr.index 51 (.agg #[.int .u8 1, .int .u8 2]) (.int .i64 1)).run Tryd.prog V = .ok (.int .u8 2) V := by kernel_rfl
set_option maxHeartbeats 2000000 in
set_option maxRecDepth 100000 in
theorem kread_any (s : ByteArray) (hs : s.size ≤ 1000) (w : World) (hT : KeyTab w) : Calls Tryd.prog 12 #[.string s] w fun e w' => e = .returned (read4 (readK (bl s))) ∧ Below w.heap.size w w' := by
  by_cases h5 : s.size = 5
  · obtain ⟨c, p, x, q, y, rfl⟩ := five_of s h5
    have T0 := Lib.hid hT
    have hk0 := hT.1.2.1
    have hk1 := hT.1.2.2
    have H1 := Lib.hid (fun V h => shared_any 1 107 (.inl ⟨rfl, rfl⟩) (numB x) (numB y) V h)
    have H2 := Lib.hid (fun V h => shared_any 2 115 (.inr ⟨rfl, rfl⟩) (numB x) (numB y) V h)
    have X2 := num_at x
    have Y2 := num_at y
    have YES : Hid (∀ d : UInt8, (d = 107 ∨ d = 115) → nameK d (numB x) (numB y) = ([c, p, x, q, y], 0) → read4 (readK (bl ⟨#[c, p, x, q, y]⟩)) = .tuple #[.int .u8 (if d = 107 then 1 else 2), .int .i64 (numB x), .int .i64 (numB y), .bool true]) := Lib.hid (fun d hd h => by
      obtain ⟨i, j, e1, e2, e3⟩ := read_five hd h
      rw [show bl ⟨#[c, p, x, q, y]⟩ = [c, p, x, q, y] from rfl, e3, e1, e2]
      unfold read4
      rcases hd with rfl | rfl <;> rfl)
    have NO : Hid (nameK 107 (numB x) (numB y) ≠ ([c, p, x, q, y], 0) → nameK 115 (numB x) (numB y) ≠ ([c, p, x, q, y], 0) → read4 (readK (bl ⟨#[c, p, x, q, y]⟩)) = .tuple #[.int .u8 0, .int .i64 0, .int .i64 0, .bool false]) := Lib.hid (fun h1 h2 => by
      rw [show bl ⟨#[c, p, x, q, y]⟩ = [c, p, x, q, y] from rfl, read_none h1 h2]
      rfl)
    generalize read4 (readK (bl ⟨#[c, p, x, q, y]⟩)) = Z at *
    clear h5 hs hT
    go_enter Tryd.func12, Tryd.ntmps12
    go_wp2_with fail
    go_quiet (fail)
    go_wp2_with fail
    rw [show (({ data := #[c, p, x, q, y] } : ByteArray)[2]'(by show 2 < 5; decide)) = x from rfl, show (({ data := #[c, p, x, q, y] } : ByteArray)[4]'(by show 4 < 5; decide)) = y from rfl, X2, Y2]
    generalize numB x = A at *
    generalize numB y = B at *
    clear X2 Y2
    have TW : Hid (KeyTab (w.drewN nq)) := Lib.hid (T0.out.below (below_drewN (Below.refl _ _) nq))
    have BW : Hid (Below w.heap.size w (w.drewN nq)) := Lib.hid (below_drewN (Below.refl _ _) nq)
    generalize w.drewN nq = W at *
    clear hk0 hk1
    obtain ⟨R1, hR1⟩ : ∃ R, R = nameK 107 A B := ⟨_, rfl⟩
    obtain ⟨R2, hR2⟩ : ∃ R, R = nameK 115 A B := ⟨_, rfl⟩
    have Y1 := Lib.hid (YES.out 107 (.inl rfl))
    have Y2 := Lib.hid (YES.out 115 (.inr rfl))
    rw [← hR1] at H1 Y1 NO
    rw [← hR2] at H2 Y2 NO
    clear hR1 hR2 YES
    obtain ⟨l1, e1⟩ := R1
    obtain ⟨l2, e2⟩ := R2
    unfold st2 at H1 H2
    dsimp only at H1 H2
    have N1 : Hid (⟨l1.toArray⟩ ≠ (⟨#[c, p, x, q, y]⟩ : ByteArray) → l1 ≠ [c, p, x, q, y]) := Lib.hid (fun h e => h (by rw [e]))
    have N2 : Hid (⟨l2.toArray⟩ ≠ (⟨#[c, p, x, q, y]⟩ : ByteArray) → l2 ≠ [c, p, x, q, y]) := Lib.hid (fun h e => h (by rw [e]))
    have M1 : Hid (⟨l1.toArray⟩ = (⟨#[c, p, x, q, y]⟩ : ByteArray) → l1 = [c, p, x, q, y]) := Lib.hid (fun h => by
      have := congrArg (fun b : ByteArray => b.data.toList) h
      simpa using this)
    have M2 : Hid (⟨l2.toArray⟩ = (⟨#[c, p, x, q, y]⟩ : ByteArray) → l2 = [c, p, x, q, y]) := Lib.hid (fun h => by
      have := congrArg (fun b : ByteArray => b.data.toList) h
      simpa using this)
    generalize (⟨#[c, p, x, q, y]⟩ : ByteArray) = t at *
    generalize (⟨l1.toArray⟩ : ByteArray) = t1 at *
    generalize (⟨l2.toArray⟩ : ByteArray) = t2 at *
    go_loopw [24] (fun iv wr => ∃ k : Nat, iv = .int .i64 k ∧ k ≤ 2 ∧ Hid (1 ≤ k → (l1, e1) ≠ ([c, p, x, q, y], 0)) ∧ Hid (2 ≤ k → (l2, e2) ≠ ([c, p, x, q, y], 0)) ∧ Hid (Below w.heap.size w wr) ∧ Hid (KeyTab wr)) (fun iv _ => 2 - (intOf iv).toNat)
    case atStart => exact ⟨0, rfl, Nat.zero_le _, Lib.hid (fun h => absurd h (by decide)), Lib.hid (fun h => absurd h (by decide)), BW, TW⟩
    case round =>
      clear BW TW T0
      obtain ⟨k, rfl, hk2, n1, n2, hb, hT⟩ := hrel
      have i0 := kinds_at0 wr
      have i1 := kinds_at1 wr
      obtain rfl | rfl | rfl : k = 0 ∨ k = 1 ∨ k = 2 := by omega
      · by_cases he : e1 = 0
        · subst he
          by_cases ht : t1 = t
          · have HZ := Lib.hid (Y1.out (by rw [M1.out ht]))
            subst ht
            clear hk2
            go_wp2_with fail
            refine (H1.out _ hT.out).mono ?_; rintro e w1 ⟨rfl, b1⟩
            have B1 := Lib.hid (below_step hb.out b1)
            clear b1
            go_wp2_with fail
            (try simp only [Exit.inBlock, Exit.then])
            refine bodyPost_ret (res4 rfl _ _) rfl ?_
            exact ⟨by rw [HZ.out]; rfl, B1.out⟩
          · obtain ⟨g1, g2⟩ := str_ne9 ht
            have HN : Hid ((l1, 0) ≠ ([c, p, x, q, y], 0)) := Lib.hid (fun e => N1.out ht (congrArg Prod.fst e))
            clear hk2 ht
            go_wp2_with fail
            refine (H1.out _ hT.out).mono ?_; rintro e w1 ⟨rfl, b1⟩
            have B1 := Lib.hid (below_step hb.out b1)
            have T1 := Lib.hid (hT.out.below b1)
            clear b1
            go_wp2_with fail
            go_roundw
            case rel => exact ⟨1, by go_num, by decide, Lib.hid (fun _ => HN.out), Lib.hid (fun h => absurd h (by decide)), B1, T1⟩
            case measure => simp [intOf]
        · have q1 : ((e1 : Int) == 0) = false := by rw [beq_eq_false_iff_ne]; omega
          have HN : Hid ((l1, e1) ≠ ([c, p, x, q, y], 0)) := Lib.hid (fun e => he (congrArg Prod.snd e))
          clear hk2 he
          go_wp2_with fail
          refine (H1.out _ hT.out).mono ?_; rintro e w1 ⟨rfl, b1⟩
          have B1 := Lib.hid (below_step hb.out b1)
          have T1 := Lib.hid (hT.out.below b1)
          clear b1
          go_wp2_with fail
          go_roundw
          case rel => exact ⟨1, by go_num, by decide, Lib.hid (fun _ => HN.out), Lib.hid (fun h => absurd h (by decide)), B1, T1⟩
          case measure => simp [intOf]
      · by_cases he : e2 = 0
        · subst he
          by_cases ht : t2 = t
          · have HZ := Lib.hid (Y2.out (by rw [M2.out ht]))
            subst ht
            clear hk2
            go_wp2_with fail
            refine (H2.out _ hT.out).mono ?_; rintro e w1 ⟨rfl, b1⟩
            have B1 := Lib.hid (below_step hb.out b1)
            clear b1
            go_wp2_with fail
            (try simp only [Exit.inBlock, Exit.then])
            refine bodyPost_ret (res4 rfl _ _) rfl ?_
            exact ⟨by rw [HZ.out]; rfl, B1.out⟩
          · obtain ⟨g1, g2⟩ := str_ne9 ht
            have HN : Hid ((l2, 0) ≠ ([c, p, x, q, y], 0)) := Lib.hid (fun e => N2.out ht (congrArg Prod.fst e))
            clear hk2 ht
            go_wp2_with fail
            refine (H2.out _ hT.out).mono ?_; rintro e w1 ⟨rfl, b1⟩
            have B1 := Lib.hid (below_step hb.out b1)
            have T1 := Lib.hid (hT.out.below b1)
            clear b1
            go_wp2_with fail
            go_roundw
            case rel => exact ⟨2, by go_num, by decide, Lib.hid (fun _ => n1.out (by decide)), Lib.hid (fun _ => HN.out), B1, T1⟩
            case measure => simp [intOf]
        · have q1 : ((e2 : Int) == 0) = false := by rw [beq_eq_false_iff_ne]; omega
          have HN : Hid ((l2, e2) ≠ ([c, p, x, q, y], 0)) := Lib.hid (fun e => he (congrArg Prod.snd e))
          clear hk2 he
          go_wp2_with fail
          refine (H2.out _ hT.out).mono ?_; rintro e w1 ⟨rfl, b1⟩
          have B1 := Lib.hid (below_step hb.out b1)
          have T1 := Lib.hid (hT.out.below b1)
          clear b1
          go_wp2_with fail
          go_roundw
          case rel => exact ⟨2, by go_num, by decide, Lib.hid (fun _ => n1.out (by decide)), Lib.hid (fun _ => HN.out), B1, T1⟩
          case measure => simp [intOf]
      · have HZ := Lib.hid (NO.out (n1.out (by decide)) (n2.out (by decide)))
        clear hk2
        go_wp2_with fail
        (try simp only [Exit.inBlock, Exit.then])
        refine bodyPost_ret (res4 rfl _ _) rfl ?_
        exact ⟨by rw [HZ.out]; rfl, hb.out⟩
  · have hl : (bl s).length ≠ 5 := by rw [bl_length]; exact h5
    rw [read_short hl]
    have q : ¬ (s.size : Int) = 5 := by omega
    have q2 : ((s.size : Int) != 5) = true := by rw [bne_iff_ne]; exact q
    clear hl hT h5 hs
    go_enter Tryd.func12, Tryd.ntmps12
    go_wp2_with fail
    (try simp only [Exit.inBlock, Exit.then])
    refine bodyPost_ret (res4 rfl _ _) rfl ?_
    exact ⟨rfl, Below.refl _ _⟩
end Go.Proofs.YtbhcjdpachboaaaDoor.Pl
