/- What suite.Nonce answers. -/
import Derived.Test.YtedidoeoomijjaaDoorSuiteOwn
import Derived.Laws.AppendOwn
import Derived.Test.YtedidoeoomijjaaDoorShaPadded
namespace Go.Proofs.YtedidoeoomijjaaDoor.Pl
open Go.RowKit

/-- What a nonce of three numbers is; an error, where one lies outside. -/
def inN (a : Int) : Prop := 0 ≤ a ∧ a ≤ 2147483647
instance (a : Int) : Decidable (inN a) := inferInstanceAs (Decidable (_ ∧ _))
def nonceP (a b d : Int) : List UInt8 × Nat :=
  if inN a ∧ inN b ∧ inN d then dataP (four8 a.toNat ++ four8 b.toNat ++ four8 d.toNat) else ([], 2)
/-- v is a row of these bytes that the call owns, from block B on. -/
def OwnB (w : World) (B : Nat) (v : Value) (l : List Nat) : Prop := w.ownsRow B 5 1 v l.length (u8s l)
def fourN (v : Nat) : List Nat := [v / 16777216, v / 65536 % 256, v / 256 % 256, v % 256]
def foursN : List Nat → List Nat
  | [] => []
  | v :: l => fourN v ++ foursN l
theorem foursN_len : ∀ l : List Nat, (foursN l).length = 4 * l.length
  | [] => rfl
  | v :: l => by rw [foursN, List.length_append, foursN_len l, List.length_cons]; simp [fourN]; omega
theorem foursN_append : ∀ a b : List Nat, foursN (a ++ b) = foursN a ++ foursN b
  | [], b => rfl
  | v :: l, b => by rw [List.cons_append, foursN, foursN, foursN_append l b, List.append_assoc]
theorem ownB_below {w w' : World} {B : Nat} {v : Value} {l : List Nat} (h : OwnB w B v l) (hb : Below w.heap.size w w') : OwnB w' B v l := by
  refine ⟨h.1, ?_⟩
  rcases h.2 with hn | ⟨g, cap, cur, hv, hbg, hg, rest⟩
  · exact .inl hn
  · exact .inr ⟨g, cap, cur, hv, hbg, (hb.block g (Array.getElem?_eq_some_iff.1 hg).1).trans hg, rest⟩
/-- Which number stands at which place. -/
def pickN (a b d : Int) : Nat → Int
  | 0 => a
  | 1 => b
  | _ => d
theorem pick_index (a b d : Int) (k : Nat) (hk : k < 3) (V : World) : (Instr.index 42 (.agg #[.int .i64 a, .int .i64 b, .int .i64 d]) (.int .i64 (k : Int))).run Tryd.prog V = .ok (.int .i64 (pickN a b d k)) V := by
  obtain rfl | rfl | rfl : k = 0 ∨ k = 1 ∨ k = 2 := by omega
  · kernel_rfl
  · kernel_rfl
  · kernel_rfl

theorem nonce_bad {a b d : Int} (k : Nat) (hk : k < 3) (h : ¬ inN (pickN a b d k)) : nonceP a b d = ([], 2) := by
  unfold nonceP
  obtain rfl | rfl | rfl : k = 0 ∨ k = 1 ∨ k = 2 := by omega
  · exact if_neg (fun e => h e.1)
  · exact if_neg (fun e => h e.2.1)
  · exact if_neg (fun e => h e.2.2)
theorem fours_byte (l : List Nat) (h : ∀ x ∈ l, x < 2147483648) : ∀ y ∈ foursN l, y < 256 := by
  induction l with
  | nil => intro y hy; cases hy
  | cons v l ih =>
    intro y hy
    rw [foursN, List.mem_append] at hy
    rcases hy with hy | hy
    · have hv := h v (by simp)
      simp only [fourN, List.mem_cons, List.not_mem_nil, or_false] at hy
      rcases hy with rfl | rfl | rfl | rfl <;> omega
    · exact ih (fun x hx => h x (by simp [hx])) y hy
theorem nonce_good {a b d : Int} {l : List Nat} (hl : l.length = 3) (hin : ∀ j, j < 3 → inN (pickN a b d j) ∧ l.getD j 0 = (pickN a b d j).toNat) :
    dataP (bl (bytesOf (foursN l))) = nonceP a b d ∧ ∀ j, (foursN l).getD j 0 < 256 := by
  match l, hl with
  | [x, y, z], _ =>
    have h0 := hin 0 (by decide)
    have h1 := hin 1 (by decide)
    have h2 := hin 2 (by decide)
    simp only [List.getD_cons_zero, List.getD_cons_succ, pickN] at h0 h1 h2
    refine ⟨?_, fun j => ?_⟩
    · unfold nonceP
      rw [if_pos ⟨h0.1, h1.1, h2.1⟩, ← h0.2, ← h1.2, ← h2.2]
      rfl
    · by_cases hj : j < (foursN [x, y, z]).length
      · rw [List.getD_eq_getElem?_getD, List.getElem?_eq_getElem hj, Option.getD_some]
        refine fours_byte _ ?_ _ (List.getElem_mem hj)
        intro u hu
        have k0 := h0.1.2
        have k1 := h1.1.2
        have k2 := h2.1.2
        simp only [List.mem_cons, List.not_mem_nil, or_false] at hu
        rcases hu with rfl | rfl | rfl <;> omega
      · rw [List.getD_eq_getElem?_getD, List.getElem?_eq_none (by omega)]; decide
theorem ownB_cells {w : World} {B : Nat} {v : Value} {l : List Nat} (h : OwnB w B v l) (hl : l.length = 12) : ∃ g cap, v = .slice (some ⟨g, 0, none⟩) 12 cap ∧ ∀ j, j < 12 → w.cell? ⟨g, j, none⟩ = some (.int .u8 ((l.getD j 0 : Nat) : Int)) := by
  rcases h.2 with ⟨hv, h0⟩ | ⟨g, cap, cur, hv, hbg, hg, rest⟩
  · omega
  · have h' := h
    unfold OwnB at h'
    rw [hv] at h'
    exact ⟨g, cap, by rw [hv, hl], fun j hj => by rw [h'.cellAt j (by omega), u8s_at l j (by omega)]⟩

set_option maxHeartbeats 4000000 in
set_option maxRecDepth 100000 in
theorem nonce8_any (a b d : Int) (w : World) :
    Calls Tryd.prog 7 #[.int .i64 a, .int .i64 b, .int .i64 d] w fun e w' => e = .returned (st2 (nonceP a b d)) ∧ Below w.heap.size w w' := by
  obtain ⟨i0, hi, hz0, hz1, hz2⟩ := info_parts info_u8
  have HI := Lib.hid hi
  obtain ⟨Z, hZ⟩ : ∃ Z, Z = nonceP a b d := ⟨_, rfl⟩
  rw [← hZ]
  have HZ := Lib.hid hZ
  clear hi hZ
  go_enter Tryd.func7, Tryd.ntmps7
  go_wp2_with fail
  go_loopw [8, 15] (fun lv iv wr => ∃ (k : Nat) (l : List Nat), iv = .int .i64 k ∧ k ≤ 3 ∧ Hid (l.length = k) ∧ Hid (∀ j, j < k → inN (pickN a b d j) ∧ l.getD j 0 = (pickN a b d j).toNat) ∧ Hid (OwnB wr w.heap.size lv (foursN l)) ∧ Hid (Below w.heap.size w wr)) (fun _ iv _ => 3 - (intOf iv).toNat)
  case atStart => exact ⟨0, [], rfl, Nat.zero_le _, Lib.hid rfl, Lib.hid (fun j hj => absurd hj (by omega)), Lib.hid (World.ownsRow_nil _ _ _ _), Lib.hid (Below.refl _ _)⟩
  case round =>
    obtain ⟨k, l, rfl, hk3, hl, hin, hown, hb⟩ := hrel
    by_cases hk : k < 3
    · have hix := pick_index a b d k hk
      obtain ⟨x, hx⟩ : ∃ x, x = pickN a b d k := ⟨_, rfl⟩
      rw [← hx] at hix
      have HX := Lib.hid hx
      have hk' : (k : Int) < 3 := by omega
      clear hx
      by_cases hi : inN x
      · obtain ⟨n, rfl⟩ : ∃ n : Nat, x = n := ⟨x.toNat, by have := hi.1; omega⟩
        have h0 : ¬ (n : Int) < 0 := by omega
        have h1 : ¬ (2147483647 : Int) < (n : Int) := by have := hi.2; omega
        have HIN := Lib.hid hi
        have HFL : Hid ((foursN l).length ≤ 12) := Lib.hid (by rw [foursN_len, hl.out]; omega)
        clear hi
        go_wp2_with (at_builtin; refine wpList_append_own _ rfl _ _ 41 rfl w.heap.size 5 i0 (.int .u8 0) 1 1 Tryd.underlying41 HI.out hz0 hz1 hz2 rfl (by decide) _ _ _ rfl (World.ownsRow.alloc hown.out _) ⟨wr.heap.size, 0, none⟩ 4 4 (u8s (fourN n)) rfl rfl ?c1 ?c2 ?c3 ?c4 ?c5 ?_)
        case c1 =>
          intro j u hj
          have e : u8s (fourN n) = [.int .u8 ((n : Int) / 16777216), .int .u8 ((n : Int) / 65536 % 256), .int .u8 ((n : Int) / 256 % 256), .int .u8 ((n : Int) % 256)] := by simp [u8s, fourN]
          rw [← e]; exact hj
        case c2 => intro u hu; simp [u8s, fourN] at hu; rcases hu with rfl | rfl | rfl | rfl <;> rfl
        case c3 => have := HFL.out; unfold maxLen; omega
        case c4 => have := HFL.out; omega
        case c5 => have := hb.out.size; omega
        intro v' w3 hown' hgrow _
        have HO : Hid (OwnB w3 w.heap.size v' (foursN (l ++ [n]))) := Lib.hid (by
          have h := hown'
          unfold OwnB
          rw [foursN_append, show foursN [n] = fourN n by simp [foursN], show u8s (foursN l ++ fourN n) = u8s (foursN l) ++ u8s (fourN n) by simp [u8s], List.length_append, show (fourN n).length = 4 from rfl]
          exact h)
        have B3 : Hid (Below w.heap.size w w3) := Lib.hid ((hb.out.alloc hb.out.size _).grown hgrow (by have := hb.out.size; simp; omega) (fun j hj => (hown.out.lt _ hj).1))
        have HL3 : Hid ((l ++ [n]).length = k + 1) := Lib.hid (by simp [hl.out])
        have HI3 : Hid (∀ j, j < k + 1 → inN (pickN a b d j) ∧ (l ++ [n]).getD j 0 = (pickN a b d j).toNat) := Lib.hid (fun j hj => by
          by_cases hjk : j < k
          · have h := hin.out j hjk
            refine ⟨h.1, ?_⟩
            rw [← h.2, List.getD_eq_getElem?_getD, List.getElem?_append_left (by rw [hl.out]; exact hjk), List.getD_eq_getElem?_getD]
          · obtain rfl : j = k := by omega
            rw [← HX.out]
            refine ⟨HIN.out, ?_⟩
            rw [List.getD_eq_getElem?_getD, List.getElem?_append_right (by rw [hl.out]; omega), hl.out, Nat.sub_self]
            rfl)
        clear hown' hgrow
        go_wp2_with fail
        go_roundw
        case rel => exact ⟨k + 1, l ++ [n], by go_num, by omega, HL3, HI3, HO, B3⟩
        case measure => simp [intOf]; omega
      · have HB : Hid (Z = ([], 2)) := Lib.hid (by rw [HZ.out]; exact nonce_bad k hk (by rw [← HX.out]; exact hi))
        by_cases h0 : x < 0
        · clear hi
          go_wp2_with fail
          go_ret2
          exact ⟨by rw [HB.out]; rfl, hb.out⟩
        · have h1 : (2147483647 : Int) < x := by
            apply Classical.byContradiction
            intro h
            exact hi ⟨by omega, by omega⟩
          clear hi
          go_wp2_with fail
          go_ret2
          exact ⟨by rw [HB.out]; rfl, hb.out⟩
    · obtain rfl : k = 3 := by omega
      obtain ⟨g, cap, rfl, hc⟩ : ∃ g cap, _ = Value.slice (some ⟨g, 0, none⟩) 12 cap ∧ ∀ j, j < 12 → wr.cell? ⟨g, j, none⟩ = some (.int .u8 (((foursN l).getD j 0 : Nat) : Int)) := ownB_cells hown.out (by rw [foursN_len, hl.out])
      have hv := nonce_good hl.out hin.out
      have hcv : (convert 41 9 (.slice (some ⟨g, 0, none⟩) 12 cap)).run Tryd.prog wr = .ok (.string (bytesOf (foursN l))) wr := by
        have h12 : (foursN l).length = 12 := by rw [foursN_len, hl.out]
        have := back_string wr g 0 cap (foursN l) hv.2 (fun j hj => by rw [Nat.zero_add]; exact hc j (by omega))
        rwa [h12] at this
      have HD := Lib.hid (data6_any (bytesOf (foursN l)) (by rw [bytesOf_size, foursN_len, hl.out]; decide) wr)
      rw [hv.1, ← HZ.out] at HD
      obtain ⟨r, x⟩ := Z
      unfold st2 at HD
      dsimp only at HD
      clear hk hk3 hc hv
      generalize bytesOf (foursN l) = y at *
      go_wp2_with fail
      refine HD.out.mono ?_; rintro e w2 ⟨rfl, b2⟩
      have B2 := Lib.hid (below_step hb.out b2)
      clear b2
      go_wp2_with fail
      go_ret2
      exact ⟨rfl, B2.out⟩
end Go.Proofs.YtedidoeoomijjaaDoor.Pl
