/- Whose keys they are: what the document's Of, Known and List answer. -/
import Derived.Test.YtbhcjdpachboaaaDoorKeysRefA
import Derived.Test.YtbhcjdpachboaaaDoorKeysBase1
namespace Go.Proofs.YtbhcjdpachboaaaDoor.Pl
open Go.RowKit

/-- append(l, x...), where x are two texts in block g. -/
theorem wpList_two {ops : Array Oper} {rest : List Oper} {o : Oper} {a : Act} {Q : Exit → Act → World → Prop} {w : World} (hgd : o.guard = none) (s x : Operand)
    (ho : o.op = .call { callee := .builtin .append, args := #[s, x], argTypes := #[30, 30] })
    (B : Nat) (v : Value) (l : List ByteArray) (hs : a.eval s = v) (hown : OwnT w B v l) (hB : B ≤ w.heap.size) (g c : Nat) (y z : ByteArray) (hx : a.eval x = .slice (some ⟨g, 0, none⟩) 2 c)
    (h0 : w.cell? ⟨g, 0, none⟩ = some (.string y)) (h1 : w.cell? ⟨g, 1, none⟩ = some (.string z)) (hl : l.length ≤ 1000)
    (K : ∀ v' w', OwnT w' B v' (l ++ [y, z]) → Below B w w' → wpList Tryd.prog ops Q rest (a.put o.dst v') w') : wpList Tryd.prog ops Q (o :: rest) a w := by
  obtain ⟨i0, hi, hz0, hz1, hz2⟩ := info_parts infoStr
  refine wpList_append_own w hgd s x 30 ho B 9 i0 (.string ⟨#[]⟩) 1 16 Tryd.underlying30 hi hz0 hz1 hz2 rfl (by decide) v l.length (txts l) hs hown ⟨g, 0, none⟩ 2 c [.string y, .string z] hx rfl ?_ ?_ ?_ ?_ hB ?_
  · intro j u hj
    match j, hj with
    | 0, hj => simp at hj; subst hj; simpa [Addr.add] using h0
    | 1, hj => simp at hj; subst hj; simpa [Addr.add] using h1
    | (j + 2), hj => simp at hj
  · intro u hu; simp at hu; rcases hu with rfl | rfl <;> rfl
  · unfold maxLen; omega
  · omega
  · intro v' w' hown' hgrow _
    refine K v' w' ?_ ((Below.refl B w).grown hgrow hB (fun j hj => (hown.lt _ hj).1))
    unfold OwnT
    rw [show txts (l ++ [y, z]) = txts l ++ [.string y, .string z] by simp [txts], List.length_append]
    exact hown'
/-- What is handed back is a row of these texts that the call owns. -/
def GivesT (w : World) (l : List (List UInt8)) (e : Ending) (w' : World) : Prop := ∃ v L, e = .returned v ∧ OwnT w' w.heap.size v L ∧ L.map bl = l
theorem range_flat {α : Type} (f : Nat → List α) (k : Nat) : (List.range (k + 1)).flatMap f = (List.range k).flatMap f ++ f k := by
  rw [List.range_succ, List.flatMap_append]
  simp
theorem both_len (a k : Nat) : ((List.range k).flatMap (bothK a)).length = 2 * k := by
  induction k with
  | zero => rfl
  | succ k ih => rw [range_flat, List.length_append, ih]; simp [bothK]; omega

set_option maxHeartbeats 2000000 in
set_option maxRecDepth 100000 in
theorem rof9_any (a n : Int) (w : World) :
    Calls Tryd.prog 16 #[.int .i64 a, .int .i64 n] w fun e w' => GivesT w (ofK a n) e w' ∧ Below w.heap.size w w' := by
  by_cases h0 : n < 1
  · have hz : Hid (ofK a n = []) := Lib.hid (if_neg (fun e => by have := e.1; have := e.2.1; have := e.2.2.1; have := e.2.2.2; omega))
    generalize ofK a n = Z at *
    go_enter Tryd.func16, Tryd.ntmps16
    go_wp2_with fail
    go_ret
    exact ⟨⟨.slice none 0 0, [], rfl, ownT_nil _ _, hz.out.symm⟩, Below.refl _ _⟩
  by_cases h1 : 8 < n
  · have hz : Hid (ofK a n = []) := Lib.hid (if_neg (fun e => by have := e.1; have := e.2.1; have := e.2.2.1; have := e.2.2.2; omega))
    generalize ofK a n = Z at *
    go_enter Tryd.func16, Tryd.ntmps16
    go_wp2_with fail
    go_ret
    exact ⟨⟨.slice none 0 0, [], rfl, ownT_nil _ _, hz.out.symm⟩, Below.refl _ _⟩
  by_cases h2 : a < 0
  · have hz : Hid (ofK a n = []) := Lib.hid (if_neg (fun e => by have := e.1; have := e.2.1; have := e.2.2.1; have := e.2.2.2; omega))
    generalize ofK a n = Z at *
    go_enter Tryd.func16, Tryd.ntmps16
    go_wp2_with fail
    go_ret
    exact ⟨⟨.slice none 0 0, [], rfl, ownT_nil _ _, hz.out.symm⟩, Below.refl _ _⟩
  by_cases h3 : n ≤ a
  · have hz : Hid (ofK a n = []) := Lib.hid (if_neg (fun e => by have := e.1; have := e.2.1; have := e.2.2.1; have := e.2.2.2; omega))
    generalize ofK a n = Z at *
    go_enter Tryd.func16, Tryd.ntmps16
    go_wp2_with fail
    go_ret
    exact ⟨⟨.slice none 0 0, [], rfl, ownT_nil _ _, hz.out.symm⟩, Below.refl _ _⟩
  obtain ⟨x, rfl⟩ : ∃ x : Nat, a = x := ⟨a.toNat, by omega⟩
  obtain ⟨m, rfl⟩ : ∃ x : Nat, n = x := ⟨n.toNat, by omega⟩
  have hz : ofK x m = (List.range m).flatMap (bothK x) := if_pos ⟨by omega, by omega, by omega, by omega⟩
  rw [hz]
  clear hz
  go_enter Tryd.func16, Tryd.ntmps16
  go_wp2_with fail
  go_loopw [5, 6] (fun lv iv wr => ∃ (k : Nat) (D : List ByteArray), iv = .int .i64 k ∧ k ≤ m ∧ Hid (D.map bl = (List.range k).flatMap (bothK x)) ∧ Hid (OwnT wr w.heap.size lv D) ∧ Hid (Below w.heap.size w wr)) (fun _ iv _ => m - (intOf iv).toNat)
  case atStart => exact ⟨0, [], rfl, Nat.zero_le _, Lib.hid rfl, Lib.hid (ownT_nil _ _), Lib.hid (Below.refl _ _)⟩
  case round =>
    obtain ⟨k, D, rfl, hkn, hD, hown, hb⟩ := hrel
    by_cases hk : k < m
    · have hk' : (k : Int) < (m : Int) := by omega
      have HB := Lib.hid (rboth9_any x k (by omega) (by omega) wr)
      have HLN : Hid (D.length ≤ 1000) := Lib.hid (by
        have := congrArg List.length hD.out
        rw [List.length_map, both_len] at this
        omega)
      have HDN : Hid ((D ++ bothT x k).map bl = (List.range (k + 1)).flatMap (bothK x)) := Lib.hid (by rw [List.map_append, hD.out, bothT_bl, range_flat])
      go_wp2_with fail
      refine HB.out.mono ?_; rintro e w2 ⟨⟨g, rfl, c0, c1⟩, b2⟩
      have B2 := Lib.hid (below_step hb.out b2)
      have O2 := Lib.hid (ownT_below hown.out b2)
      clear b2
      go_wp2_with (at_builtin; refine wpList_two rfl _ _ rfl w.heap.size _ D rfl O2.out B2.out.size g 2 _ _ rfl c0 c1 HLN.out ?_; intro v' w3 ho hb3)
      have B3 := Lib.hid (B2.out.trans hb3)
      have O3 : Hid (OwnT w3 w.heap.size v' (D ++ bothT x k)) := Lib.hid ho
      clear ho hb3
      go_wp2_with fail
      go_roundw
      case rel => exact ⟨k + 1, D ++ bothT x k, by go_num, by omega, HDN, O3, B3⟩
      case measure => simp [intOf]; omega
    · obtain rfl : k = m := by omega
      clear hk hkn
      go_wp2_with fail
      go_ret
      exact ⟨⟨_, D, rfl, hown.out, hD.out⟩, hb.out⟩

theorem cell_len (s a b : Nat) : (cellK s a b).length ≤ 2 := by
  unfold cellK
  split
  · exact Nat.le_refl _
  · exact Nat.zero_le _
theorem flat_len {α : Type} (f : Nat → List α) (c : Nat) (hf : ∀ i, (f i).length ≤ c) (k : Nat) : ((List.range k).flatMap f).length ≤ c * k := by
  induction k with
  | zero => exact Nat.zero_le _
  | succ k ih =>
    rw [range_flat, List.length_append, Nat.mul_add, Nat.mul_one]
    have := hf k
    omega
theorem cell_low (s a k : Nat) (hk : k ≤ a) : (List.range k).flatMap (cellK s a) = [] := by
  induction k with
  | zero => rfl
  | succ k ih =>
    rw [range_flat, ih (by omega), cellK, if_neg (fun e => by have := e.1; omega)]
    rfl
set_option maxHeartbeats 4000000 in
set_option maxRecDepth 100000 in
theorem rknown9_any (s : Nat) (n : Int) (w : World) :
    Calls Tryd.prog 18 #[.int .u8 (s : Int), .int .i64 n] w fun e w' => GivesT w (knownK s n) e w' ∧ Below w.heap.size w w' := by
  by_cases h0 : n < 1
  · have hz : Hid (knownK s n = []) := Lib.hid (if_neg (fun e => by have := e.1; omega))
    generalize knownK s n = Z at *
    go_enter Tryd.func18, Tryd.ntmps18
    go_wp2_with fail
    go_ret
    exact ⟨⟨.slice none 0 0, [], rfl, ownT_nil _ _, hz.out.symm⟩, Below.refl _ _⟩
  by_cases h1 : 8 < n
  · have hz : Hid (knownK s n = []) := Lib.hid (if_neg (fun e => by have := e.2; omega))
    generalize knownK s n = Z at *
    go_enter Tryd.func18, Tryd.ntmps18
    go_wp2_with fail
    go_ret
    exact ⟨⟨.slice none 0 0, [], rfl, ownT_nil _ _, hz.out.symm⟩, Below.refl _ _⟩
  obtain ⟨m, rfl⟩ : ∃ x : Nat, n = x := ⟨n.toNat, by omega⟩
  have hz : knownK s m = (List.range m).flatMap (rowK s m) := if_pos ⟨by omega, by omega⟩
  have hm8 : m ≤ 8 := by omega
  rw [hz]
  clear hz
  go_enter Tryd.func18, Tryd.ntmps18
  go_wp2_with fail
  go_loopw [5, 6] (fun lv iv wr => ∃ (k : Nat) (D : List ByteArray), iv = .int .i64 k ∧ k ≤ m ∧ Hid (D.map bl = (List.range k).flatMap (rowK s m)) ∧ Hid (OwnT wr w.heap.size lv D) ∧ Hid (Below w.heap.size w wr)) (fun _ iv _ => m - (intOf iv).toNat)
  case atStart => exact ⟨0, [], rfl, Nat.zero_le _, Lib.hid rfl, Lib.hid (ownT_nil _ _), Lib.hid (Below.refl _ _)⟩
  case round =>
    obtain ⟨k, D, rfl, hkn, hD, hown, hb⟩ := hrel
    by_cases hk : k < m
    · have hk' : (k : Int) < (m : Int) := by omega
      go_wp2_with fail
      go_loopw [5, 7] (fun lv jv wr => ∃ (j : Nat) (E : List ByteArray), jv = .int .i64 j ∧ k ≤ j ∧ j ≤ m ∧ Hid (E.map bl = (List.range k).flatMap (rowK s m) ++ (List.range j).flatMap (cellK s k)) ∧ Hid (OwnT wr w.heap.size lv E) ∧ Hid (Below w.heap.size w wr)) (fun _ jv _ => m - (intOf jv).toNat)
      case atStart => exact ⟨k, D, rfl, Nat.le_refl _, hkn, Lib.hid (by rw [cell_low s k k (Nat.le_refl _), List.append_nil]; exact hD.out), hown, hb⟩
      case round =>
        obtain ⟨j, E, rfl, hkj, hjm, hE, hown', hb'⟩ := hrel
        by_cases hj : j < m
        · have hj' : (j : Int) < (m : Int) := by omega
          have HI1 := Lib.hid (rin9_any s (k : Int))
          have HI2 := Lib.hid (rin9_any s (j : Int))
          have HB := Lib.hid (fun V => rboth9_any k j (by omega) (by omega) V)
          have HLN : Hid (E.length ≤ 1000) := Lib.hid (by
            have h := congrArg List.length hE.out
            rw [List.length_map, List.length_append] at h
            have h1 := flat_len (rowK s m) 16 (fun i => by have := flat_len (cellK s i) 2 (cell_len s i) m; unfold rowK; omega) k
            have h2 := flat_len (cellK s k) 2 (cell_len s k) j
            omega)
          have HNXT : Hid (∀ F : List ByteArray, F.map bl = cellK s k j → (E ++ F).map bl = (List.range k).flatMap (rowK s m) ++ (List.range (j + 1)).flatMap (cellK s k)) := Lib.hid (fun F hF => by
            rw [List.map_append, hE.out, hF, range_flat, List.append_assoc])
          cases hs1 : setB s (k : Int) with
          | true =>
            rw [hs1] at HI1
            have HC : Hid ((bothT k j).map bl = cellK s k j) := Lib.hid (by rw [bothT_bl, cellK, if_pos ⟨hkj, .inl hs1⟩])
            have HN := Lib.hid (HNXT.out (bothT k j) HC.out)
            clear hs1 HI2 HNXT HC
            go_wp2_with fail
            refine (HI1.out _).mono ?_; rintro e w2 ⟨rfl, rfl⟩
            go_wp2_with fail
            refine (HB.out _).mono ?_; rintro e w2 ⟨⟨g, rfl, c0, c1⟩, b2⟩
            have B2 := Lib.hid (below_step hb'.out b2)
            have O2 := Lib.hid (ownT_below hown'.out b2)
            clear b2
            go_wp2_with (at_builtin; refine wpList_two rfl _ _ rfl w.heap.size _ E rfl O2.out B2.out.size g 2 _ _ rfl c0 c1 HLN.out ?_; intro v' w3 ho hb3)
            have B3 := Lib.hid (B2.out.trans hb3)
            have O3 : Hid (OwnT w3 w.heap.size v' (E ++ bothT k j)) := Lib.hid ho
            clear ho hb3
            go_wp2_with fail
            go_roundw
            case rel => exact ⟨j + 1, E ++ bothT k j, by go_num, by omega, by omega, HN, O3, B3⟩
            case measure => simp [intOf]; omega
          | false =>
            rw [hs1] at HI1
            cases hs2 : setB s (j : Int) with
            | true =>
              rw [hs2] at HI2
              have HC : Hid ((bothT k j).map bl = cellK s k j) := Lib.hid (by rw [bothT_bl, cellK, if_pos ⟨hkj, .inr hs2⟩])
              have HN := Lib.hid (HNXT.out (bothT k j) HC.out)
              clear hs1 hs2 HNXT HC
              go_wp2_with fail
              refine (HI1.out _).mono ?_; rintro e w2 ⟨rfl, rfl⟩
              go_wp2_with fail
              refine (HI2.out _).mono ?_; rintro e w2 ⟨rfl, rfl⟩
              go_wp2_with fail
              refine (HB.out _).mono ?_; rintro e w2 ⟨⟨g, rfl, c0, c1⟩, b2⟩
              have B2 := Lib.hid (below_step hb'.out b2)
              have O2 := Lib.hid (ownT_below hown'.out b2)
              clear b2
              go_wp2_with (at_builtin; refine wpList_two rfl _ _ rfl w.heap.size _ E rfl O2.out B2.out.size g 2 _ _ rfl c0 c1 HLN.out ?_; intro v' w3 ho hb3)
              have B3 := Lib.hid (B2.out.trans hb3)
              have O3 : Hid (OwnT w3 w.heap.size v' (E ++ bothT k j)) := Lib.hid ho
              clear ho hb3
              go_wp2_with fail
              go_roundw
              case rel => exact ⟨j + 1, E ++ bothT k j, by go_num, by omega, by omega, HN, O3, B3⟩
              case measure => simp [intOf]; omega
            | false =>
              rw [hs2] at HI2
              have HC : Hid (([] : List ByteArray).map bl = cellK s k j) := Lib.hid (by rw [cellK, if_neg (fun e => by rcases e.2 with e | e <;> simp [hs1, hs2] at e)]; rfl)
              have HN := Lib.hid (HNXT.out [] HC.out)
              rw [List.append_nil] at HN
              clear hs1 hs2 HNXT HC
              go_wp2_with fail
              refine (HI1.out _).mono ?_; rintro e w2 ⟨rfl, rfl⟩
              go_wp2_with fail
              refine (HI2.out _).mono ?_; rintro e w2 ⟨rfl, rfl⟩
              go_wp2_with fail
              go_roundw
              case rel => exact ⟨j + 1, E, by go_num, by omega, by omega, HN, hown', hb'⟩
              case measure => simp [intOf]; omega
        · obtain rfl : j = m := by omega
          have HN : Hid (E.map bl = (List.range (k + 1)).flatMap (rowK s j)) := Lib.hid (by rw [range_flat, hE.out]; rfl)
          clear hj hjm
          go_wp2_with fail
          go_roundw
          case rel => exact ⟨k + 1, E, by go_num, by omega, HN, hown', hb'⟩
          case measure => simp [intOf]; omega
    · obtain rfl : k = m := by omega
      clear hk hkn
      go_wp2_with fail
      go_ret
      exact ⟨⟨_, D, rfl, hown.out, hD.out⟩, hb.out⟩
end Go.Proofs.YtbhcjdpachboaaaDoor.Pl
