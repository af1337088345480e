/- What long and Same answer of rows of texts that came in, and Begins of two texts. -/
import Derived.Test.YtdddmaobmdinbaaCommon
import Derived.Test.YtdddmaobmdinbaaPlainb
import Derived.Test.YtdddmaobmdinbaaProg
import Derived.WalkSpells
import Derived.WalkLawsBesides
import Derived.Handy
import Derived.BigQuiet
import Derived.Deep.QuietTactic
import Derived.Lib.Hide
import Derived.Lib.Strings
namespace Go.Proofs.Ytdddmaobmdinbaa.Pl
open Go.RowKit

/-- How many bytes the texts have together. -/
def tot (ss : List ByteArray) : Nat := (ss.map (·.size)).sum
theorem tot_nil : tot [] = 0 := rfl
theorem tot_take_succ (ss : List ByteArray) (j : Nat) (h : j < ss.length) : tot (ss.take (j + 1)) = tot (ss.take j) + (ss.getD j ⟨#[]⟩).size := by
  unfold tot
  rw [List.take_succ_eq_append_getElem h, List.map_append, List.sum_append]
  have e : ss.getD j ⟨#[]⟩ = ss[j] := by simp [List.getD, h]
  rw [e]; rfl
theorem tot_take_le (ss : List ByteArray) (j : Nat) : tot (ss.take j) ≤ tot ss := by
  unfold tot
  conv => rhs; rw [← List.take_append_drop j ss, List.map_append, List.sum_append]
  omega
def longB (ss : List ByteArray) : Bool := decide (8192 < tot ss) || decide (300 < ss.length)

/-- A row of texts in memory: n places from off on in block b. -/
def TextsAt (w : World) (b off n : Nat) (ss : List ByteArray) : Prop := ss.length = n ∧ ∀ i, i < n → w.cell? ⟨b, off + i, none⟩ = some (.string (ss.getD i ⟨#[]⟩))
theorem TextsAt.below {w w' : World} {b off n : Nat} {ss : List ByteArray} (h : TextsAt w b off n ss) (hb : Below w.heap.size w w') : TextsAt w' b off n ss :=
  ⟨h.1, fun i hi => (hb.cell (p := ⟨b, off + i, none⟩) (World.block_lt_of_cell? _ _ (h.2 i hi))).trans (h.2 i hi)⟩

set_option maxRecDepth 100000 in
theorem long_empty (a : Option Addr) (cap : Nat) (w : World) :
    Calls Try.prog 13 #[.slice a 0 cap] w fun e w' => e = .returned (.bool (longB [])) ∧ w = w' := by
  go_enter Try.func13, Try.ntmps13
  go_wp2
  go_rounds 1
  go_ret
  exact ⟨rfl, rfl⟩
set_option maxRecDepth 100000 in
theorem long_any (b off n cap : Nat) (ss : List ByteArray) (w : World) (h : TextsAt w b off n ss) (hn : n ≤ 9223372036854775807) :
    Calls Try.prog 13 #[.slice (some ⟨b, off, none⟩) n cap] w fun e w' => e = .returned (.bool (longB ss)) ∧ w = w' := by
  have H := Lib.hid h
  clear h
  go_enter Try.func13, Try.ntmps13
  go_wp2
  go_loop [3, 4] (fun t i => ∃ j : Nat, j ≤ n ∧ i = .int .i64 j ∧ t = .int .i64 (tot (ss.take j)) ∧ tot (ss.take j) ≤ 8192) (fun _ i => n - (intOf i).toNat)
  case atStart => exact ⟨0, Nat.zero_le _, rfl, rfl, by simp [tot]⟩
  case round =>
    obtain ⟨j, hj, rfl, rfl, ht⟩ := hrel
    by_cases hlt : j < n
    · have hcell := H.out.2 j hlt
      have HT := Lib.hid (tot_take_succ ss j (by rw [H.out.1]; exact hlt))
      have HL := Lib.hid (tot_take_le ss (j + 1))
      generalize hx : ss.getD j ⟨#[]⟩ = x at hcell HT
      clear hx
      by_cases hx8 : 8192 < x.size
      · go_wp2
        go_ret
        refine ⟨?_, rfl⟩
        have h1 := HT.out
        have h2 := HL.out
        have : longB ss = true := by simp [longB]; omega
        rw [this]; rfl
      · by_cases hs8 : 8192 < tot (ss.take j) + x.size
        · go_wp2
          go_ret
          refine ⟨?_, rfl⟩
          have h1 := HT.out
          have h2 := HL.out
          have : longB ss = true := by simp [longB]; omega
          rw [this]; rfl
        · go_wp2
          go_round
          case rel => exact ⟨j + 1, by omega, by go_num, by rw [HT.out]; go_num, by rw [HT.out]; omega⟩
          case measure => simp [intOf]; omega
    · obtain rfl : j = n := by omega
      have hall : ss.take j = ss := List.take_of_length_le (by rw [H.out.1]; exact Nat.le_refl _)
      go_wp2
      go_ret
      refine ⟨?_, rfl⟩
      have h1 := H.out.1
      rw [hall] at ht
      have e : longB ss = decide (300 < (j : Int)) := by
        unfold longB
        rw [h1]
        have : decide (8192 < tot ss) = false := by simp; omega
        rw [this]
        by_cases h3 : 300 < j <;> simp [h3] <;> omega
      rw [e]; rfl

set_option maxRecDepth 100000 in
theorem begins_any (s t : ByteArray) (w : World) (r : Bool) (hr : decide (s.data.toList.take t.size = t.data.toList) = r) :
    Calls Try.prog 23 #[.string s, .string t] w fun e w' => e = .returned (.bool r) ∧ w = w' := by
  by_cases h : t.size ≤ s.size
  · have hc : (s.extract 0 t.size).toList = s.data.toList.take t.size := by
      rw [ByteArray.toList_eq, Lib.extract_data]; simp
    have hd : (s.data.toList.take t.size == t.toList) = r := by
      rw [← hr, ByteArray.toList_eq]
      by_cases h : s.data.toList.take t.size = t.data.toList <;> simp [h]
    clear hr
    go_enter Try.func23, Try.ntmps23
    go_wp2
    go_ret
    exact ⟨rfl, rfl⟩
  · have : r = false := by
      rw [← hr]
      simp
      intro he
      have := congrArg List.length he
      simp at this
      omega
    subst this
    clear hr
    go_enter Try.func23, Try.ntmps23
    go_wp2
    go_ret
    exact ⟨rfl, rfl⟩

theorem ret_bool {a b : Bool} (h : a = b) : Ending.returned (.bool a) = .returned (.bool b) := by rw [h]
theorem same_ne (a1 a2 : Option Addr) (n m c1 c2 : Nat) (w : World) (hne : n ≠ m) :
    Calls Try.prog 22 #[.slice a1 n c1, .slice a2 m c2] w fun e w' => e = .returned (.bool false) ∧ Below w.heap.size w w' := by
  have h : ((n : Int) != m) = true := by rw [bne_iff_ne]; omega
  go_enter Try.func22, Try.ntmps22
  go_wp2
  go_ret
  exact ⟨rfl, Below.refl _ _⟩
theorem same_empty (a1 a2 : Option Addr) (c1 c2 : Nat) (w : World) :
    Calls Try.prog 22 #[.slice a1 0 c1, .slice a2 0 c2] w fun e w' => e = .returned (.bool true) ∧ Below w.heap.size w w' := by
  go_enter Try.func22, Try.ntmps22
  go_wp2
  go_rounds 1
  go_ret
  exact ⟨rfl, Below.refl _ _⟩
theorem bytes_eq {x y : ByteArray} (h : x.toList = y.toList) : x = y := by
  rw [ByteArray.toList_eq, ByteArray.toList_eq] at h
  exact ByteArray.ext (Array.toList_inj.1 h)
theorem take_eq_succ {ss ts : List ByteArray} {j : Nat} (hs : j < ss.length) (ht : j < ts.length) (h : ss.take j = ts.take j) (hx : ss.getD j ⟨#[]⟩ = ts.getD j ⟨#[]⟩) : ss.take (j + 1) = ts.take (j + 1) := by
  rw [List.take_succ_eq_append_getElem hs, List.take_succ_eq_append_getElem ht, h]
  simp [List.getD, hs, ht] at hx
  rw [hx]
set_option maxHeartbeats 400000 in
set_option maxRecDepth 100000 in
theorem same_any (b off c1 b2 off2 c2 n : Nat) (ss ts : List ByteArray) (w : World) (hn : n ≤ 9223372036854775807) (h1 : TextsAt w b off n ss) (h2 : TextsAt w b2 off2 n ts) (r : Bool) (hr : decide (ss = ts) = r) :
    Calls Try.prog 22 #[.slice (some ⟨b, off, none⟩) n c1, .slice (some ⟨b2, off2, none⟩) n c2] w fun e w' => e = .returned (.bool r) ∧ Below w.heap.size w w' := by
  have H1 := Lib.hid h1
  have H2 := Lib.hid h2
  have HR := Lib.hid hr
  clear h1 h2 hr
  go_enter Try.func22, Try.ntmps22
  go_wp2
  go_loopw [5] (fun i wr => ∃ j : Nat, j ≤ n ∧ i = .int .i64 j ∧ ss.take j = ts.take j ∧ Below w.heap.size w wr) (fun i _ => n - (intOf i).toNat)
  case atStart => exact ⟨0, Nat.zero_le _, rfl, rfl, Below.refl _ _⟩
  case round =>
    obtain ⟨j, hj, rfl, hpre, hbel⟩ := hrel
    have HP := Lib.hid hpre
    clear hpre
    by_cases hlt : j < n
    · have g1 := (H1.out.below hbel).2 j hlt
      have g2 := (H2.out.below hbel).2 j hlt
      have HE := Lib.hid (take_eq_succ (ss := ss) (ts := ts) (j := j) (by rw [H1.out.1]; exact hlt) (by rw [H2.out.1]; exact hlt) HP.out)
      have HX : Hid (∀ x, ss.getD j ⟨#[]⟩ = x → ts.getD j ⟨#[]⟩ ≠ x → ss ≠ ts) := fun x e1 e2 e => e2 (by rw [← e]; exact e1)
      generalize hx : ss.getD j ⟨#[]⟩ = x at g1 HE HX
      generalize hy : ts.getD j ⟨#[]⟩ = y at g2 HE HX
      clear hx hy
      have q1 : (0 : Int) ≤ (j : Int) := by omega
      have q2 : (j : Int) < (n : Int) := by omega
      by_cases hxy : x.toList = y.toList
      · have f : (x.toList == y.toList) = true := by rw [beq_iff_eq]; exact hxy
        have HXY := Lib.hid (bytes_eq hxy)
        clear hxy
        go_wp2
        go_quiet (fail)
        go_wp2
        exact ⟨⟨j + 1, by omega, by go_num, HE.out HXY.out, below_drewN hbel _⟩, by simp [intOf]; omega⟩
      · have f : (x.toList == y.toList) = false := by rw [beq_eq_false_iff_ne]; exact hxy
        have HXY : Hid (y ≠ x) := fun e => hxy (by rw [e])
        clear hxy
        go_wp2
        go_quiet (fail)
        go_wp2
        go_ret
        exact ⟨ret_bool (by rw [← HR.out]; exact (decide_eq_false (HX.out x rfl HXY.out)).symm), below_drewN hbel _⟩
    · obtain rfl : j = n := by omega
      go_wp2
      go_ret
      refine ⟨ret_bool ?_, hbel⟩
      have h := HP.out
      rw [List.take_of_length_le (by rw [H1.out.1]; exact Nat.le_refl _), List.take_of_length_le (by rw [H2.out.1]; exact Nat.le_refl _)] at h
      rw [← HR.out]
      exact (decide_eq_true h).symm
end Go.Proofs.Ytdddmaobmdinbaa.Pl
