/- The program's own run of steps: need, valid, parts, and what it throws. -/
import Derived.Test.YtpajcalfjfkogaaForgeF10
import Derived.Test.YtpajcalfjfkogaaForgeF11
import Derived.Deep.RegionHeld3
namespace Go.Proofs.Ytpajcalfjfkogaa.Pl
open Go.RowKit

/-- What is thrown. -/
abbrev boom11 (c : Nat) : Ending := .panicked [{ v := .iface 27 (.int .i64 c), recovered := false }]
theorem need11_ok (c : Nat) (w : World) : Calls Try.prog 40 #[.bool true, .int .i64 c] w fun x w' => x = .returned (.tuple #[]) ∧ w' = w := by
  go_enter Try.func40, Try.ntmps40
  go_wp2
  go_end0
  exact ⟨rfl, rfl⟩
theorem need11_bad (c : Nat) (w : World) : Calls Try.prog 40 #[.bool false, .int .i64 c] w fun x w' => x = boom11 c ∧ w' = w := by
  go_enter Try.func40, Try.ntmps40
  go_wp2
  exact ⟨rfl, rfl, rfl⟩
theorem valid11_ok (t : ByteArray) (w : World) : Calls Try.prog 90 #[.string t, .int .i64 0] w fun x w' => x = .returned (.string t) ∧ w' = w := by
  go_enter Try.func90, Try.ntmps90
  go_wp2_with (go_at_call 40; refine (need11_ok 5 _).mono ?_; rintro e w2 ⟨rfl, rfl⟩)
  go_ret
  exact ⟨rfl, rfl⟩
theorem valid11_bad (t : ByteArray) (e : Nat) (he : e ≠ 0) (w : World) : Calls Try.prog 90 #[.string t, .int .i64 e] w fun x w' => x = boom11 5 ∧ w' = w := by
  have hz : ((e : Int) == 0) = false := by rw [beq_eq_false_iff_ne]; omega
  go_enter Try.func90, Try.ntmps90
  go_wp2_with (go_at_call 40; refine (need11_bad 5 _).mono ?_; rintro e w2 ⟨rfl, rfl⟩)
  exact ⟨rfl, rfl, rfl⟩
/-- In a drawn region: a callee that throws ends the way; what would follow need not be shown. -/
theorem calls_boom {P : Program} {f : FuncId} {args : Array Value} {w : World} {e0 : Ending} {Post : Ending → World → Prop} (v : Value) (h : Calls P f args w fun e w' => e = e0 ∧ w' = w) (main : Post e0 w) (_rest : Hid False → Post (.returned v) w) : Calls P f args w Post :=
  h.mono (by rintro e w' ⟨rfl, rfl⟩; exact main)
/-- What a step of one kind is to do: its term, or what it throws. -/
def DoPost (x : List UInt8 × Nat) (w : World) : Ending → World → Prop := fun e w' => e = (if x.2 = 0 then .returned (.string ⟨x.1.toArray⟩) else boom11 x.2) ∧ Below w.heap.size w w'
theorem doPost_ok {t : List UInt8} {w w' : World} (h : Below w.heap.size w w') : DoPost (t, 0) w (.returned (.string ⟨t.toArray⟩)) w' := ⟨rfl, h⟩
theorem doPost_bad {t : List UInt8} {c : Nat} (hc : c ≠ 0) {w w' : World} (h : Below w.heap.size w w') : DoPost (t, c) w (boom11 c) w' := ⟨by simp [hc], h⟩
/-- Block r is a run: what was seen, and the terms so far. -/
structure RunAt (w : World) (r : Nat) (was : List ByteArray) (wo : Option Addr) (wc : Nat) (l : List ByteArray) (ao : Option Addr) (cap : Nat) : Prop where
  cells : w.heap[r]? = some (.cells #[.slice wo was.length wc, .slice ao l.length cap] 69 (0, 0))
  seen : TxtRow w wo was
  terms : TxtRow w ao l
theorem RunAt.below {w w' : World} {r : Nat} {was l : List ByteArray} {wo ao : Option Addr} {wc cap : Nat} (h : RunAt w r was wo wc l ao cap) (hb : Below w.heap.size w w') : RunAt w' r was wo wc l ao cap :=
  ⟨(hb.block r (Array.getElem?_eq_some_iff.1 h.cells).1).trans h.cells, h.seen.below hb, h.terms.below hb⟩
theorem RunAt.cell {w : World} {r : Nat} {was l : List ByteArray} {wo ao : Option Addr} {wc cap : Nat} (h : RunAt w r was wo wc l ao cap) : w.cell? ⟨r, 0, none⟩ = some (.slice wo was.length wc) ∧ w.cell? ⟨r, 1, none⟩ = some (.slice ao l.length cap) :=
  ⟨cell_of_row _ _ _ _ _ _ h.cells, cell_of_row _ _ _ _ _ _ h.cells⟩
abbrev ptr11 (r : Nat) : Value := .pointer (some ⟨r, 0, none⟩)
set_option maxHeartbeats 4000000 in
set_option maxRecDepth 100000 in
theorem parts11_ok (r : Nat) (was : List ByteArray) (wo : Option Addr) (wc : Nat) (l : List ByteArray) (ao : Option Addr) (cap : Nat) (hx : ∀ x ∈ l, x.size ≤ 16384) (k c : Nat) (hk : k < l.length) (hc : kindP (bl (l.getD k ByteArray.empty)) = c) (w : World) (h : RunAt w r was wo wc l ao cap) :
    Calls Try.prog 91 #[ptr11 r, .int .i64 k, .int .u8 c] w fun e w' => (∃ v L, e = .returned v ∧ OwnT w' w.heap.size v L ∧ L.map bl = (partsP (bl (l.getD k ByteArray.empty))).1) ∧ Below w.heap.size w w' := by
  have hs := hx _ (getD_mem6 l _ hk)
  have HK := Lib.hid (fun V => tkind_any (l.getD k ByteArray.empty) (by omega) V)
  have HP := Lib.hid (fun V => parts6_any (l.getD k ByteArray.empty) (by omega) V)
  rw [hc] at HK
  obtain ⟨q, hq⟩ : ∃ q, q = l.length := ⟨_, rfl⟩
  have hk2 : (k : Int) < (q : Int) := by omega
  have hk3 : k < q := by omega
  have hk4 : (0 : Int) ≤ (k : Int) := by omega
  obtain ⟨c0, c1⟩ := h.cell
  have HR := Lib.hid h
  rcases h.terms with e | ⟨g, off, rfl, hlt, hcc⟩
  · exfalso
    rw [e] at hk
    exact absurd hk (Nat.not_lt_zero _)
  have ck := hcc k hk
  rw [← hq] at c1
  generalize l.getD k ByteArray.empty = t at *
  generalize was.length = m at *
  clear hx hc hs h hcc hk hq
  go_enter Try.func91, Try.ntmps91
  go_wp2_with fail
  refine (HK.out _).mono ?_; rintro e w1 ⟨rfl, b1⟩
  have B1 := Lib.hid b1
  have c1' := (b1.cell (p := ⟨r, 1, none⟩) (World.block_lt_of_cell? _ _ c1)).trans c1
  have ck' := (b1.cell (p := ⟨g, off + k, none⟩) hlt).trans ck
  clear b1 c0 c1 ck
  go_wp2_with (go_at_call 40; refine (need11_ok 8 _).mono ?_; rintro e w2 ⟨rfl, rfl⟩)
  refine (HP.out _).mono ?_; rintro e w3 ⟨v, L, rfl, ho, hP, b3⟩
  have B3 := Lib.hid (below_step B1.out b3)
  have O3 := Lib.hid (ownT_low ho B1.out.size)
  have P3 := Lib.hid hP
  clear b3 ho hP c1' ck'
  go_wp2_with fail
  go_ret
  exact ⟨⟨v, L, rfl, O3.out, P3.out⟩, B3.out⟩
set_option maxHeartbeats 4000000 in
set_option maxRecDepth 100000 in
theorem parts11_bad (r : Nat) (was : List ByteArray) (wo : Option Addr) (wc : Nat) (l : List ByteArray) (ao : Option Addr) (cap : Nat) (hx : ∀ x ∈ l, x.size ≤ 16384) (k c : Nat) (hk : k < l.length) (hc : kindP (bl (l.getD k ByteArray.empty)) ≠ c) (w : World) (h : RunAt w r was wo wc l ao cap) :
    Calls Try.prog 91 #[ptr11 r, .int .i64 k, .int .u8 c] w fun e w' => e = boom11 8 ∧ Below w.heap.size w w' := by
  have hs := hx _ (getD_mem6 l _ hk)
  have HK := Lib.hid (fun V => tkind_any (l.getD k ByteArray.empty) (by omega) V)
  have hz : ((kindP (bl (l.getD k ByteArray.empty)) : Int) == (c : Int)) = false := by rw [beq_eq_false_iff_ne]; omega
  obtain ⟨q, hq⟩ : ∃ q, q = l.length := ⟨_, rfl⟩
  have hk2 : (k : Int) < (q : Int) := by omega
  have hk3 : k < q := by omega
  have hk4 : (0 : Int) ≤ (k : Int) := by omega
  obtain ⟨c0, c1⟩ := h.cell
  rcases h.terms with e | ⟨g, off, rfl, hlt, hcc⟩
  · exfalso
    rw [e] at hk
    exact absurd hk (Nat.not_lt_zero _)
  have ck := hcc k hk
  rw [← hq] at c1
  generalize kindP (bl (l.getD k ByteArray.empty)) = z at *
  generalize l.getD k ByteArray.empty = t at *
  generalize was.length = m at *
  clear hx hc hs h hcc hk hq
  go_enter Try.func91, Try.ntmps91
  go_wp2_with fail
  refine (HK.out _).mono ?_; rintro e w1 ⟨rfl, b1⟩
  have B1 := Lib.hid b1
  clear b1
  go_wp2_with (go_at_call 40; refine (need11_bad 8 _).mono ?_; rintro e w2 ⟨rfl, rfl⟩)
  exact ⟨rfl, rfl, B1.out⟩
end Go.Proofs.Ytpajcalfjfkogaa.Pl
