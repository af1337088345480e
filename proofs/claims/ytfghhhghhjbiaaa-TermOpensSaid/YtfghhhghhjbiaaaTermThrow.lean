/- What term's need, textSize and rowHead answer, and what they throw. -/
import Derived.Test.YtfghhhghhjbiaaaTermStr
import Derived.Test.YtfghhhghhjbiaaaReadText
import Derived.Test.YtfghhhghhjbiaaaPlaind
import Derived.Test.YtfghhhghhjbiaaaTermVis
import Derived.WalkLawsBesides
namespace Go.Proofs.Ytfghhhghhjbiaaa.Pl
open Go.RowKit

/-- What is thrown. -/
abbrev boom (e : Nat) : Ending := .panicked [{ v := .iface 22 (.int .i64 e), recovered := false }]

theorem need_ok (w : World) : Calls Try.prog 94 #[.int .i64 0] w fun x w' => x = .returned (.tuple #[]) ∧ w' = w := by
  go_enter Try.func94, Try.ntmps94
  go_wp2
  go_end0
  exact ⟨rfl, rfl⟩
theorem need_bad (e : Nat) (he : e ≠ 0) (w : World) : Calls Try.prog 94 #[.int .i64 e] w fun x w' => x = boom e ∧ w' = w := by
  have hz : ((e : Int) != 0) = true := by rw [bne_iff_ne]; omega
  go_enter Try.func94, Try.ntmps94
  go_wp2
  exact ⟨rfl, rfl, rfl⟩

/-- A text's size, or what is wrong. -/
def Size6 (r : Nat × Nat) (w : World) (x : Ending) (w' : World) : Prop := (if r.2 = 0 then x = .returned (.int .i64 r.1) else x = boom r.2) ∧ Below w.heap.size w w'
theorem Size6.ok {k : Nat} {w w' : World} (h : Below w.heap.size w w') : Size6 (k, 0) w (.returned (.int .i64 k)) w' := ⟨by rw [if_pos rfl], h⟩
theorem Size6.bad {k f : Nat} {w w' : World} (hf : f ≠ 0) (h : Below w.heap.size w w') : Size6 (k, f) w (boom f) w' := ⟨by rw [if_neg hf], h⟩

set_option maxHeartbeats 1000000 in
set_option maxRecDepth 100000 in
theorem textsize_any (s : ByteArray) (hs : s.size ≤ 281474976710656) (w : World) :
    Calls Try.prog 90 #[.string s] w (Size6 ((rdt (bl s) 1024).2.1, (rdt (bl s) 1024).2.2) w) := by
  have hT := fun V => readtext_any s 1024 V hs (by decide) (by decide)
  obtain ⟨r, hr⟩ : ∃ r, r = rdt (bl s) 1024 := ⟨_, rfl⟩
  have hbl : s.data.toList = bl s := rfl
  rw [hbl, ← hr] at hT
  rw [← hr]
  obtain ⟨t, k, f⟩ := r
  clear hr hs hbl
  have HT := Lib.hid hT
  clear hT
  by_cases hf : f = 0
  · subst hf
    go_enter Try.func90, Try.ntmps90
    go_wp2_with (first | (go_at_call 51; refine (HT.out _).mono ?_; rintro e w1 ⟨rfl, b1⟩) | (go_at_call 94; refine (need_ok _).mono ?_; rintro e w2 ⟨rfl, rfl⟩))
    go_ret
    exact Size6.ok b1
  · have HF := Lib.hid hf
    go_enter Try.func90, Try.ntmps90
    go_wp2_with (first | (go_at_call 51; refine (HT.out _).mono ?_; rintro e w1 ⟨rfl, b1⟩) | (go_at_call 94; refine (need_bad f HF.out _).mono ?_; rintro e w2 ⟨rfl, rfl⟩))
    exact ⟨by first | rfl | trivial, Size6.bad HF.out b1⟩

/-- A row's parts and its head's length, or what is wrong. -/
def Size62 (r : Nat × Nat × Nat) (w : World) (x : Ending) (w' : World) : Prop := (if r.2.2 = 0 then x = .returned (.tuple #[.int .i64 r.1, .int .i64 r.2.1]) else x = boom r.2.2) ∧ Below w.heap.size w w'
theorem Size62.ok {v k : Nat} {w w' : World} (h : Below w.heap.size w w') : Size62 (v, k, 0) w (.returned (.tuple #[.int .i64 v, .int .i64 k])) w' := ⟨by rw [if_pos rfl], h⟩
theorem Size62.bad {v k f : Nat} {w w' : World} (hf : f ≠ 0) (h : Below w.heap.size w w') : Size62 (v, k, f) w (boom f) w' := ⟨by rw [if_neg hf], h⟩
def rowP6 (s : List UInt8) : Nat × Nat × Nat := if (rdn s).2.2 = 0 ∧ 32 < (rdn s).1 then (0, 0, 5) else rdn s

set_option maxHeartbeats 1000000 in
set_option maxRecDepth 100000 in
theorem rowhead_any (s : ByteArray) (hs : s.size ≤ 281474976710656) (w : World) :
    Calls Try.prog 92 #[.string s] w (Size62 (rowP6 (bl s)) w) := by
  have hT := fun V => readnum_any s (by omega) V
  obtain ⟨r, hr⟩ : ∃ r, r = rdn (bl s) := ⟨_, rfl⟩
  have hbl : s.data.toList = bl s := rfl
  rw [hbl, ← hr] at hT
  obtain ⟨z, hz⟩ : ∃ z, z = rowP6 (bl s) := ⟨_, rfl⟩
  rw [← hz]
  unfold rowP6 at hz
  rw [← hr] at hz
  obtain ⟨v, k, f⟩ := r
  have HZ := Lib.hid hz
  clear hr hs hbl hz
  have HT := Lib.hid hT
  clear hT
  by_cases hf : f = 0
  · subst hf
    by_cases hv : 32 < v
    · have q1 : (32 : Int) < (v : Int) := by omega
      have HV := Lib.hid hv
      clear hv
      go_enter Try.func92, Try.ntmps92
      go_wp2_with (first | (go_at_call 57; refine (HT.out _).mono ?_; rintro e w1 ⟨rfl, rfl⟩) | (go_at_call 94; refine (need_ok _).mono ?_; rintro e w2 ⟨rfl, rfl⟩))
      have hz := HZ.out
      rw [if_pos (by first | exact ⟨rfl, HV.out⟩ | exact ⟨trivial, HV.out⟩)] at hz
      exact ⟨rfl, hz ▸ Size62.bad (f := 5) (by decide) (Below.refl _ _)⟩
    · have q1 : ¬ (32 : Int) < (v : Int) := by omega
      have q2 : (v : Int) ≤ 32 := by omega
      have HV := Lib.hid hv
      clear hv
      go_enter Try.func92, Try.ntmps92
      go_wp2_with (first | (go_at_call 57; refine (HT.out _).mono ?_; rintro e w1 ⟨rfl, rfl⟩) | (go_at_call 94; refine (need_ok _).mono ?_; rintro e w2 ⟨rfl, rfl⟩))
      go_ret2
      have hz := HZ.out
      rw [if_neg (by rintro ⟨_, h⟩; exact HV.out h)] at hz
      exact hz ▸ Size62.ok (Below.refl _ _)
  · have HF := Lib.hid hf
    go_enter Try.func92, Try.ntmps92
    go_wp2_with (first | (go_at_call 57; refine (HT.out _).mono ?_; rintro e w1 ⟨rfl, rfl⟩) | (go_at_call 94; refine (need_bad f HF.out _).mono ?_; rintro e w2 ⟨rfl, rfl⟩))
    have hz := HZ.out
    rw [if_neg (by rintro ⟨h, _⟩; exact HF.out h)] at hz
    exact ⟨rfl, hz ▸ Size62.bad HF.out (Below.refl _ _)⟩
end Go.Proofs.Ytfghhhghhjbiaaa.Pl
