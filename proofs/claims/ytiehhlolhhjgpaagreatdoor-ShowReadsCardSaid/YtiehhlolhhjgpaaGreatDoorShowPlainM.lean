/- What the reader's plain and bytes read. -/
import Derived.Test.YtiehhlolhhjgpaaGreatDoorShowZ4
namespace Go.Proofs.YtiehhlolhhjgpaaGreatDoor.Pl
open Go.RowKit

/-- What reading comes to: a term, and what stands behind it, or what is thrown. -/
def RdPost (B : Nat) (w : World) (o : Option (List UInt8 × List UInt8)) (e : Ending) (w' : World) : Prop :=
  Moved B w w' ∧ match o with | none => e = boom7 | some (t, r) => e = .returned (.string ⟨t.toArray⟩) ∧ At7 B r w'
theorem RdPost.no {B : Nat} {w w' : World} (h : Moved B w w') : RdPost B w none boom7 w' := ⟨h, rfl⟩
theorem RdPost.yes {B : Nat} {w w' : World} {t r : List UInt8} (h : Moved B w w') (k : At7 B r w') : RdPost B w (some (t, r)) (.returned (.string ⟨t.toArray⟩)) w' := ⟨h, rfl, k⟩
theorem rd_cells {k : Nat} {B : Nat} {W : World} (h : W.heap[k]? = some (.cells #[skipV B, upV B] 47 (0, 0))) : W.cell? ⟨k, 0, none⟩ = some (skipV B) ∧ W.cell? ⟨k, 1, none⟩ = some (upV B) := by
  constructor <;> simp [World.cell?, h]
theorem At7.below {B : Nat} {s : List UInt8} {W W' : World} (h : At7 B s W) (b : Below W.heap.size W W') : At7 B s W' := heap_below b h
/-- A reader that is put into a block of its own. -/
theorem boxed7 (B : Nat) (s : List UInt8) (w : World) (h : At7 B s w) :
    w.heap.size ≠ B ∧ At7 B s (w.alloc (.cells #[skipV B, upV B] 47)) ∧ (w.alloc (.cells #[skipV B, upV B] 47)).heap[w.heap.size]? = some (.cells #[skipV B, upV B] 47 (0, 0)) ∧
      Moved B w (w.alloc (.cells #[skipV B, upV B] 47)) :=
  ⟨by have := h.lt; omega, h.alloc _, Go.heap_alloc_new _ _, Moved.of_below ((Below.refl _ _).alloc (Nat.le_refl _) _)⟩
def RdStep (B : Nat) (v : Value) (s : List UInt8) (V : World) (e : Ending) (w' : World) : Prop := e = .returned v ∧ At7 B s w' ∧ Moved B V w'
theorem up_of (B : Nat) (s ends : List UInt8) (p : UInt8 → Bool) (hp : ∀ b, p b = !(ends.contains b)) (ha : ∀ b ∈ ends, b.toNat < 128) (hs : s.length ≤ 281474976710656) :
    Hid (∀ V, At7 B s V → Calls Tryz.prog 63 #[.string ⟨ends.toArray⟩, .pointer (some ⟨B, 0, none⟩)] V (RdStep B (.string ⟨(s.take (runL p s)).toArray⟩) (s.drop (runL p s)) V)) :=
  Lib.hid fun V hV => upto7_any B s ends p hp ha hs V hV
theorem skip_of (B : Nat) (s m : List UInt8) (b : Bool) (hb : m.isPrefixOf s = b) :
    Hid (∀ V, At7 B s V → Calls Tryz.prog 61 #[.string ⟨m.toArray⟩, .pointer (some ⟨B, 0, none⟩)] V (RdStep B (.bool b) (if b then s.drop m.length else s) V)) :=
  Lib.hid fun V hV => by subst hb; exact skip7_any B s m V hV
theorem notQ_ends (b : UInt8) : notQ b = !(([34] : List UInt8).contains b) := by
  unfold notQ
  by_cases h : b = 34
  · subst h; rfl
  · rw [decide_eq_true h]; simp [h]
theorem goB_ends (b : UInt8) : goB b = !(([44, 93, 41] : List UInt8).contains b) := by
  unfold goB
  by_cases h1 : b = 44
  · subst h1; rfl
  · by_cases h2 : b = 93
    · subst h2; rfl
    · by_cases h3 : b = 41
      · subst h3; rfl
      · rw [decide_eq_true ⟨h1, h2, h3⟩]; simp [h1, h2, h3]
theorem st2_eq (h : List UInt8 × Nat) : st2 h = .tuple #[.string ⟨h.1.toArray⟩, .int .i64 h.2] := rfl
set_option maxHeartbeats 1000000 in
set_option maxRecDepth 100000 in
theorem plainm_any (B : Nat) (s : List UInt8) (hs : s.length ≤ 281474976710656) (w : World) (h : At7 B s w) :
    Calls Tryz.prog 65 #[rdV B] w (RdPost B w (nPlain s)) := by
  obtain ⟨hk, h0, hk0, m0⟩ := boxed7 B s w h
  have UP := up_of B s [34] notQ notQ_ends (by decide) hs
  obtain ⟨z, hz⟩ : ∃ z, z = nPlain s := ⟨_, rfl⟩
  rw [← hz]
  unfold nPlain at hz
  have hle := runL_le notQ s
  have hhd := run_head notQ s
  have hlen : (s.take (runL notQ s)).length ≤ 281474976710656 := by rw [List.length_take]; omega
  have SK := skip_of B (s.drop (runL notQ s)) [34] (decide (runL notQ s < s.length)) (by
    by_cases hlt : runL notQ s < s.length
    · rw [decide_eq_true hlt]
      cases hd : s.drop (runL notQ s) with
      | nil => rw [List.drop_eq_nil_iff] at hd; omega
      | cons c r =>
        have := hhd c (by rw [hd]; rfl)
        unfold notQ at this
        have e : c = 34 := by simpa using this
        subst e; rfl
    · rw [decide_eq_false hlt, List.drop_eq_nil_iff.2 (by omega)]; rfl)
  have PL := Lib.hid (fun V => plain7_any ⟨(s.take (runL notQ s)).toArray⟩ V)
  have DA := Lib.hid (fun V => data6_any ⟨(s.take (runL notQ s)).toArray⟩ (by rw [size_lit]; exact hlen) V)
  rw [bl_mk] at PL DA
  rw [st2_eq] at DA
  have hdd2 : (s.drop (runL notQ s)).drop 1 = s.drop (runL notQ s + 1) := List.drop_drop ..
  by_cases hlt : runL notQ s < s.length
  · rw [decide_eq_true hlt] at SK
    simp only [if_true, List.length_singleton, hdd2] at SK
    generalize s.drop (runL notQ s) = r1 at *
    generalize s.drop (runL notQ s + 1) = r2 at *
    generalize s.take (runL notQ s) = x at *
    have H0 := Lib.hid h0
    have HK0 := Lib.hid hk0
    have M0 := Lib.hid m0
    have HKB := Lib.hid hk
    by_cases hp : plainB x = true
    · rw [hp] at PL
      generalize dataP x = dx at *
      obtain ⟨t, e⟩ := dx
      simp only at hz DA
      by_cases he : e = 0
      · subst he
        have HZ : Hid (z = some (t, r2)) := Lib.hid (hz.trans (if_pos ⟨hlt, hp, rfl⟩))
        clear hz hle hhd hlen hdd2 hlt hp h0 hk0 m0 h hs hk
        go_enter Tryz.func65, Tryz.ntmps65
        go_wp2_with (first
          | (go_at_call 63; refine (UP.out _ H0.out).mono ?_; rintro e w1 ⟨rfl, a1, m1⟩; have k1 := m1.heap HKB.out HK0.out; obtain ⟨c10, c11⟩ := rd_cells k1; have A1 := Lib.hid a1; have M1 := Lib.hid (M0.out.trans m1); clear a1 m1 k1)
          | (go_at_call 61; refine (SK.out _ A1.out).mono ?_; rintro e w2 ⟨rfl, a2, m2⟩; have A2 := Lib.hid a2; have M2 := Lib.hid (M1.out.trans m2); clear a2 m2)
          | (go_at_call 14; refine (PL.out _).mono ?_; rintro e w3 ⟨rfl, b3⟩; have A3 := Lib.hid (A2.out.below b3); have M3 := Lib.hid (M2.out.trans (Moved.of_below b3)); clear b3)
          | (go_at_call 39; refine (need7_ok _).mono ?_; rintro e w4 ⟨rfl, rfl⟩)
          | (go_at_call 21; refine (DA.out _).mono ?_; rintro e w5 ⟨rfl, b5⟩; have A5 := Lib.hid (A3.out.below b5); have M5 := Lib.hid (M3.out.trans (Moved.of_below b5)); clear b5)
          | (go_at_call 67; refine (made7_ok _ _).mono ?_; rintro e w6 ⟨rfl, rfl⟩))
        go_ret
        rw [HZ.out]
        exact RdPost.yes M5.out A5.out
      · have HZ : Hid (z = none) := Lib.hid (hz.trans (if_neg (fun h => he h.2.2)))
        have HE := Lib.hid he
        clear hz hle hhd hlen hdd2 hlt hp h0 hk0 m0 h hs hk he
        go_enter Tryz.func65, Tryz.ntmps65
        go_wp2_with (first
          | (go_at_call 63; refine (UP.out _ H0.out).mono ?_; rintro e w1 ⟨rfl, a1, m1⟩; have k1 := m1.heap HKB.out HK0.out; obtain ⟨c10, c11⟩ := rd_cells k1; have A1 := Lib.hid a1; have M1 := Lib.hid (M0.out.trans m1); clear a1 m1 k1)
          | (go_at_call 61; refine (SK.out _ A1.out).mono ?_; rintro e w2 ⟨rfl, a2, m2⟩; have A2 := Lib.hid a2; have M2 := Lib.hid (M1.out.trans m2); clear a2 m2)
          | (go_at_call 14; refine (PL.out _).mono ?_; rintro e w3 ⟨rfl, b3⟩; have A3 := Lib.hid (A2.out.below b3); have M3 := Lib.hid (M2.out.trans (Moved.of_below b3)); clear b3)
          | (go_at_call 39; refine (need7_ok _).mono ?_; rintro e w4 ⟨rfl, rfl⟩)
          | (go_at_call 21; refine (DA.out _).mono ?_; rintro e w5 ⟨rfl, b5⟩; have A5 := Lib.hid (A3.out.below b5); have M5 := Lib.hid (M3.out.trans (Moved.of_below b5)); clear b5)
          | (go_at_call 67; refine (made7_bad _ _ HE.out _).mono ?_; rintro e w6 ⟨rfl, rfl⟩))
        exact ⟨rfl, by rw [HZ.out]; exact RdPost.no M5.out⟩
    · have hpf : plainB x = false := by cases hc : plainB x with | false => rfl | true => exact absurd hc hp
      rw [hpf] at PL
      have HZ : Hid (z = none) := Lib.hid (hz.trans (if_neg (fun h => hp h.2.1)))
      clear hz hle hhd hlen hdd2 hlt hp h0 hk0 m0 h hs hk hpf DA
      go_enter Tryz.func65, Tryz.ntmps65
      go_wp2_with (first
          | (go_at_call 63; refine (UP.out _ H0.out).mono ?_; rintro e w1 ⟨rfl, a1, m1⟩; have k1 := m1.heap HKB.out HK0.out; obtain ⟨c10, c11⟩ := rd_cells k1; have A1 := Lib.hid a1; have M1 := Lib.hid (M0.out.trans m1); clear a1 m1 k1)
          | (go_at_call 61; refine (SK.out _ A1.out).mono ?_; rintro e w2 ⟨rfl, a2, m2⟩; have A2 := Lib.hid a2; have M2 := Lib.hid (M1.out.trans m2); clear a2 m2)
          | (go_at_call 14; refine (PL.out _).mono ?_; rintro e w3 ⟨rfl, b3⟩; have A3 := Lib.hid (A2.out.below b3); have M3 := Lib.hid (M2.out.trans (Moved.of_below b3)); clear b3)
          | (go_at_call 39; refine (need7_bad _).mono ?_; rintro e w4 ⟨rfl, rfl⟩))
      exact ⟨rfl, by rw [HZ.out]; exact RdPost.no M3.out⟩
  · rw [decide_eq_false hlt] at SK
    simp only [Bool.false_eq_true, if_false] at SK
    have HZ : Hid (z = none) := Lib.hid (hz.trans (if_neg (fun h => hlt h.1)))
    generalize s.drop (runL notQ s) = r1 at *
    generalize s.take (runL notQ s) = x at *
    have H0 := Lib.hid h0
    have HK0 := Lib.hid hk0
    have M0 := Lib.hid m0
    have HKB := Lib.hid hk
    clear hz hle hhd hlen hdd2 hlt h0 hk0 m0 h hs hk DA PL
    go_enter Tryz.func65, Tryz.ntmps65
    go_wp2_with (first
          | (go_at_call 63; refine (UP.out _ H0.out).mono ?_; rintro e w1 ⟨rfl, a1, m1⟩; have k1 := m1.heap HKB.out HK0.out; obtain ⟨c10, c11⟩ := rd_cells k1; have A1 := Lib.hid a1; have M1 := Lib.hid (M0.out.trans m1); clear a1 m1 k1)
          | (go_at_call 61; refine (SK.out _ A1.out).mono ?_; rintro e w2 ⟨rfl, a2, m2⟩; have A2 := Lib.hid a2; have M2 := Lib.hid (M1.out.trans m2); clear a2 m2)
          | (go_at_call 39; refine (need7_bad _).mono ?_; rintro e w4 ⟨rfl, rfl⟩))
    exact ⟨rfl, by rw [HZ.out]; exact RdPost.no M2.out⟩
end Go.Proofs.YtiehhlolhhjgpaaGreatDoor.Pl
