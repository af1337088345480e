/- What the base lacks for the terms of keys. -/
import Derived.BigQuiet
import Derived.Deep.MidRow
import Derived.Deep.QuietTactic
import Derived.Deep.RegionHeld3
import Derived.Handy
import Derived.IntWalk
import Derived.Laws.CopyRow
import Derived.Laws.Cover4
import Derived.Laws.IdiomStrings
import Derived.Laws.OwnMore
import Derived.Laws.RangeAny
import Derived.Laws.RangeString
import Derived.Lib.Hide
import Derived.Lib.OthersKept
import Derived.Lib.RuneBytes
import Derived.Outline
import Derived.OwnWalk
import Derived.Test.YtbhcjdpachboaaaDoorKeysBase1
import Derived.Test.YtbhcjdpachboaaaDoorKeysBase2
import Derived.Test.YtbhcjdpachboaaaDoorKeysBase3
import Derived.Test.YtbhcjdpachboaaaDoorKeysBase4
import Derived.Test.YtbhcjdpachboaaaDoorKeysBase5
import Derived.Test.YtbhcjdpachboaaaDoorKeysBase6
import Derived.Test.YtbhcjdpachboaaaDoorProg
import Derived.WalkKit
import GoSem.Op.String
/- Plain -/
section
namespace Go.Proofs.YtbhcjdpachboaaaDoor.Pl
/-- Just k digits of v, as numbers. -/
def dn : Nat → Nat → List Nat
  | 0, _ => []
  | k + 1, v => dn k (v / 256) ++ [v % 256]
theorem dig_dn (f : Nat) : ∀ k v, k ≤ f → v < 256 ^ k → (k = 0 ∨ 256 ^ k ≤ v * 256) → dig f v = (dn k v).map UInt8.ofNat := by
  induction f with
  | zero => intro k v hk _ _; obtain rfl : k = 0 := by omega
            rfl
  | succ f ih =>
    intro k v hk hi lo
    cases k with
    | zero => have : v = 0 := by simpa using hi
              subst this; rw [dig_zero]; rfl
    | succ k =>
      have hlo : 256 ^ (k + 1) ≤ v * 256 := by
        rcases lo with h | h
        · cases h
        · exact h
      rw [Nat.pow_succ] at hi hlo
      have hp : 0 < 256 ^ k := Nat.pow_pos (by decide)
      rw [dig_succ f v (by omega), ih k (v / 256) (by omega) (by omega) ?_]
      · simp [dn]
      · cases k with
        | zero => exact .inl rfl
        | succ k =>
          right
          clear hi hp ih lo
          rw [Nat.pow_succ] at hlo ⊢
          generalize 256 ^ k = q at hlo ⊢
          have h1 : q * 256 ≤ v := Nat.le_of_mul_le_mul_right hlo (by decide)
          have h2 : q ≤ v / 256 := (Nat.le_div_iff_mul_le (by decide)).2 h1
          exact Nat.mul_le_mul_right _ h2
theorem dn_length (k : Nat) : ∀ v, (dn k v).length = k := by
  induction k with
  | zero => intro v; rfl
  | succ k ih => intro v; simp [dn, ih]
theorem enc_dn {k v : Nat} (h8 : k ≤ 8) (hv : ¬ v < 248) (hi : v < 256 ^ k) (lo : 256 ^ k ≤ v * 256) : enc v = ((247 + k) :: dn k v).map UInt8.ofNat := by
  rw [enc_big hv, dig_dn 8 k v h8 hi (.inr lo), List.length_map, dn_length, List.map_cons]

end Go.Proofs.YtbhcjdpachboaaaDoor.Pl
end

/- Num -/
section
namespace Go.Proofs.YtbhcjdpachboaaaDoor.Pl
open Go.RowKit

theorem conv_tail (w : World) (b off len cap : Nat) (l : List UInt8) (hl : l.length = len) (hc : ∀ j (hj : j < l.length), w.cell? ⟨b, off + j, none⟩ = some (.int .u8 (l[j].toNat : Int))) :
    (convert 74 9 (.slice (some ⟨b, off, none⟩) len cap)).run Tryd.prog w = .ok (.string ⟨l.toArray⟩) w := by
  subst hl
  exact run_convert_bytes_back w _ _ _ ⟨b, off, none⟩ cap l Tryd.underlying74 Tryd.underlying5 Tryd.underlying9 (fun j hj => by
    rw [show (⟨b, off, none⟩ : Addr).add j = ⟨b, off + j, none⟩ from by unfold Addr.add; split <;> simp_all]
    exact hc j hj)

theorem conv_lit (w : World) (C : Array Value) (t off len cap : Nat) (ns : List Nat) (h : ∀ n, n ∈ ns → n < 256) (hl : ns.length = len)
    (hC : C.toList.drop off = ns.map fun (n : Nat) => Value.int .u8 (n : Int)) :
    (convert 74 9 (.slice (some ⟨w.heap.size, off, none⟩) len cap)).run Tryd.prog (w.alloc (.cells C t)) = .ok (.string ⟨(ns.map UInt8.ofNat).toArray⟩) (w.alloc (.cells C t)) := by
  refine conv_tail _ _ _ _ _ (ns.map UInt8.ofNat) (by simpa using hl) ?_
  intro j hj
  rw [World.cell?_alloc_mark]
  have hj' : j < ns.length := by simpa using hj
  have h1 : (C.toList.drop off)[j]? = some (.int .u8 (ns[j] : Int)) := by rw [hC]; simp [hj']
  rw [List.getElem?_drop, Array.getElem?_toList] at h1
  rw [h1]
  have h2 := h ns[j] (List.getElem_mem hj')
  have h3 : ((ns.map UInt8.ofNat)[j]).toNat = ns[j] := by simp; omega
  rw [h3]

set_option maxRecDepth 100000 in
theorem num_any (v : Nat) (h8 : v < 256 ^ 8) (w : World) :
    Calls Tryd.prog 89 #[.int .u64 v] w fun e w' => e = .returned (.string ⟨(enc v).toArray⟩) ∧ Below w.heap.size w w' := by
  have h9 : v < 18446744073709551616 := by rw [two64] at h8; exact h8
  clear h8
  by_cases hv : v < 248
  · go_enter Tryd.func89, Tryd.ntmps89
    go_wp2
    rw [conv_lit w _ 121 8 1 1 [v] (by intro n hn; simp at hn; omega) rfl (by simp)]
    go_wp2
    go_ret
    refine ⟨?_, (Below.refl _ _).alloc (Nat.le_refl _) _⟩
    rw [enc_small hv]; rfl
  · go_enter Tryd.func89, Tryd.ntmps89
    go_wp2
    go_rounds 9
    · rw [conv_lit w _ 121 0 9 9 ((247 + 8) :: dn 8 v) (by intro n hn; simp [dn] at hn; omega) rfl (by simp [dn]; try omega)]
      go_wp2; go_ret
      refine ⟨?_, (Below.refl _ _).alloc (Nat.le_refl _) _⟩
      rw [enc_dn (k := 8) (by omega) hv (by simp; omega) (by simp; omega)]; rfl
    · rw [conv_lit w _ 121 1 8 8 ((247 + 7) :: dn 7 v) (by intro n hn; simp [dn] at hn; omega) rfl (by simp [dn]; try omega)]
      go_wp2; go_ret
      refine ⟨?_, (Below.refl _ _).alloc (Nat.le_refl _) _⟩
      rw [enc_dn (k := 7) (by omega) hv (by simp; omega) (by simp; omega)]; rfl
    · rw [conv_lit w _ 121 2 7 7 ((247 + 6) :: dn 6 v) (by intro n hn; simp [dn] at hn; omega) rfl (by simp [dn]; try omega)]
      go_wp2; go_ret
      refine ⟨?_, (Below.refl _ _).alloc (Nat.le_refl _) _⟩
      rw [enc_dn (k := 6) (by omega) hv (by simp; omega) (by simp; omega)]; rfl
    · rw [conv_lit w _ 121 3 6 6 ((247 + 5) :: dn 5 v) (by intro n hn; simp [dn] at hn; omega) rfl (by simp [dn]; try omega)]
      go_wp2; go_ret
      refine ⟨?_, (Below.refl _ _).alloc (Nat.le_refl _) _⟩
      rw [enc_dn (k := 5) (by omega) hv (by simp; omega) (by simp; omega)]; rfl
    · rw [conv_lit w _ 121 4 5 5 ((247 + 4) :: dn 4 v) (by intro n hn; simp [dn] at hn; omega) rfl (by simp [dn]; try omega)]
      go_wp2; go_ret
      refine ⟨?_, (Below.refl _ _).alloc (Nat.le_refl _) _⟩
      rw [enc_dn (k := 4) (by omega) hv (by simp; omega) (by simp; omega)]; rfl
    · rw [conv_lit w _ 121 5 4 4 ((247 + 3) :: dn 3 v) (by intro n hn; simp [dn] at hn; omega) rfl (by simp [dn]; try omega)]
      go_wp2; go_ret
      refine ⟨?_, (Below.refl _ _).alloc (Nat.le_refl _) _⟩
      rw [enc_dn (k := 3) (by omega) hv (by simp; omega) (by simp; omega)]; rfl
    · rw [conv_lit w _ 121 6 3 3 ((247 + 2) :: dn 2 v) (by intro n hn; simp [dn] at hn; omega) rfl (by simp [dn]; try omega)]
      go_wp2; go_ret
      refine ⟨?_, (Below.refl _ _).alloc (Nat.le_refl _) _⟩
      rw [enc_dn (k := 2) (by omega) hv (by simp; omega) (by simp; omega)]; rfl
    · rw [conv_lit w _ 121 7 2 2 ((247 + 1) :: dn 1 v) (by intro n hn; simp [dn] at hn; omega) rfl (by simp [dn]; try omega)]
      go_wp2; go_ret
      refine ⟨?_, (Below.refl _ _).alloc (Nat.le_refl _) _⟩
      rw [enc_dn (k := 1) (by omega) hv (by simp; omega) (by simp; omega)]; rfl
end Go.Proofs.YtbhcjdpachboaaaDoor.Pl
end

/- ReadText -/
section
namespace Go.Proofs.YtbhcjdpachboaaaDoor.Pl
open Go.RowKit

set_option maxRecDepth 100000 in
theorem text_any (s : ByteArray) (w : World) (hs : s.size ≤ 281474976710656) :
    Calls Tryd.prog 88 #[.string s] w fun e w' => e = .returned (.string (⟨(enc s.size).toArray⟩ ++ s)) ∧ Below w.heap.size w w' := by
  have h8 : s.size < 256 ^ 8 := by rw [two64]; omega
  have hl := (enc_len s.size).2
  have H8 := Lib.hid h8
  clear h8
  go_enter Tryd.func88, Tryd.ntmps88
  go_wp2_with (go_at_call 89; refine (num_any _ H8.out _).mono ?_; rintro e w' ⟨rfl, hb⟩)
  go_ret
  exact ⟨rfl, hb⟩
end Go.Proofs.YtbhcjdpachboaaaDoor.Pl
end

/- TermName -/
section
namespace Go.Proofs.YtbhcjdpachboaaaDoor.Pl
open Go.RowKit

theorem bl_at (s : ByteArray) (p : Nat) (h : p < s.size) : (bl s).getD p 0 = s[p]'h := by
  unfold bl
  rw [List.getD_eq_getElem?_getD, List.getElem?_eq_getElem (by rw [Array.length_toList]; exact h)]
  simp
  rfl

set_option maxHeartbeats 4000000 in
set_option maxRecDepth 100000 in
theorem isname_any (s : ByteArray) (hs : s.size ≤ 281474976710656) (w : World) :
    Calls Tryd.prog 87 #[.string s] w fun e w' => e = .returned (.bool (nameOK (bl s))) ∧ Below w.heap.size w w' := by
  obtain ⟨z, hz⟩ : ∃ z, z = nameOK (bl s) := ⟨_, rfl⟩
  rw [← hz]
  by_cases h0 : s.size = 0
  · have HZ : Hid (z = false) := Lib.hid (by rw [hz, bl_nil h0]; rfl)
    obtain rfl : s = ⟨#[]⟩ := bl_inj (bl_nil h0)
    clear hz h0 hs
    go_enter Tryd.func87, Tryd.ntmps87
    go_wp2_with fail
    go_loopw [] (fun wr => Hid (wr.heap[w.heap.size]? = some (.stringIter ⟨#[]⟩ 0)) ∧ Hid (Below w.heap.size w wr)) (fun _ => 0)
    case atStart => exact ⟨Lib.hid (World.iter_heap w _ 0), Lib.hid ((Below.refl _ w).alloc (Nat.le_refl _) _)⟩
    case round =>
      obtain ⟨hit, hbw⟩ := hrel
      have hnx : ∀ ty, (Instr.next (.pointer (some ⟨w.heap.size, 0, none⟩)) true ty).run Tryd.prog wr = _ := fun ty => Lib.run_next_end_at wr w.heap.size ⟨#[]⟩ 0 ty hit.out (by decide)
      go_wp2_with fail
      go_ret
      exact ⟨ret6_bool HZ.out.symm, hbw.out⟩
  · have hne : s ≠ ⟨#[]⟩ := fun e => h0 (by rw [e]; rfl)
    obtain ⟨g1, g2⟩ := str6_ne hne
    have g3 : s.toList.isEmpty = false := by
      rw [Lib.toList_data, List.isEmpty_eq_false_iff]
      intro e
      exact h0 (by rw [size_bl]; unfold bl; rw [e]; rfl)
    have HB : Hid (∀ k, k < s.size → nameB ((bl s).getD k 0) = false → z = false) := Lib.hid (fun k hk hb => by
      rw [hz]
      cases e : nameOK (bl s) with
      | false => rfl
      | true => rw [((nameOK_iff _).1 e).2 k (by rw [bl_length]; exact hk)] at hb; exact absurd hb (by decide))
    have HE : Hid ((∀ j, j < s.size → nameB ((bl s).getD j 0) = true) → z = true) := Lib.hid (fun h => by
      rw [hz, nameOK_iff]
      refine ⟨fun e => h0 (by rw [size_bl, e]; rfl), fun j hj => h j (by rw [bl_length] at hj; exact hj)⟩)
    clear hz h0 hne
    go_enter Tryd.func87, Tryd.ntmps87
    go_wp2_with fail
    go_loopw [] (fun wr => ∃ pos : Nat, Hid (pos ≤ s.size) ∧ Hid (wr.heap[w.heap.size]? = some (.stringIter s pos)) ∧ Hid (∀ j, j < pos → nameB ((bl s).getD j 0) = true) ∧ Hid (Below w.heap.size w wr)) (fun wr => s.size - wr.iterPos w.heap.size)
    case atStart => exact ⟨0, Lib.hid (Nat.zero_le _), Lib.hid (World.iter_heap w s 0), Lib.hid (fun j hj => absurd hj (Nat.not_lt_zero j)), Lib.hid ((Below.refl _ w).alloc (Nat.le_refl _) _)⟩
    case round =>
      obtain ⟨pos, hps, hit, hch, hbw⟩ := hrel
      by_cases hp : pos < s.size
      · have hd : Hid (1 ≤ (Utf8.decode s pos).2 ∧ ((nameB ((bl s).getD pos 0) = true ∧ (Utf8.decode s pos).1 = ((bl s).getD pos 0).toNat ∧ (Utf8.decode s pos).2 = 1) ∨ (nameB ((bl s).getD pos 0) = false ∧ ((Utf8.decode s pos).1 = ((bl s).getD pos 0).toNat ∨ 128 ≤ (Utf8.decode s pos).1)))) := Lib.hid (by
          rw [bl_at s pos hp]
          by_cases ha : (s[pos]'hp).toNat < 128
          · rw [decode_ascii s pos hp ha]
            cases hnb : nameB (s[pos]'hp) with
            | true => exact ⟨Nat.le_refl _, .inl ⟨rfl, rfl, rfl⟩⟩
            | false => exact ⟨Nat.le_refl _, .inr ⟨rfl, .inl rfl⟩⟩
          · have hh := decode_high s pos hp (by omega)
            refine ⟨hh.2, .inr ⟨?_, .inr hh.1⟩⟩
            unfold nameB
            exact decide_eq_false (by omega))
        have hwd : Hid (1 ≤ (Utf8.decode s pos).2) := Lib.hid hd.out.1
        have hit2 := Lib.hid (Lib.iterAt_heap wr w.heap.size s pos (pos + (Utf8.decode s pos).2) hit.out)
        have hb2 := Lib.hid (Lib.below_iterAt hbw.out (k := w.heap.size) (Nat.le_refl _) s (pos + (Utf8.decode s pos).2))
        have hnx : ∀ ty, (Instr.next (.pointer (some ⟨w.heap.size, 0, none⟩)) true ty).run Tryd.prog wr = _ := fun ty => Lib.run_next_any_at wr w.heap.size s pos ty hit.out hp
        generalize wr.iterAt w.heap.size s (pos + (Utf8.decode s pos).2) = W1 at *
        obtain ⟨c, ec⟩ : ∃ c : UInt8, c = (bl s).getD pos 0 := ⟨_, rfl⟩
        have HBK : Hid (nameB c = false → z = false) := Lib.hid (by rw [ec]; exact HB.out pos hp)
        obtain ⟨n, hn⟩ : ∃ n, n = (Utf8.decode s pos).1 := ⟨_, rfl⟩
        obtain ⟨dw, hdw⟩ : ∃ dw, dw = (Utf8.decode s pos).2 := ⟨_, rfl⟩
        have hd' := hd.out
        rw [← hn, ← hdw, ← ec] at hd'
        have HNX : Hid (((97 ≤ n ∧ n ≤ 122) ∨ (48 ≤ n ∧ n ≤ 57) ∨ n = 47 ∨ n = 46 ∨ n = 45) → pos + dw ≤ s.size ∧ ∀ j, j < pos + dw → nameB ((bl s).getD j 0) = true) := Lib.hid (fun h => by
          rcases hd'.2 with ⟨h1, h2, h3⟩ | ⟨h1, h2 | h2⟩
          · refine ⟨by omega, fun j hj => ?_⟩
            by_cases e : j = pos
            · rw [e, ← ec]; exact h1
            · exact hch.out j (by omega)
          · exfalso
            unfold nameB at h1
            rw [← h2] at h1
            exact absurd h (of_decide_eq_false h1)
          · omega)
        have HW : Hid (¬ ((97 ≤ n ∧ n ≤ 122) ∨ (48 ≤ n ∧ n ≤ 57) ∨ n = 47 ∨ n = 46 ∨ n = 45) → z = false) := Lib.hid (fun h => by
          rcases hd'.2 with ⟨h1, h2, h3⟩ | ⟨h1, _⟩
          · exfalso
            unfold nameB at h1
            rw [← h2] at h1
            exact h (of_decide_eq_true h1)
          · exact HBK.out h1)
        rw [← hn] at hnx
        rw [← hdw] at hit2 hwd
        clear ec hn hdw hd hd' HBK
        have hcs : n < 45 ∨ n = 45 ∨ n = 46 ∨ n = 47 ∨ (48 ≤ n ∧ n ≤ 57) ∨ (57 < n ∧ n < 97) ∨ (97 ≤ n ∧ n ≤ 122) ∨ 122 < n := by omega
        have ef : ∀ m : Nat, n ≠ m → ((n : Int) == (m : Int)) = false := fun m h => by rw [beq_eq_false_iff_ne]; omega
        rcases hcs with h | h | h | h | ⟨h, h'⟩ | ⟨h, h'⟩ | ⟨h, h'⟩ | h
        · have HX := Lib.hid (HW.out (by omega))
          have q1 : ((n : Int) == 47) = false := ef 47 (by omega)
          have q2 : ((n : Int) == 46) = false := ef 46 (by omega)
          have q3 : ((n : Int) == 45) = false := ef 45 (by omega)
          clear ef
          go_wp2_with fail
          go_ret
          exact ⟨ret6_bool HX.out.symm, hb2.out⟩
        · subst h
          have HP := Lib.hid (HNX.out (by omega)).1
          have HX := Lib.hid (HNX.out (by omega)).2
          clear ef
          go_wp2_with fail
          go_roundw
          case rel => exact ⟨_, HP, hit2, HX, hb2⟩
          case measure => simp only [World.iterPos, hit2.out, hit.out]; have := hwd.out; omega
        · subst h
          have HP := Lib.hid (HNX.out (by omega)).1
          have HX := Lib.hid (HNX.out (by omega)).2
          clear ef
          go_wp2_with fail
          go_roundw
          case rel => exact ⟨_, HP, hit2, HX, hb2⟩
          case measure => simp only [World.iterPos, hit2.out, hit.out]; have := hwd.out; omega
        · subst h
          have HP := Lib.hid (HNX.out (by omega)).1
          have HX := Lib.hid (HNX.out (by omega)).2
          clear ef
          go_wp2_with fail
          go_roundw
          case rel => exact ⟨_, HP, hit2, HX, hb2⟩
          case measure => simp only [World.iterPos, hit2.out, hit.out]; have := hwd.out; omega
        · have HP := Lib.hid (HNX.out (by omega)).1
          have HX := Lib.hid (HNX.out (by omega)).2
          clear ef
          go_wp2_with fail
          go_roundw
          case rel => exact ⟨_, HP, hit2, HX, hb2⟩
          case measure => simp only [World.iterPos, hit2.out, hit.out]; have := hwd.out; omega
        · have HX := Lib.hid (HW.out (by omega))
          have q1 : ((n : Int) == 47) = false := ef 47 (by omega)
          have q2 : ((n : Int) == 46) = false := ef 46 (by omega)
          have q3 : ((n : Int) == 45) = false := ef 45 (by omega)
          have q4 : decide ((n : Int) ≤ 57) = false := decide_eq_false (by omega)
          clear ef
          go_wp2_with fail
          go_ret
          exact ⟨ret6_bool HX.out.symm, hb2.out⟩
        · have HP := Lib.hid (HNX.out (by omega)).1
          have HX := Lib.hid (HNX.out (by omega)).2
          clear ef
          go_wp2_with fail
          go_roundw
          case rel => exact ⟨_, HP, hit2, HX, hb2⟩
          case measure => simp only [World.iterPos, hit2.out, hit.out]; have := hwd.out; omega
        · have HX := Lib.hid (HW.out (by omega))
          have q1 : ((n : Int) == 47) = false := ef 47 (by omega)
          have q2 : ((n : Int) == 46) = false := ef 46 (by omega)
          have q3 : ((n : Int) == 45) = false := ef 45 (by omega)
          have q4 : decide ((n : Int) ≤ 57) = false := decide_eq_false (by omega)
          have q5 : decide ((n : Int) ≤ 122) = false := decide_eq_false (by omega)
          clear ef
          go_wp2_with fail
          go_ret
          exact ⟨ret6_bool HX.out.symm, hb2.out⟩
      · have hnx : ∀ ty, (Instr.next (.pointer (some ⟨w.heap.size, 0, none⟩)) true ty).run Tryd.prog wr = _ := fun ty => Lib.run_next_end_at wr w.heap.size s pos ty hit.out hp
        have HQ := Lib.hid (HE.out (fun j hj => hch.out j (by omega)))
        clear hp
        go_wp2_with fail
        go_ret
        exact ⟨ret6_bool HQ.out.symm, hbw.out⟩
end Go.Proofs.YtbhcjdpachboaaaDoor.Pl
end

/- TermGives -/
section
namespace Go.Proofs.YtbhcjdpachboaaaDoor.Pl
open Go.RowKit

set_option maxRecDepth 100000 in
theorem data6_any (s : ByteArray) (hs : s.size ≤ 281474976710656) (w : World) :
    Calls Tryd.prog 96 #[.string s] w fun e w' => e = .returned (st2 (dataP (bl s))) ∧ Below w.heap.size w w' := by
  by_cases h : 1024 < s.size
  · have HZ : Hid (dataP (bl s) = ([], 5)) := Lib.hid (by unfold dataP; rw [bl_length]; exact if_pos h)
    have h' : (1024 : Int) < (s.size : Int) := by omega
    clear h
    go_enter Tryd.func96, Tryd.ntmps96
    go_wp2_with fail
    go_ret2
    exact ⟨by rw [HZ.out]; rfl, Below.refl _ _⟩
  · have HZ : Hid (dataP (bl s) = (100 :: txt (bl s), 0)) := Lib.hid (by unfold dataP; rw [bl_length]; exact if_neg h)
    have h' : ¬ (1024 : Int) < (s.size : Int) := by omega
    have HT := Lib.hid (fun V => text_any s V hs)
    rw [text_list] at HT
    have hcat : (⟨#[100]⟩ : ByteArray).size + (⟨(txt s.data.toList).toArray⟩ : ByteArray).size ≤ 9223372036854775807 := by
      have h4 : (⟨(txt s.data.toList).toArray⟩ : ByteArray).size = (txt s.data.toList).length := size_lit _
      have := txt_le s.data.toList
      have h2 : s.data.toList.length = s.size := bl_length s
      have h3 : (⟨#[100]⟩ : ByteArray).size = 1 := rfl
      omega
    have HC : Hid ((⟨#[100]⟩ ++ ⟨(txt s.data.toList).toArray⟩ : ByteArray) = ⟨(100 :: txt (bl s)).toArray⟩) := Lib.hid (cat_front _ _)
    generalize (⟨(txt s.data.toList).toArray⟩ : ByteArray) = t at *
    clear h hs
    go_enter Tryd.func96, Tryd.ntmps96
    go_wp2_with (go_at_call 88; refine (HT.out _).mono ?_; rintro e w1 ⟨rfl, b1⟩)
    go_ret2
    exact ⟨by rw [HZ.out, st2, ← HC.out]; rfl, b1⟩

set_option maxRecDepth 100000 in
theorem atom6_any (s : ByteArray) (hs : s.size ≤ 281474976710656) (w : World) :
    Calls Tryd.prog 86 #[.string s] w fun e w' => e = .returned (st2 (atomP (bl s))) ∧ Below w.heap.size w w' := by
  have HN := Lib.hid (fun V => isname_any s hs V)
  by_cases h : 32 < s.size
  · have HZ : Hid (atomP (bl s) = ([], 5)) := Lib.hid (by unfold atomP; rw [bl_length]; exact if_pos h)
    have h' : (32 : Int) < (s.size : Int) := by omega
    clear h
    go_enter Tryd.func86, Tryd.ntmps86
    go_wp2_with fail
    go_ret2
    exact ⟨by rw [HZ.out]; rfl, Below.refl _ _⟩
  · have h' : ¬ (32 : Int) < (s.size : Int) := by omega
    cases hno : nameOK (bl s) with
    | false =>
      have HZ : Hid (atomP (bl s) = ([], 7)) := Lib.hid (by unfold atomP; rw [bl_length, if_neg h, if_pos hno])
      rw [hno] at HN
      clear h hs hno
      go_enter Tryd.func86, Tryd.ntmps86
      go_wp2_with (go_at_call 87; refine (HN.out _).mono ?_; rintro e w1 ⟨rfl, b1⟩)
      go_ret2
      exact ⟨by rw [HZ.out]; rfl, b1⟩
    | true =>
      have HZ : Hid (atomP (bl s) = (97 :: txt (bl s), 0)) := Lib.hid (by unfold atomP; rw [bl_length, if_neg h, if_neg (by rw [hno]; decide)])
      rw [hno] at HN
      have HT := Lib.hid (fun V => text_any s V hs)
      rw [text_list] at HT
      have hcat : (⟨#[97]⟩ : ByteArray).size + (⟨(txt s.data.toList).toArray⟩ : ByteArray).size ≤ 9223372036854775807 := by
        have h4 : (⟨(txt s.data.toList).toArray⟩ : ByteArray).size = (txt s.data.toList).length := size_lit _
        have := txt_le s.data.toList
        have h2 : s.data.toList.length = s.size := bl_length s
        have h3 : (⟨#[97]⟩ : ByteArray).size = 1 := rfl
        omega
      have HC : Hid ((⟨#[97]⟩ ++ ⟨(txt s.data.toList).toArray⟩ : ByteArray) = ⟨(97 :: txt (bl s)).toArray⟩) := Lib.hid (cat_front _ _)
      generalize (⟨(txt s.data.toList).toArray⟩ : ByteArray) = t at *
      clear h hs hno
      go_enter Tryd.func86, Tryd.ntmps86
      go_wp2_with (first | (go_at_call 87; refine (HN.out _).mono ?_; rintro e w1 ⟨rfl, b1⟩) | (go_at_call 88; refine (HT.out _).mono ?_; rintro e w2 ⟨rfl, b2⟩))
      go_ret2
      exact ⟨by rw [HZ.out, st2, ← HC.out]; rfl, below_step b1 b2⟩

end Go.Proofs.YtbhcjdpachboaaaDoor.Pl
end

/- SuiteMore -/
section
namespace Go.Proofs.YtbhcjdpachboaaaDoor.Pl
open Go.RowKit

theorem atom_err {s : List UInt8} (h : (atomP s).2 ≠ 0) : (atomP s).1 = [] := by
  unfold atomP at h ⊢
  split
  · rfl
  · rename_i h1
    rw [if_neg h1] at h
    split
    · rfl
    · rename_i h2
      rw [if_neg h2] at h
      exact absurd rfl h
theorem key8_terms (c : Cry) (m name : List UInt8) : keyP c true m name = atomP name := by simp [keyP]
end Go.Proofs.YtbhcjdpachboaaaDoor.Pl
end

/- SuiteOwn -/
section
namespace Go.Proofs.YtbhcjdpachboaaaDoor.Pl
open Go.RowKit

/-- The receiver of suites of terms. -/
def symV : Value := .agg #[]

set_option maxRecDepth 100000 in
theorem skey8_any (c : Cry) (m : List UInt8) (n : ByteArray) (hn : n.size ≤ 20000) (w : World) :
    Calls Tryd.prog 85 #[symV, .string n] w fun e w' => e = .returned (st2 (keyP c true m (bl n))) ∧ Below w.heap.size w w' := by
  have H := Lib.hid (fun V => atom6_any n (by omega) V)
  have B0 := Lib.hid ((Below.refl w.heap.size w).alloc (Nat.le_refl _) (.cells #[] 62))
  rw [key8_terms]
  generalize atomP (bl n) = R at *
  obtain ⟨r, x⟩ := R
  unfold st2 at H ⊢
  dsimp only at H ⊢
  clear hn
  unfold symV
  go_enter Tryd.func85, Tryd.ntmps85
  go_wp2_with fail
  refine (H.out _).mono ?_; rintro e w1 ⟨rfl, b1⟩
  have B1 := Lib.hid (below_step B0.out b1)
  clear b1
  go_wp2_with fail
  go_ret2
  exact ⟨rfl, B1.out⟩

end Go.Proofs.YtbhcjdpachboaaaDoor.Pl
end

/- ShaHash -/
section
namespace Go.Proofs.YtbhcjdpachboaaaDoor.Pl
open Go.RowKit

theorem hcells_one (s : S8) (wt : List Nat) (n : Nat) : (hcells s wt n).all (·.oneCell') = true := by
  rw [Array.all_eq_true_iff_forall_mem]
  intro v hv
  simp only [hcells, List.mem_toArray, List.mem_append, List.mem_map, List.mem_singleton] at hv
  rcases hv with (⟨_, _, rfl⟩ | ⟨_, _, rfl⟩) | rfl <;> rfl
set_option maxRecDepth 100000 in
theorem copy_any (w : World) (b : Nat) (s : S8) (wt : List Nat) (n : Nat) (h : HashAt w b s wt n) :
    Calls Tryd.prog 98 #[.pointer (some ⟨b, 0, none⟩)] w fun e w' => e = .returned (.pointer (some ⟨w.heap.size, 0, none⟩)) ∧ HashAt w' w.heap.size s wt n ∧ w.heap.size < w'.heap.size ∧ Below w.heap.size w w' := by
  have hs : (Tryd.prog.info? 94).map (·.size) = some (hcells s wt n).size := by rw [hcells_size n h.2]; kernel_rfl
  have HS := Lib.hid hs
  have HC := Lib.hid h.1
  have hne : ¬ b = w.heap.size := by have := h.lt; omega
  have hz : (hcells Z0 (List.replicate 64 0) 0).size = (hcells s wt n).size := by rw [hcells_size _ h.2, hcells_size _ (by simp)]
  have HZ := Lib.hid hz
  have HL := Lib.hid h
  clear hs hz h
  have hzv := zero_hash
  go_enter Tryd.func98, Tryd.ntmps98
  go_wp2_with (first
    | (refine wpList_load_row rfl 94 _ rfl b rfl 94 _ _ _ HC.out Tryd.underlying94 rfl HS.out ?_)
    | (refine wpList_store_row rfl 94 _ _ rfl w.heap.size _ rfl rfl 94 _ (Go.heap_alloc_new _ _) HS.out HZ.out (hcells_one _ _ _) ?_))
  go_ret
  rw [World.setRow_alloc_new]
  exact ⟨rfl, ⟨Go.heap_alloc_new _ _, HL.out.2⟩, by simp, (Below.refl _ _).alloc (Nat.le_refl _) _⟩
end Go.Proofs.YtbhcjdpachboaaaDoor.Pl
end

/- ShaDig -/
section
namespace Go.Proofs.YtbhcjdpachboaaaDoor.Pl
open Go.RowKit

theorem copy_holds (w : World) (b : Nat) (m : List Nat) (h : Holds w b m) :
    Calls Tryd.prog 98 #[.pointer (some ⟨b, 0, none⟩)] w fun e w' => e = .returned (.pointer (some ⟨w.heap.size, 0, none⟩)) ∧ Holds w' w.heap.size m ∧ w.heap.size < w'.heap.size ∧ Below w.heap.size w w' := by
  obtain ⟨wt, h1, h2, h3⟩ := h
  exact (copy_any w b (st m) wt m.length h1).mono fun _ _ ⟨k1, k2, k3, k4⟩ => ⟨k1, ⟨wt, k2, h2, h3⟩, k3, k4⟩
end Go.Proofs.YtbhcjdpachboaaaDoor.Pl
end

/- HmacKey -/
section
namespace Go.Proofs.YtbhcjdpachboaaaDoor.Pl
open Go.RowKit

set_option maxRecDepth 100000 in
theorem over_any (h : Nat) (m : List Nat) (hm : Bytes m) (s : ByteArray) (hl : m.length + s.size < 2305843009213693952) (w : World) (hT : Tab w) (hh : Holds w h m) :
    Calls Tryd.prog 97 #[.agg #[.pointer (some ⟨h, 0, none⟩)], .string s] w fun e w' => e = .returned (.string (bytesOf (digest (m ++ nums s)))) ∧ Below w.heap.size w w' := by
  have HL := Lib.hid hl
  have B1 : Hid (Below w.heap.size w (w.alloc (.cells #[.pointer (some ⟨h, 0, none⟩)] 79))) := Lib.hid ((Below.refl _ _).alloc (Nat.le_refl _) _)
  have T1 := Lib.hid (hT.below B1.out)
  have H1 := Lib.hid (hh.below B1.out)
  have HM := Lib.hid hm
  clear hT hl hh hm
  go_enter Tryd.func97, Tryd.ntmps97
  go_wp2_with fail
  generalize w.alloc (.cells #[.pointer (some ⟨h, 0, none⟩)] 79) = W at *
  refine (copy_holds W h m H1.out).mono ?_; rintro e w1 ⟨rfl, h1, hz1, hb1⟩
  have B2 := Lib.hid (B1.out.trans (hb1.mono B1.out.size))
  have T2 := Lib.hid (T1.out.below hb1)
  have H2 := Lib.hid h1
  have Z2 := Lib.hid T1.out.1
  clear h1 hb1 hz1
  go_wp2_with fail
  refine (write_any w1 W.heap.size Z2.out m HM.out s HL.out T2.out H2.out).mono ?_; rintro e w2 ⟨rfl, h2, hb2⟩
  have B3 := Lib.hid (hb2.below B2.out B1.out.size B2.out.size)
  have T3 := Lib.hid (hb2.tab Z2.out T2.out)
  have H3 := Lib.hid h2
  clear h2 hb2
  go_wp2_with fail
  refine (hsum_any w2 W.heap.size (m ++ nums s) (HM.out.append (nums_bytes s)) (by rw [List.length_append, nums_length]; exact HL.out) T3.out H3.out).mono ?_; rintro e w3 ⟨rfl, hb3⟩
  have B4 := Lib.hid (B3.out.trans (hb3.mono B3.out.size))
  clear hb3
  go_wp2_with fail
  go_ret
  exact ⟨rfl, B4.out⟩
end Go.Proofs.YtbhcjdpachboaaaDoor.Pl
end

/- HmacKeysum -/
section
namespace Go.Proofs.YtbhcjdpachboaaaDoor.Pl
open Go.RowKit

theorem ks_keep {w W V : World} {p i o : Nat} {a b : List Nat}
    (h : W.cell? ⟨p, 0, none⟩ = some (.pointer (some ⟨i, 0, none⟩)) ∧ W.cell? ⟨p, 1, none⟩ = some (.pointer (some ⟨o, 0, none⟩)) ∧ Hid (Tab W) ∧ Hid (Holds W i a) ∧ Hid (Holds W o b) ∧ Hid (Below w.heap.size w W)) (hb : Below W.heap.size W V) :
    V.cell? ⟨p, 0, none⟩ = some (.pointer (some ⟨i, 0, none⟩)) ∧ V.cell? ⟨p, 1, none⟩ = some (.pointer (some ⟨o, 0, none⟩)) ∧ Hid (Tab V) ∧ Hid (Holds V i a) ∧ Hid (Holds V o b) ∧ Hid (Below w.heap.size w V) := by
  obtain ⟨h0, h1, h2, h3, h4, h5⟩ := h
  exact ⟨(hb.cell (p := ⟨p, 0, none⟩) (World.block_lt_of_cell? _ _ h0)).trans h0, (hb.cell (p := ⟨p, 1, none⟩) (World.block_lt_of_cell? _ _ h1)).trans h1, Lib.hid (h2.out.below hb), Lib.hid (h3.out.below hb), Lib.hid (h4.out.below hb), Lib.hid (h5.out.trans (hb.mono h5.out.size))⟩
theorem over_in {w W : World} {p i o : Nat} {a b : List Nat} (s : ByteArray) (ha : Hid (Bytes a)) (hl : Hid (a.length + s.size < 2305843009213693952))
    (h : W.cell? ⟨p, 0, none⟩ = some (.pointer (some ⟨i, 0, none⟩)) ∧ W.cell? ⟨p, 1, none⟩ = some (.pointer (some ⟨o, 0, none⟩)) ∧ Hid (Tab W) ∧ Hid (Holds W i a) ∧ Hid (Holds W o b) ∧ Hid (Below w.heap.size w W)) :
    Calls Tryd.prog 97 #[.agg #[.pointer (some ⟨i, 0, none⟩)], .string s] W fun e w' => e = .returned (.string (bytesOf (digest (a ++ nums s)))) ∧ Below W.heap.size W w' :=
  over_any i a ha.out s hl.out W h.2.2.1.out h.2.2.2.1.out
theorem over_out {w W : World} {p i o : Nat} {a b : List Nat} (m : List Nat) (hb : Hid (Bytes b)) (hl : Hid (b.length = 64))
    (h : W.cell? ⟨p, 0, none⟩ = some (.pointer (some ⟨i, 0, none⟩)) ∧ W.cell? ⟨p, 1, none⟩ = some (.pointer (some ⟨o, 0, none⟩)) ∧ Hid (Tab W) ∧ Hid (Holds W i a) ∧ Hid (Holds W o b) ∧ Hid (Below w.heap.size w W)) :
    Calls Tryd.prog 97 #[.agg #[.pointer (some ⟨o, 0, none⟩)], .string (bytesOf (digest m))] W fun e w' => e = .returned (.string (bytesOf (digest (b ++ digest m)))) ∧ Below W.heap.size W w' := by
  have := over_any o b hb.out (bytesOf (digest m)) (by rw [bytesOf_size, digest_length, hl.out]; decide) W h.2.2.1.out h.2.2.2.2.1.out
  rwa [nums_bytesOf (digest_bytes m)] at this

theorem drew_below (w : World) : Below w.heap.size w w.drew := (Below.refl _ _).drew
set_option maxHeartbeats 1000000 in
set_option maxRecDepth 100000 in
theorem keysum_any (p : Nat) (k : ByteArray) (s : ByteArray) (hl : s.size < 2000000000000000000) (w : World) (hT : Tab w) (hK : KeyAt w p (nums k)) :
    Calls Tryd.prog 90 #[.pointer (some ⟨p, 0, none⟩), .string s] w fun e w' => e = .returned (.string (bytesOf (tagOf (nums k) (nums s)))) ∧ Below w.heap.size w w' := by
  obtain ⟨i, o, hc, hi, ho⟩ := hK
  have c0 : w.cell? ⟨p, 0, none⟩ = some (.pointer (some ⟨i, 0, none⟩)) := cell_of_row _ _ _ _ _ _ hc
  have c1 : w.cell? ⟨p, 1, none⟩ = some (.pointer (some ⟨o, 0, none⟩)) := cell_of_row _ _ _ _ _ _ hc
  have KS := ks_keep (w := w) ⟨c0, c1, Lib.hid hT, Lib.hid hi, Lib.hid ho, Lib.hid (Below.refl _ _)⟩ (drew_below w)
  have HA := Lib.hid (pad_bytes 54 (by decide) k)
  have HB := Lib.hid (pad_bytes 92 (by decide) k)
  have LB : Hid ((xorb 92 (kblock (nums k))).length = 64) := Lib.hid (by rw [xorb_length, kblock_length])
  have LA : Hid ((xorb 54 (kblock (nums k))).length + s.size < 2305843009213693952) := Lib.hid (by rw [xorb_length, kblock_length]; omega)
  have ET : Hid (tagOf (nums k) (nums s) = digest (xorb 92 (kblock (nums k)) ++ digest (xorb 54 (kblock (nums k)) ++ nums s))) := Lib.hid (by rw [tagOf])
  generalize xorb 92 (kblock (nums k)) = b at *
  generalize xorb 54 (kblock (nums k)) = a at *
  clear c0 c1 hi ho hT hc hl

  go_enter Tryd.func90, Tryd.ntmps90
  go_wp2_with fail
  go_region_held3 (fun W => W.cell? ⟨p, 0, none⟩ = some (.pointer (some ⟨i, 0, none⟩)) ∧ W.cell? ⟨p, 1, none⟩ = some (.pointer (some ⟨o, 0, none⟩)) ∧ Hid (Tab W) ∧ Hid (Holds W i a) ∧ Hid (Holds W o b) ∧ Hid (Below w.heap.size w W)) (first | assumption | with_reducible exact ks_keep ‹_› ‹_›) (first
    | (go_at_call 97; with_reducible refine (over_in s HA LA ‹_›).mono ?_; rintro e w3 ⟨rfl, hb3⟩)
    | (go_at_call 97; with_reducible refine (over_out _ HB LB ‹_›).mono ?_; rintro e w4 ⟨rfl, hb4⟩))
  go_wp2_with fail
  go_ret
  have hB : _ ∧ _ ∧ _ ∧ _ ∧ _ ∧ Hid (Below w.heap.size w w4) := ‹_ ∧ _›
  exact ⟨by rw [ET.out]; rfl, hB.2.2.2.2.2.out⟩
end Go.Proofs.YtbhcjdpachboaaaDoor.Pl
end

/- SuiteCon -/
section
namespace Go.Proofs.YtbhcjdpachboaaaDoor.Pl
open Go.RowKit

/-- The receiver of suites of bytes. -/
def conV (q : Nat) : Value := .agg #[.pointer (some ⟨q, 0, none⟩)]
theorem cat_key (n : ByteArray) : (⟨#[107, 101, 121, 32]⟩ ++ n : ByteArray).size = 4 + n.size := by rw [ByteArray.size_append]; rfl
theorem bl_join8 (a b : ByteArray) : bl (a ++ b) = bl a ++ bl b := by simp [bl, ByteArray.data_append]
theorem tag_size (k t : ByteArray) : (bytesOf (tagOf (nums k) (nums t))).size = 32 := by rw [bytesOf_size, tagOf_length]
theorem neq0_no {c : Nat} (h : c ≠ 0) : ((c : Int) != 0) = true := by rw [bne_iff_ne]; omega

set_option maxHeartbeats 1000000 in
set_option maxRecDepth 100000 in
theorem ckey8_any (q : Nat) (m n : ByteArray) (hn : n.size ≤ 20000) (w : World) (hT : Keyed w q m) :
    Calls Tryd.prog 92 #[conV q, .string n] w fun e w' => e = .returned (st2 (keyP cryP false (bl m) (bl n))) ∧ Below w.heap.size w w' := by
  have HT := Lib.hid hT
  unfold conV
  obtain ⟨K, hK⟩ : ∃ K : ByteArray, K = ⟨#[107, 101, 121, 32]⟩ ++ n := ⟨_, rfl⟩
  have hs : K.size ≤ 800000 := by rw [hK, cat_key]; omega
  have hb : ([107, 101, 121, 32] ++ bl n : List UInt8) = bl K := by rw [hK, bl_join8]; rfl
  have HA := Lib.hid (fun V => atom6_any n (by omega) V)
  have HS := Lib.hid (fun V (h : Keyed V q m) => keysum_any q m K (by omega) V h.1 h.2)
  have HD := Lib.hid (fun V => data6_any (bytesOf (tagOf (nums m) (nums K))) (by rw [tag_size]; decide) V)
  rw [← cry_mac m K] at HD
  have HE : Hid ((atomP (bl n)).2 ≠ 0 → (atomP (bl n)).1 = []) := Lib.hid atom_err
  have hz : (keyP cryP false (bl m) (bl n)) = if (atomP (bl n)).2 ≠ 0 ∨ false = true then atomP (bl n) else dataP (cryP.mac (bl m) ([107, 101, 121, 32] ++ bl n)) := rfl
  rw [hb] at hz
  have hcat : (⟨#[107, 101, 121, 32]⟩ : ByteArray).size + n.size ≤ 9223372036854775807 := by
    have h4 : (⟨#[107, 101, 121, 32]⟩ : ByteArray).size = 4 := rfl
    omega
  generalize keyP cryP false (bl m) (bl n) = Z at *
  generalize atomP (bl n) = R at *
  generalize dataP (cryP.mac (bl m) (bl K)) = D at *
  generalize bytesOf (tagOf (nums m) (nums K)) = T at *
  obtain ⟨r, x⟩ := R
  obtain ⟨d, y⟩ := D
  dsimp only at hz HE
  unfold st2 at HA HD
  dsimp only at HA HD
  clear hn hs hb hT
  by_cases hx : x = 0
  · subst hx
    rw [if_neg (by simp)] at hz
    subst hz
    subst hK
    clear HE
    go_enter Tryd.func92, Tryd.ntmps92
    have A0 := (Below.refl w.heap.size w).alloc (Nat.le_refl _) (.cells #[.pointer (some ⟨q, 0, none⟩)] 70)
    have B0 := Lib.hid A0
    have T0 := Lib.hid (HT.out.below A0)
    clear A0
    have C0 := Lib.hid (Go.heap_alloc_new w (.cells #[.pointer (some ⟨q, 0, none⟩)] 70))
    go_wp2_with fail
    refine (HA.out _).mono ?_; rintro e w1 ⟨rfl, b1⟩
    have B1 := Lib.hid (below_step B0.out b1)
    have T1 := Lib.hid (T0.out.below b1)
    have C1 := Lib.hid (heap_below b1 C0.out)
    have c0 : w1.cell? ⟨w.heap.size, 0, none⟩ = some (.pointer (some ⟨q, 0, none⟩)) := cell_of_row _ _ _ _ _ _ C1.out
    clear b1
    go_wp2_with fail
    refine (HS.out w1 T1.out).mono ?_; rintro e w2 ⟨rfl, b2⟩
    have B2 := Lib.hid (below_step B1.out b2)
    have T2 := Lib.hid (T1.out.below b2)
    have C2 := Lib.hid (heap_below b2 C1.out)
    clear b2
    go_wp2_with fail
    refine (HD.out w2).mono ?_; rintro e w3 ⟨rfl, b3⟩
    have B3 := Lib.hid (below_step B2.out b3)
    have T3 := Lib.hid (T2.out.below b3)
    have C3 := Lib.hid (heap_below b3 C2.out)
    clear b3
    go_wp2_with fail
    go_ret2
    exact ⟨rfl, B3.out⟩
  · rw [if_pos (.inl hx)] at hz
    have hr := HE.out hx
    have q2 := neq0_no hx
    subst hr
    subst hz
    clear hx HE
    go_enter Tryd.func92, Tryd.ntmps92
    have A0 := (Below.refl w.heap.size w).alloc (Nat.le_refl _) (.cells #[.pointer (some ⟨q, 0, none⟩)] 70)
    have B0 := Lib.hid A0
    have T0 := Lib.hid (HT.out.below A0)
    clear A0
    go_wp2_with fail
    refine (HA.out _).mono ?_; rintro e w1 ⟨rfl, b1⟩
    have B1 := Lib.hid (below_step B0.out b1)
    have T1 := Lib.hid (T0.out.below b1)
    clear b1
    go_wp2_with fail
    go_ret2
    exact ⟨rfl, B1.out⟩

end Go.Proofs.YtbhcjdpachboaaaDoor.Pl
end

/- SuitePub -/
section
namespace Go.Proofs.YtbhcjdpachboaaaDoor.Pl
open Go.RowKit

set_option maxHeartbeats 1000000 in
set_option maxRecDepth 100000 in
theorem key8_any (b : Bool) (m : ByteArray) (n : ByteArray) (hn : n.size ≤ 20000) (p : Nat) (w : World) (hS : SuiteAt w p b m) :
    Calls Tryd.prog 36 #[.pointer (some ⟨p, 0, none⟩), .string n] w fun e w' => e = .returned (st2 (keyP cryP b (bl m) (bl n))) ∧ Below w.heap.size w w' := by
  obtain ⟨hT, ⟨rfl, hc⟩ | ⟨rfl, q, hc, hkk⟩⟩ := hS
  · have H := Lib.hid (skey8_any cryP (bl m) n hn w)
    generalize keyP cryP true (bl m) (bl n) = Z at *
    obtain ⟨r, x⟩ := Z
    unfold st2 symV at H
    unfold st2
    dsimp only at H ⊢
    have c0 : w.cell? ⟨p, 0, none⟩ = some (.iface 62 (.agg #[])) := cell_of_row _ _ _ _ _ _ hc
    clear hc hT hn
    go_enter Tryd.func36, Tryd.ntmps36
    go_wp2_with fail
    refine H.out.mono ?_; rintro e w1 ⟨rfl, b1⟩
    have B1 := Lib.hid b1
    clear b1
    go_wp2_with fail
    go_ret2
    exact ⟨rfl, B1.out⟩
  · have H := Lib.hid (ckey8_any q m n hn w ⟨hT, hkk⟩)
    generalize keyP cryP false (bl m) (bl n) = Z at *
    obtain ⟨r, x⟩ := Z
    unfold st2 conV at H
    unfold st2
    dsimp only at H ⊢
    have c0 : w.cell? ⟨p, 0, none⟩ = some (.iface 70 (.agg #[.pointer (some ⟨q, 0, none⟩)])) := cell_of_row _ _ _ _ _ _ hc
    clear hc hT hkk hn
    go_enter Tryd.func36, Tryd.ntmps36
    go_wp2_with fail
    refine H.out.mono ?_; rintro e w1 ⟨rfl, b1⟩
    have B1 := Lib.hid b1
    clear b1
    go_wp2_with fail
    go_ret2
    exact ⟨rfl, B1.out⟩

end Go.Proofs.YtbhcjdpachboaaaDoor.Pl
end
