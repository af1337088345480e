/- What the document's own Num and digits answer: the same encoding. -/
import Derived.Test.YtfghhhghhjbiaaaNum
import Derived.Deep.RegionWith
import Derived.WalkLawsBesides
namespace Go.Proofs.Ytfghhhghhjbiaaa.Pl
open Go.RowKit

theorem conv_at (W : World) (b : Nat) (x : Int) (h : W.cell? ⟨b, 0, none⟩ = some (.int .u8 x)) :
    (convert 72 9 (.slice (some ⟨b, 0, none⟩) 1 1)).run Try.prog W = .ok (.string ⟨#[UInt8.ofNat x.toNat]⟩) W := by
  rw [run_convert_bytes_string W _ _ _ (some ⟨b, 0, none⟩) 1 1 Try.underlying72 Try.underlying5 Try.underlying9]
  have hl := run_loadCells_list (P := Try.prog) W ⟨b, 0, none⟩ ([x].map (Value.int .u8)) (fun j v hj => by
    have hj' := (List.getElem?_eq_some_iff.1 hj).1
    obtain rfl : j = 0 := by simp at hj'; omega
    simp at hj
    rw [← hj]
    exact h)
  rw [run_bytesToString W ⟨b, 0, none⟩ 1 1 [x] hl]
  rfl
theorem conv_new (W : World) (x : Int) (T : TypeId) :
    (convert 72 9 (.slice (some ⟨W.heap.size, 0, none⟩) 1 1)).run Try.prog (W.alloc (.cells #[.int .u8 x] T)) = .ok (.string ⟨#[UInt8.ofNat x.toNat]⟩) (W.alloc (.cells #[.int .u8 x] T)) :=
  conv_at _ _ x (by rw [World.cell?_alloc_mark]; rfl)
theorem conv_newd (W : World) (x : Int) (T : TypeId) :
    (convert 72 9 (.slice (some ⟨W.heap.size, 0, none⟩) 1 1)).run Try.prog (W.alloc (.cells #[.int .u8 x] T)).drew = .ok (.string ⟨#[UInt8.ofNat x.toNat]⟩) (W.alloc (.cells #[.int .u8 x] T)).drew :=
  conv_at _ _ x (by rw [show (W.alloc (.cells #[.int .u8 x] T)).drew.cell? ⟨W.heap.size, 0, none⟩ = (W.alloc (.cells #[.int .u8 x] T)).cell? ⟨W.heap.size, 0, none⟩ from rfl, World.cell?_alloc_mark]; rfl)
attribute [local go_sem] conv_new conv_newd
theorem conv_kept {a w1 : World} (hb : Below a.heap.size a w1) (x : Int) : ∀ b, a.cell? ⟨b, 0, none⟩ = some (.int .u8 x) →
    (convert 72 9 (.slice (some ⟨b, 0, none⟩) 1 1)).run Try.prog w1 = .ok (.string ⟨#[UInt8.ofNat x.toNat]⟩) w1 :=
  fun b h => conv_at w1 b x ((hb.cell (p := ⟨b, 0, none⟩) (World.block_lt_of_cell? _ _ h)).trans h)



set_option maxRecDepth 100000 in
theorem digits_any (f : Nat) : ∀ (v : Nat) (w : World), v < 256 ^ f → f ≤ 8 →
    Calls Try.prog 82 #[.int .u64 v] w fun e w' => e = .returned (.string ⟨(dig f v).toArray⟩) ∧ Below w.heap.size w w' := by
  induction f with
  | zero =>
    intro v w hv _
    obtain rfl : v = 0 := by simpa using hv
    go_enter Try.func82, Try.ntmps82
    go_wp2_with fail
    go_ret
    exact ⟨rfl, Below.refl _ _⟩
  | succ f ih =>
    intro v w hv hf
    by_cases h0 : v = 0
    · subst h0
      go_enter Try.func82, Try.ntmps82
      go_wp2_with fail
      go_ret
      exact ⟨rfl, Below.refl _ _⟩
    · have hz : ((v : Int) == 0) = false := by rw [beq_eq_false_iff_ne]; omega
      have h9 : v < 18446744073709551616 := by rw [← two64]; exact Nat.lt_of_lt_of_le hv (Nat.pow_le_pow_right (by decide) hf)
      have hl := dig_length_le f (v / 256)
      have ih' : ∀ W, Calls Try.prog 82 #[.int .u64 ((v : Int) / 256)] W fun e w' => e = .returned (.string ⟨(dig f (v / 256)).toArray⟩) ∧ Below W.heap.size W w' := fun W => by
        have h := ih (v / 256) W (by rw [Nat.pow_succ] at hv; omega) (by omega)
        have e : ((v / 256 : Nat) : Int) = (v : Int) / 256 := by omega
        rw [e] at h
        exact h
      have IH := Lib.hid ih'
      have HD := Lib.hid (dig_succ f v h0)
      clear ih ih' hv h0
      go_enter Try.func82, Try.ntmps82
      go_wp2_with fail

      have hw1 : IntKind.u64.wrap ((v : Int) / 256) = (v : Int) / 256 := IntWalk.u64_in _ (by omega)
      have hw2 : IntKind.u64.wrap ((v : Int) % 256) = (v : Int) % 256 := IntWalk.u64_in _ (by omega)
      have hw4 : (v : Int).tmod 256 = (v : Int) % 256 := Int.tmod_eq_emod_of_nonneg (by omega)
      have hw3 : IntKind.u8.wrap ((v : Int) % 256) = (v : Int) % 256 := IntWalk.u8_in _ (by omega)
      go_region_with (go_at_call 82; refine (IH.out _).mono ?_; rintro e w1 ⟨rfl, hb⟩; have hcv := conv_kept hb ((v : Int) % 256))
      all_goals go_wp2_with fail
      all_goals go_ret
      all_goals refine ⟨ret_str (by rw [HD.out]; exact ByteArray.mk_append_mk _ _), ?_⟩
      · exact (below_undrew hb).alloc (below_undrew hb).size _
      · exact below_step ((Below.refl _ _).alloc (Nat.le_refl _) _) (below_undrew hb)
      · exact below_step ((Below.refl _ _).alloc (Nat.le_refl _) _) (below_undrew hb)

set_option maxRecDepth 100000 in
theorem refnum_any (v : Nat) (h8 : v < 256 ^ 8) (w : World) :
    Calls Try.prog 65 #[.int .u64 v] w fun e w' => e = .returned (.string ⟨(enc v).toArray⟩) ∧ Below w.heap.size w w' := by
  by_cases hv : v < 248
  · go_enter Try.func65, Try.ntmps65
    go_wp2_with fail
    go_ret
    exact ⟨ret_str (by rw [enc_small hv]), (Below.refl _ _).alloc (Nat.le_refl _) _⟩
  · have hl := dig_length_le 8 v
    have HD := Lib.hid (fun W => digits_any 8 v W h8 (Nat.le_refl _))
    have HE := Lib.hid (enc_big hv)
    clear h8
    go_enter Try.func65, Try.ntmps65
    go_wp2_with fail
    refine (HD.out _).mono ?_; rintro e w1 ⟨rfl, hb⟩
    go_wp2_with fail
    go_ret
    refine ⟨ret_str ?_, hb.alloc hb.size _⟩
    rw [HE.out, ByteArray.mk_append_mk, UInt8.ofNat_add]
    rfl
end Go.Proofs.Ytfghhhghhjbiaaa.Pl
