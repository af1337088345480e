/- What octet.Num answers. -/
import Derived.Test.YtfghhhghhjbiaaaPlain
import Derived.Test.YtfghhhghhjbiaaaCommon
import Derived.Test.YtfghhhghhjbiaaaProg
import Derived.WalkKit
import Derived.Outline
import Derived.Handy
import Derived.Lib.Hide
import Derived.Laws.IdiomStrings
namespace Go.Proofs.Ytfghhhghhjbiaaa.Pl
open Go.RowKit

theorem conv_tail (w : World) (b off len cap : Nat) (l : List UInt8) (hl : l.length = len) (hc : ∀ j (hj : j < l.length), w.cell? ⟨b, off + j, none⟩ = some (.int .u8 (l[j].toNat : Int))) :
    (convert 72 9 (.slice (some ⟨b, off, none⟩) len cap)).run Try.prog w = .ok (.string ⟨l.toArray⟩) w := by
  subst hl
  exact run_convert_bytes_back w _ _ _ ⟨b, off, none⟩ cap l Try.underlying72 Try.underlying5 Try.underlying9 (fun j hj => by
    rw [show (⟨b, off, none⟩ : Addr).add j = ⟨b, off + j, none⟩ from by unfold Addr.add; split <;> simp_all]
    exact hc j hj)

theorem conv_lit (w : World) (C : Array Value) (t off len cap : Nat) (ns : List Nat) (h : ∀ n, n ∈ ns → n < 256) (hl : ns.length = len)
    (hC : C.toList.drop off = ns.map fun (n : Nat) => Value.int .u8 (n : Int)) :
    (convert 72 9 (.slice (some ⟨w.heap.size, off, none⟩) len cap)).run Try.prog (w.alloc (.cells C t)) = .ok (.string ⟨(ns.map UInt8.ofNat).toArray⟩) (w.alloc (.cells C t)) := by
  refine conv_tail _ _ _ _ _ (ns.map UInt8.ofNat) (by simpa using hl) ?_
  intro j hj
  rw [World.cell?_alloc_mark]
  have hj' : j < ns.length := by simpa using hj
  have h1 : (C.toList.drop off)[j]? = some (.int .u8 (ns[j] : Int)) := by rw [hC]; simp [hj']
  rw [List.getElem?_drop, Array.getElem?_toList] at h1
  rw [h1]
  have h2 := h ns[j] (List.getElem_mem hj')
  have h3 : ((ns.map UInt8.ofNat)[j]).toNat = ns[j] := by simp; omega
  rw [h3]

set_option maxRecDepth 100000 in
theorem num_any (v : Nat) (h8 : v < 256 ^ 8) (w : World) :
    Calls Try.prog 63 #[.int .u64 v] w fun e w' => e = .returned (.string ⟨(enc v).toArray⟩) ∧ Below w.heap.size w w' := by
  have h9 : v < 18446744073709551616 := by rw [two64] at h8; exact h8
  clear h8
  by_cases hv : v < 248
  · go_enter Try.func63, Try.ntmps63
    go_wp2
    rw [conv_lit w _ 93 8 1 1 [v] (by intro n hn; simp at hn; omega) rfl (by simp)]
    go_wp2
    go_ret
    refine ⟨?_, (Below.refl _ _).alloc (Nat.le_refl _) _⟩
    rw [enc_small hv]; rfl
  · go_enter Try.func63, Try.ntmps63
    go_wp2
    go_rounds 9
    · rw [conv_lit w _ 93 0 9 9 ((247 + 8) :: dn 8 v) (by intro n hn; simp [dn] at hn; omega) rfl (by simp [dn]; try omega)]
      go_wp2; go_ret
      refine ⟨?_, (Below.refl _ _).alloc (Nat.le_refl _) _⟩
      rw [enc_dn (k := 8) (by omega) hv (by simp; omega) (by simp; omega)]; rfl
    · rw [conv_lit w _ 93 1 8 8 ((247 + 7) :: dn 7 v) (by intro n hn; simp [dn] at hn; omega) rfl (by simp [dn]; try omega)]
      go_wp2; go_ret
      refine ⟨?_, (Below.refl _ _).alloc (Nat.le_refl _) _⟩
      rw [enc_dn (k := 7) (by omega) hv (by simp; omega) (by simp; omega)]; rfl
    · rw [conv_lit w _ 93 2 7 7 ((247 + 6) :: dn 6 v) (by intro n hn; simp [dn] at hn; omega) rfl (by simp [dn]; try omega)]
      go_wp2; go_ret
      refine ⟨?_, (Below.refl _ _).alloc (Nat.le_refl _) _⟩
      rw [enc_dn (k := 6) (by omega) hv (by simp; omega) (by simp; omega)]; rfl
    · rw [conv_lit w _ 93 3 6 6 ((247 + 5) :: dn 5 v) (by intro n hn; simp [dn] at hn; omega) rfl (by simp [dn]; try omega)]
      go_wp2; go_ret
      refine ⟨?_, (Below.refl _ _).alloc (Nat.le_refl _) _⟩
      rw [enc_dn (k := 5) (by omega) hv (by simp; omega) (by simp; omega)]; rfl
    · rw [conv_lit w _ 93 4 5 5 ((247 + 4) :: dn 4 v) (by intro n hn; simp [dn] at hn; omega) rfl (by simp [dn]; try omega)]
      go_wp2; go_ret
      refine ⟨?_, (Below.refl _ _).alloc (Nat.le_refl _) _⟩
      rw [enc_dn (k := 4) (by omega) hv (by simp; omega) (by simp; omega)]; rfl
    · rw [conv_lit w _ 93 5 4 4 ((247 + 3) :: dn 3 v) (by intro n hn; simp [dn] at hn; omega) rfl (by simp [dn]; try omega)]
      go_wp2; go_ret
      refine ⟨?_, (Below.refl _ _).alloc (Nat.le_refl _) _⟩
      rw [enc_dn (k := 3) (by omega) hv (by simp; omega) (by simp; omega)]; rfl
    · rw [conv_lit w _ 93 6 3 3 ((247 + 2) :: dn 2 v) (by intro n hn; simp [dn] at hn; omega) rfl (by simp [dn]; try omega)]
      go_wp2; go_ret
      refine ⟨?_, (Below.refl _ _).alloc (Nat.le_refl _) _⟩
      rw [enc_dn (k := 2) (by omega) hv (by simp; omega) (by simp; omega)]; rfl
    · rw [conv_lit w _ 93 7 2 2 ((247 + 1) :: dn 1 v) (by intro n hn; simp [dn] at hn; omega) rfl (by simp [dn]; try omega)]
      go_wp2; go_ret
      refine ⟨?_, (Below.refl _ _).alloc (Nat.le_refl _) _⟩
      rw [enc_dn (k := 1) (by omega) hv (by simp; omega) (by simp; omega)]; rfl
end Go.Proofs.Ytfghhhghhjbiaaa.Pl
