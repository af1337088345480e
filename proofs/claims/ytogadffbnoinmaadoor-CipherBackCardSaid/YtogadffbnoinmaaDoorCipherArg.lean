/- An array of bytes that came in as an argument. -/
import Derived.Test.YtogadffbnoinmaaDoorShaSpec
import Derived.Test.YtogadffbnoinmaaDoorShaRowk
import Derived.ProofKit
import Derived.OpenShut
namespace Go.Proofs.YtogadffbnoinmaaDoor.Pl
open Go.RowKit

theorem open_bytes {H : Type} {enc : TypeId × Value → H} {P : Program} {w : World} {r : Reach} {b0 base : Nat} {sp : Nat → Bool} {held : Bool} {t e : TypeId} {n : Nat} {v : Value} {d : DataW H} {ps : List MemPlace}
    (ht : P.underlying t = some (.array n e)) (he : P.underlying e = some (.int .u8)) (hce : P.cellsOf e = 1) (hct : P.cellsOf t = n)
    (hv : Value.okWide P w r b0 t v) (h : DataW.Trod enc P w base sp held t v d ps) : ∃ l : List Nat, v = .agg (row .u8 l) ∧ l.length = n ∧ Bytes l := by
  have hcs : ∃ cs, v = .agg cs ∧ cs.size = P.cellsOf t := by
    unfold Value.okWide at hv
    rw [ht] at hv
    obtain ⟨cs, h1, h2, _⟩ := hv
    exact ⟨cs, h1, h2⟩
  obtain ⟨cs, rfl, hsz⟩ := hcs
  rw [hct] at hsz
  obtain ⟨fuel, hf⟩ := h
  obtain ⟨xs, m, _, _, _, hxl, hel⟩ := DataW.trod_array ht hf
  have hone : ∀ i, i < n → ∃ x : Nat, x < 256 ∧ cs[i]? = some (.int .u8 (x : Int)) := by
    intro i hi
    have h1 := hel i hi
    rw [hce, Nat.mul_one, List.getElem?_eq_getElem (by omega)] at h1
    obtain ⟨y, hy, _, hw⟩ := DataW.trod_int he h1
    have hy' : (cs.toList.drop i).take 1 = [.int .u8 y] := hy
    have hil : i < cs.toList.length := by simpa [hsz] using hi
    rw [List.drop_eq_getElem_cons hil, List.take_succ_cons, List.take_zero] at hy'
    injection hy' with hy' _
    have hr : 0 ≤ y ∧ y ≤ 255 := by simpa [Lit.wf, IntKind.min, IntKind.max, IntKind.signed, IntKind.bits] using hw
    obtain ⟨k, rfl⟩ := Int.eq_ofNat_of_zero_le hr.1
    refine ⟨k, by omega, ?_⟩
    rw [← hy', ← Array.getElem?_toList, List.getElem?_eq_getElem hil]
  refine ⟨cs.toList.map fun v => match v with | .int _ y => y.toNat | _ => 0, ?_, by simp [hsz], ?_⟩
  · congr 1
    apply Array.ext'
    apply List.ext_getElem?
    intro i
    by_cases hi : i < n
    · obtain ⟨x, _, hx⟩ := hone i hi
      rw [← Array.getElem?_toList] at hx
      simp [row, hx]
    · have h1 : cs.toList.length ≤ i := by simpa [hsz] using Nat.le_of_not_lt hi
      rw [List.getElem?_eq_none h1, List.getElem?_eq_none (by simpa [row] using h1)]
  · intro y hy
    obtain ⟨v, hv', rfl⟩ := List.mem_map.1 hy
    obtain ⟨i, hi, hiv⟩ := List.mem_iff_getElem.1 hv'
    have hin : i < n := by simpa [hsz] using hi
    obtain ⟨x, hx, hc⟩ := hone i hin
    rw [← Array.getElem?_toList, List.getElem?_eq_getElem hi, hiv] at hc
    injection hc with hc
    subst hc
    simpa using hx
end Go.Proofs.YtogadffbnoinmaaDoor.Pl
