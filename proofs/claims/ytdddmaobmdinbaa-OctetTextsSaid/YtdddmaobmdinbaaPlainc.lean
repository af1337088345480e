/- No encoding begins with another one; rows of as many texts with one encoding are one row. Plain mathematics alone. -/
import Derived.Test.YtdddmaobmdinbaaPlainb
namespace Go.Proofs.Ytdddmaobmdinbaa.Pl

theorem enc_cut {v u : Nat} (hv : v < 256 ^ 8) (hu : u < 256 ^ 8) (h : (enc v).take (enc u).length = enc u) : v = u := by
  have h1 := rdn_enc hv []
  have h2 := rdn_enc hu ((enc v).drop (enc u).length)
  rw [List.append_nil] at h1
  have e : enc u ++ (enc v).drop (enc u).length = enc v := by
    conv => lhs; rw [← h]
    rw [List.length_take]
    by_cases hl : (enc u).length ≤ (enc v).length
    · rw [Nat.min_eq_left hl, List.take_append_drop]
    · rw [Nat.min_eq_right (by omega), List.take_of_length_le (by omega), List.drop_of_length_le (by omega), List.append_nil]
  rw [e, h1] at h2
  exact (Prod.mk.inj h2).1
theorem txt_front {x y r s : List UInt8} (hx : x.length < 256 ^ 8) (hy : y.length < 256 ^ 8) (h : txt x ++ r = txt y ++ s) : x = y ∧ r = s := by
  have h1 := rdt_txt hx r (x.length + y.length : Nat) (by omega)
  have h2 := rdt_txt hy s (x.length + y.length : Nat) (by omega)
  rw [h, h2] at h1
  have e : x = y := (Prod.mk.inj h1).1.symm
  subst e
  exact ⟨rfl, List.append_cancel_left h⟩
theorem txt_cut {x y : List UInt8} (hx : x.length < 256 ^ 8) (hy : y.length < 256 ^ 8) (h : (txt x).take (txt y).length = txt y) : x = y := by
  have e : txt x ++ [] = txt y ++ (txt x).drop (txt y).length := by
    rw [List.append_nil]
    conv => lhs; rw [← List.take_append_drop (txt y).length (txt x), h]
  exact (txt_front hx hy e).1
end Go.Proofs.Ytdddmaobmdinbaa.Pl
