/- Which keys organisations share, over plain numbers and bytes; plain mathematics alone. -/
import Derived.Test.YtbhcjdpachboaaaDoorKeysBase1
namespace Go.Proofs.YtbhcjdpachboaaaDoor.Pl

/-- An organisation. -/
def inO (a : Int) : Prop := 0 ≤ a ∧ a < 8
instance (a : Int) : Decidable (inO a) := inferInstanceAs (Decidable (_ ∧ _))
/-- The name of a key of two: its letter, the lower number, the higher one. -/
def nm (c : UInt8) (x y : Nat) : List UInt8 := [c, 47, UInt8.ofNat (48 + min x y), 47, UInt8.ofNat (48 + max x y)]
def nameK (c : UInt8) (a b : Int) : List UInt8 × Nat := if inO a ∧ inO b then (nm c a.toNat b.toNat, 0) else ([], 2)
/-- Whether an organisation is in a set. -/
def setB (s : Nat) (a : Int) : Bool := decide (inO a) && (s / 2 ^ a.toNat % 2 == 1)
def bothK (a b : Nat) : List (List UInt8) := [nm 107 a b, nm 115 a b]
def ofK (a n : Int) : List (List UInt8) := if 1 ≤ n ∧ n ≤ 8 ∧ 0 ≤ a ∧ a < n then (List.range n.toNat).flatMap (bothK a.toNat) else []
def cellK (s a b : Nat) : List (List UInt8) := if a ≤ b ∧ (setB s a = true ∨ setB s b = true) then bothK a b else []
def rowK (s n a : Nat) : List (List UInt8) := (List.range n).flatMap (cellK s a)
def knownK (s : Nat) (n : Int) : List (List UInt8) := if 1 ≤ n ∧ n ≤ 8 then (List.range n.toNat).flatMap (rowK s n.toNat) else []
def listK (s : Nat) (n : Int) : List Nat := if 1 ≤ n ∧ n ≤ 8 then (List.range n.toNat).filter (fun a => setB s a) else []
/-- What a key's name says: its kind, the two numbers, whether it is one. -/
def readK (s : List UInt8) : Nat × Nat × Nat × Bool :=
  match s with
  | [c, p, x, q, y] => if (c = 107 ∨ c = 115) ∧ p = 47 ∧ q = 47 ∧ 48 ≤ x.toNat ∧ x.toNat ≤ y.toNat ∧ y.toNat ≤ 55 then (if c = 107 then 1 else 2, x.toNat - 48, y.toNat - 48, true) else (0, 0, 0, false)
  | _ => (0, 0, 0, false)

theorem nm_comm (c : UInt8) (x y : Nat) : nm c x y = nm c y x := by simp [nm, Nat.min_comm, Nat.max_comm]
theorem nameK_comm (c : UInt8) (a b : Int) : nameK c a b = nameK c b a := by
  unfold nameK
  by_cases h : inO a ∧ inO b
  · rw [if_pos h, if_pos ⟨h.2, h.1⟩, nm_comm]
  · rw [if_neg h, if_neg (fun e => h ⟨e.2, e.1⟩)]
theorem dig_eq {x y : Nat} (hx : x < 8) (hy : y < 8) (h : UInt8.ofNat (48 + x) = UInt8.ofNat (48 + y)) : x = y := by
  have := congrArg UInt8.toNat h
  rw [UInt8.toNat_ofNat', UInt8.toNat_ofNat'] at this
  omega
theorem nm_eq {c d : UInt8} {x y u v : Nat} (hx : x < 8) (hy : y < 8) (hu : u < 8) (hv : v < 8) : nm c x y = nm d u v ↔ c = d ∧ ((x = u ∧ y = v) ∨ (x = v ∧ y = u)) := by
  constructor
  · intro h
    simp only [nm, List.cons.injEq, and_true, true_and] at h
    obtain ⟨h1, h2, h3⟩ := h
    have h2 := dig_eq (by omega) (by omega) h2
    have h3 := dig_eq (by omega) (by omega) h3
    exact ⟨h1, by omega⟩
  · rintro ⟨rfl, ⟨rfl, rfl⟩ | ⟨rfl, rfl⟩⟩
    · rfl
    · exact nm_comm _ _ _
theorem dig_nat {x : Nat} (hx : x < 8) : (UInt8.ofNat (48 + x)).toNat = 48 + x := by rw [UInt8.toNat_ofNat']; omega
theorem read_nm {c : UInt8} (hc : c = 107 ∨ c = 115) {x y : Nat} (hx : x < 8) (hy : y < 8) : readK (nm c x y) = (if c = 107 then 1 else 2, min x y, max x y, true) := by
  unfold readK nm
  have h1 := dig_nat (x := min x y) (by omega)
  have h2 := dig_nat (x := max x y) (by omega)
  dsimp only
  rw [h1, h2, if_pos ⟨hc, rfl, rfl, by omega, by omega, by omega⟩]
  simp
theorem read_is {s : List UInt8} {k x y : Nat} (h : readK s = (k, x, y, true)) : x ≤ y ∧ y < 8 ∧ ((k = 1 ∧ s = nm 107 x y) ∨ (k = 2 ∧ s = nm 115 x y)) := by
  unfold readK at h
  split at h
  · rename_i c p u q v
    split at h
    · rename_i hc
      obtain ⟨h1, rfl, rfl, h2, h3, h4⟩ := hc
      simp only [Prod.mk.injEq, and_true] at h
      obtain ⟨hk, rfl, rfl⟩ := h
      have hu : UInt8.ofNat (48 + (u.toNat - 48)) = u := by
        apply UInt8.toNat_inj.1
        rw [UInt8.toNat_ofNat']
        omega
      have hv : UInt8.ofNat (48 + (v.toNat - 48)) = v := by
        apply UInt8.toNat_inj.1
        rw [UInt8.toNat_ofNat']
        omega
      refine ⟨by omega, by omega, ?_⟩
      have hmin : min (u.toNat - 48) (v.toNat - 48) = u.toNat - 48 := by omega
      have hmax : max (u.toNat - 48) (v.toNat - 48) = v.toNat - 48 := by omega
      rcases h1 with rfl | rfl
      · exact .inl ⟨by simpa using hk.symm, by rw [nm, hmin, hmax, hu, hv]⟩
      · exact .inr ⟨by simpa using hk.symm, by rw [nm, hmin, hmax, hu, hv]⟩
    · simp at h
  · simp at h
theorem read_not {s : List UInt8} (h : ∀ x y, x ≤ y → y < 8 → s ≠ nm 107 x y ∧ s ≠ nm 115 x y) : readK s = (0, 0, 0, false) := by
  rcases hr : readK s with ⟨k, x, y, b⟩
  cases b with
  | true =>
    obtain ⟨h1, h2, h3⟩ := read_is hr
    have := h x y h1 h2
    rcases h3 with ⟨_, e⟩ | ⟨_, e⟩
    · exact absurd e this.1
    · exact absurd e this.2
  | false =>
    unfold readK at hr
    split at hr
    · split at hr
      · simp at hr
      · exact hr.symm
    · exact hr.symm
theorem mem_both {c : UInt8} {x y a b : Nat} (hc : c = 107 ∨ c = 115) (hx : x < 8) (hy : y < 8) (ha : a < 8) (hb : b < 8) : nm c x y ∈ bothK a b ↔ (x = a ∧ y = b) ∨ (x = b ∧ y = a) := by
  simp only [bothK, List.mem_cons, List.not_mem_nil, or_false]
  rw [nm_eq hx hy ha hb, nm_eq hx hy ha hb]
  rcases hc with rfl | rfl <;> simp
/-- Whose keys an organisation's are. -/
theorem mem_of {c : UInt8} {x y : Nat} {a n : Int} (hc : c = 107 ∨ c = 115) (hx : x < 8) (hy : y < 8) (hn : 1 ≤ n ∧ n ≤ 8) (ha : 0 ≤ a ∧ a < n) :
    nm c x y ∈ ofK a n ↔ ((x : Int) = a ∧ (y : Int) < n) ∨ ((y : Int) = a ∧ (x : Int) < n) := by
  unfold ofK
  rw [if_pos ⟨hn.1, hn.2, ha.1, ha.2⟩, List.mem_flatMap]
  constructor
  · rintro ⟨b, hb, h⟩
    rw [List.mem_range] at hb
    rw [mem_both hc hx hy (by omega) (by omega)] at h
    omega
  · rintro (⟨h1, h2⟩ | ⟨h1, h2⟩)
    · exact ⟨y, by rw [List.mem_range]; omega, (mem_both hc hx hy (by omega) hy).2 (.inl ⟨by omega, rfl⟩)⟩
    · exact ⟨x, by rw [List.mem_range]; omega, (mem_both hc hx hy (by omega) hx).2 (.inr ⟨rfl, by omega⟩)⟩
theorem mem_known {c : UInt8} {x y s : Nat} {n : Int} (hc : c = 107 ∨ c = 115) (hx : x < 8) (hy : y < 8) (hn : 1 ≤ n ∧ n ≤ 8) :
    nm c x y ∈ knownK s n ↔ (x : Int) < n ∧ (y : Int) < n ∧ (setB s x = true ∨ setB s y = true) := by
  unfold knownK
  rw [if_pos hn, List.mem_flatMap]
  constructor
  · rintro ⟨a, ha, h⟩
    rw [List.mem_range] at ha
    obtain ⟨b, hb, h⟩ := List.mem_flatMap.1 h
    rw [List.mem_range] at hb
    unfold cellK at h
    split at h
    · rename_i hs
      rw [mem_both hc hx hy (by omega) (by omega)] at h
      rcases h with ⟨rfl, rfl⟩ | ⟨rfl, rfl⟩
      · exact ⟨by omega, by omega, hs.2⟩
      · exact ⟨by omega, by omega, hs.2.symm⟩
    · cases h
  · rintro ⟨h1, h2, h3⟩
    by_cases hxy : x ≤ y
    · refine ⟨x, by rw [List.mem_range]; omega, List.mem_flatMap.2 ⟨y, by rw [List.mem_range]; omega, ?_⟩⟩
      unfold cellK
      rw [if_pos ⟨hxy, h3⟩, mem_both hc hx hy hx hy]
      exact .inl ⟨rfl, rfl⟩
    · refine ⟨y, by rw [List.mem_range]; omega, List.mem_flatMap.2 ⟨x, by rw [List.mem_range]; omega, ?_⟩⟩
      unfold cellK
      rw [if_pos ⟨by omega, h3.symm⟩, mem_both hc hx hy hy hx]
      exact .inr ⟨rfl, rfl⟩
theorem not_known {c : UInt8} {x y s : Nat} {n : Int} (hn : ¬ (1 ≤ n ∧ n ≤ 8)) : nm c x y ∉ knownK s n := by
  unfold knownK
  rw [if_neg hn]
  exact List.not_mem_nil
theorem not_of {c : UInt8} {x y : Nat} {a n : Int} (hn : ¬ (1 ≤ n ∧ n ≤ 8 ∧ 0 ≤ a ∧ a < n)) : nm c x y ∉ ofK a n := by
  unfold ofK
  rw [if_neg hn]
  exact List.not_mem_nil
end Go.Proofs.YtbhcjdpachboaaaDoor.Pl
