/- What the reader's next and parts read. -/
import Derived.Test.YtiehhlolhhjgpaaGreatDoorShowNextB
import Derived.Test.YtiehhlolhhjgpaaGreatDoorShowNextC0
import Derived.Test.YtiehhlolhhjgpaaGreatDoorShowNextC1
import Derived.Test.YtiehhlolhhjgpaaGreatDoorShowNextC2
import Derived.Test.YtiehhlolhhjgpaaGreatDoorShowNextC3
namespace Go.Proofs.YtiehhlolhhjgpaaGreatDoor.Pl
open Go.RowKit

theorem pre_two (a b c : UInt8) (r : List UInt8) (h : ¬ (c = a ∧ r.head? = some b)) : ([a, b] : List UInt8).isPrefixOf (c :: r) = false := by
  rw [prefix_two]
  refine decide_eq_false (fun e => h ?_)
  cases r with
  | nil => simp at e
  | cons x r => simp at e; exact ⟨e.1, by rw [e.2]; rfl⟩
theorem nextm_any (B : Nat) (hB : B ≠ 0) : ∀ d : Nat, d ≤ 16 → ∀ (s : List UInt8) (V : World), s.length ≤ 1000000000 → At7 B s V → Frames V →
    Calls Tryz.prog 38 #[rdV B, .int .i64 (17 - (d : Int))] V (RdPost B V (nxt d s)) := by
  intro d
  induction d with
  | zero =>
    intro _ s V _ h _
    exact next_deep B s V h
  | succ d ih =>
    intro hd s V hs h hF
    obtain ⟨D, hD⟩ : ∃ D : Int, D = 17 - ((d + 1 : Nat) : Int) := ⟨_, rfl⟩
    have hD1 : D ≤ 16 := by omega
    have hD0 : 0 ≤ D := by omega
    rw [← hD]
    have hDn : (17 - (d : Int)) = D + 1 := by omega
    have IH : ∀ (s : List UInt8) (V : World), s.length ≤ 1000000000 → At7 B s V → Frames V → Calls Tryz.prog 38 #[rdV B, .int .i64 (D + 1)] V (RdPost B V (nxt d s)) := fun s V h1 h2 h3 => by
      have := ih (by omega) s V h1 h2 h3
      rwa [hDn] at this
    have PA : ∀ (fin : UInt8) (s : List UInt8) (V : World), s.length ≤ 1000000000 → At7 B s V → Frames V → Calls Tryz.prog 69 #[rdV B, .string ⟨#[fin]⟩, .int .i64 (D + 1)] V (PartsN B V (nParts (nxt d) fin s)) := fun fin s V h1 h2 h3 =>
      partsm_any (nxt d) (nxt_fits d) B hB (D + 1) IH fin s h1 V h2 h3
    cases s with
    | nil =>
      have e : nxt (d + 1) [] = none := rfl
      rw [e]
      exact next_none B hB [] D hD1 V h hF rfl rfl rfl rfl rfl rfl rfl
    | cons c r =>
      by_cases h34 : c = 34
      · subst h34
        have e : nxt (d + 1) (34 :: r) = nPlain r := by rw [nxt, if_pos rfl]
        rw [e]
        exact next_quote B hB r hs D hD1 V h
      by_cases h120 : c = 120
      · subst h120
        have e : nxt (d + 1) (120 :: r) = nBytes r := by rw [nxt, if_neg (by decide), if_pos rfl]
        rw [e]
        exact next_x B hB r hs D hD1 V h
      by_cases h36 : c = 36
      · subst h36
        have e : nxt (d + 1) (36 :: r) = nAtom r := by rw [nxt, if_neg (by decide), if_neg (by decide), if_pos rfl]
        rw [e]
        exact next_atom B hB r hs D hD1 V h
      by_cases h91 : c = 91
      · subst h91
        have e : nxt (d + 1) (91 :: r) = nMade2 91 (nParts (nxt d) 93 r) := by rw [nxt, if_neg (by decide), if_neg (by decide), if_neg (by decide), if_pos rfl]
        rw [e]
        exact next_frame0 B hB (nxt d) (nxt_fits d) r hs D hD1 V h hD0 hF (PA 93)
      have e : nxt (d + 1) (c :: r) = (if (c = 104 ∨ c = 109 ∨ c = 115) ∧ r.head? = some 40 then nMade2 c (nParts (nxt d) 41 (r.drop 1)) else none) := by rw [nxt, if_neg h34, if_neg h120, if_neg h36, if_neg h91]
      rw [e]
      by_cases hc : (c = 104 ∨ c = 109 ∨ c = 115) ∧ r.head? = some 40
      · rw [if_pos hc]
        obtain ⟨hc, h40⟩ := hc
        cases r with
        | nil => cases h40
        | cons x r =>
          obtain rfl : x = 40 := Option.some.inj h40
          show Calls _ _ _ _ (RdPost B V (nMade2 c (nParts (nxt d) 41 r)))
          rcases hc with rfl | rfl | rfl
          · exact next_frame1 B hB (nxt d) (nxt_fits d) r hs D hD1 V h hD0 hF (PA 41)
          · exact next_frame2 B hB (nxt d) (nxt_fits d) r hs D hD1 V h hD0 hF (PA 41)
          · exact next_frame3 B hB (nxt d) (nxt_fits d) r hs D hD1 V h hD0 hF (PA 41)
      · rw [if_neg hc]
        exact next_none B hB (c :: r) D hD1 V h hF (pre_no _ _ _ h34) (pre_no _ _ _ h120) (pre_no _ _ _ h36) (pre_no _ _ _ h91) (pre_two _ _ _ _ (fun k => hc ⟨.inl k.1, k.2⟩)) (pre_two _ _ _ _ (fun k => hc ⟨.inr (.inl k.1), k.2⟩)) (pre_two _ _ _ _ (fun k => hc ⟨.inr (.inr k.1), k.2⟩))
end Go.Proofs.YtiehhlolhhjgpaaGreatDoor.Pl
