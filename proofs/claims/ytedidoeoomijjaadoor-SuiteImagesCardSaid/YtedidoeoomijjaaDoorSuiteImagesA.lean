/- SuiteImages answers true, whatever it is given: the first ways. -/
import Derived.Test.YtedidoeoomijjaaDoorSuiteBackLaw
namespace Go.Proofs.YtedidoeoomijjaaDoor.Pl
open Go.RowKit

set_option maxRecDepth 100000 in
theorem imaged8_any (m t s : ByteArray) (ht : t.size ≤ 20000) (e : Nat) (h : image8P cryP false (bl m) (bl t) = (bl s, e)) (p : Nat) (w : World) (hS : SuiteAt w p false m) :
    Calls Tryd.prog 20 #[.pointer (some ⟨p, 0, none⟩), .string t, .string s, .int .i64 (e : Int)] w fun e w' => e = .returned (.bool true) ∧ Below w.heap.size w w' := by
  have HI := Lib.hid (pimage8_any false m t ht p w hS)
  rw [h, st2_bl] at HI
  clear h ht hS
  by_cases he : e = 0
  · subst he
    go_enter Tryd.func20, Tryd.ntmps20
    go_wp2_with fail
    refine HI.out.mono ?_; rintro e w1 ⟨rfl, b1⟩
    have B1 := Lib.hid b1
    clear b1
    go_wp2_with fail
    go_ret
    exact ⟨rfl, B1.out⟩
  · have q := neq0_no he
    clear he
    go_enter Tryd.func20, Tryd.ntmps20
    go_wp2_with fail
    refine HI.out.mono ?_; rintro e w1 ⟨rfl, b1⟩
    have B1 := Lib.hid b1
    clear b1
    go_wp2_with fail
    go_ret
    exact ⟨rfl, B1.out⟩
theorem image_short (m t : List UInt8) : (image8P cryP false m t).1.length ≤ 16384 := by
  by_cases h : checkP t = 0
  · obtain ⟨T, tv, _, tr⟩ := treeOf_some h
    rw [image_tree tr]
    exact img_short _ _ tv
  · simp [image8P, treeOf_none h]
theorem short_of {R : List UInt8 × Nat} {r : List UInt8} {x : Nat} (h : R.1.length ≤ 16384) (e : (r, x) = R) : (⟨r.toArray⟩ : ByteArray).size ≤ 20000 := by
  rw [← e] at h
  exact ba_size20 h

set_option maxRecDepth 100000 in
theorem images_none (m name k n t : ByteArray) (h : ¬ (1 ≤ m.size ∧ m.size ≤ 64)) (w : World) (hT : Tab w) :
    Calls Tryd.prog 6 #[.string m, .string name, .string k, .string n, .string t] w fun e w' => e = .returned (.bool true) ∧ Below w.heap.size w w' := by
  have T0 := Lib.hid hT
  have HN := Lib.hid (fun V h => new_terms ⟨#[]⟩ V h)
  have HG := Lib.hid (new_none 2 m (by decide) (fun e => h e.2))
  have HA := Lib.hid (fun V h => alive8_any V h)
  clear hT h
  go_enter Tryd.func6, Tryd.ntmps6
  go_wp2_with fail
  refine (HN.out _ T0.out).mono ?_; rintro e w1 ⟨⟨p, rfl, s1⟩, b1⟩
  have B1 := Lib.hid b1
  have T1 := Lib.hid (T0.out.below b1)
  have S1 := Lib.hid s1
  clear b1 s1
  go_wp2_with fail
  refine (HG.out _).mono ?_; rintro e w2 ⟨rfl, rfl⟩
  go_wp2_with fail
  refine (HA.out _ T1.out).mono ?_; rintro e w3 ⟨rfl, b3⟩
  have B3 := Lib.hid (below_step B1.out b3)
  have T3 := Lib.hid (T1.out.below b3)
  have S3 := Lib.hid (S1.out.below b3)
  clear b3
  go_wp2_with fail
  go_ret
  exact ⟨rfl, B3.out⟩
set_option maxRecDepth 100000 in
theorem images_long (m name k n t : ByteArray) (h1 : 1 ≤ m.size) (h2 : m.size ≤ 64) (hl : longB k n t name = true) (w : World) (hT : Tab w) :
    Calls Tryd.prog 6 #[.string m, .string name, .string k, .string n, .string t] w fun e w' => e = .returned (.bool true) ∧ Below w.heap.size w w' := by
  have T0 := Lib.hid hT
  have HN := Lib.hid (fun V h => new_terms ⟨#[]⟩ V h)
  have HG := Lib.hid (fun V h => new_bytes m h1 h2 V h)
  have HL := Lib.hid (fun V => long8_any k n t name V)
  rw [hl] at HL
  have HA := Lib.hid (fun V h => alive8_any V h)
  clear hT h1 h2 hl
  go_enter Tryd.func6, Tryd.ntmps6
  go_wp2_with fail
  refine (HN.out _ T0.out).mono ?_; rintro e w1 ⟨⟨p, rfl, s1⟩, b1⟩
  have B1 := Lib.hid b1
  have T1 := Lib.hid (T0.out.below b1)
  have S1 := Lib.hid s1
  clear b1 s1
  go_wp2_with fail
  refine (HG.out _ T1.out).mono ?_; rintro e w2 ⟨⟨q, rfl, s2⟩, b2⟩
  have B2 := Lib.hid (below_step B1.out b2)
  have T2 := Lib.hid (T1.out.below b2)
  have S2 := Lib.hid (S1.out.below b2)
  have G2 := Lib.hid s2
  clear b2 s2
  go_wp2_with fail
  refine (HL.out _).mono ?_; rintro e w3 ⟨rfl, rfl⟩
  go_wp2_with fail
  refine (HA.out _ T2.out).mono ?_; rintro e w4 ⟨rfl, b4⟩
  have B4 := Lib.hid (below_step B2.out b4)
  have T4 := Lib.hid (T2.out.below b4)
  have S4 := Lib.hid (S2.out.below b4)
  have G4 := Lib.hid (G2.out.below b4)
  clear b4
  go_wp2_with fail
  go_ret
  exact ⟨rfl, B4.out⟩
end Go.Proofs.YtedidoeoomijjaaDoor.Pl
