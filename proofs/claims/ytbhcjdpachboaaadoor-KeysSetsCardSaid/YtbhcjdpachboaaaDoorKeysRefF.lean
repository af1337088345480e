/- What the document's Terms answers, where what its suite's Key answers is known. -/
import Derived.Test.YtbhcjdpachboaaaDoorKeysRefE
import Derived.Test.YtbhcjdpachboaaaDoorKeysBase1
import Derived.Deep.RegionHeld3
namespace Go.Proofs.YtbhcjdpachboaaaDoor.Pl
open Go.RowKit

theorem tm_keep {w1 W V : World} {b g o : Nat} {c : Int} {m x : ByteArray}
    (h : W.cell? ⟨b, 0, none⟩ = some (.int .u8 c) ∧ W.cell? ⟨b, 1, none⟩ = some (.string m) ∧ W.cell? ⟨g, o, none⟩ = some (.string x) ∧ Hid (Below w1.heap.size w1 W)) (hb : Below W.heap.size W V) :
    V.cell? ⟨b, 0, none⟩ = some (.int .u8 c) ∧ V.cell? ⟨b, 1, none⟩ = some (.string m) ∧ V.cell? ⟨g, o, none⟩ = some (.string x) ∧ Hid (Below w1.heap.size w1 V) := by
  obtain ⟨h0, h1, h2, h3⟩ := h
  exact ⟨(hb.cell (p := ⟨b, 0, none⟩) (World.block_lt_of_cell? _ _ h0)).trans h0, (hb.cell (p := ⟨b, 1, none⟩) (World.block_lt_of_cell? _ _ h1)).trans h1, (hb.cell (p := ⟨g, o, none⟩) (World.block_lt_of_cell? _ _ h2)).trans h2, Lib.hid (h3.out.trans (hb.mono h3.out.size))⟩
/-- What Terms hands back: the keys, in a row that the call owns, or the first error. -/
def GivesTE (w : World) (R : List (List UInt8) × Nat) (e : Ending) (w' : World) : Prop :=
  ∃ v, e = .returned (.tuple #[v, .int .i64 (R.2 : Int)]) ∧ (R.2 = 0 → ∃ L, OwnT w' w.heap.size v L ∧ L.map bl = R.1) ∧ (R.2 ≠ 0 → v = .slice none 0 0)
theorem drew9 (w : World) : Below w.heap.size w w.drew := below_drewN (Below.refl w.heap.size w) 1
theorem step9 {a b c : World} (h : Below a.heap.size a b) (k : Below b.heap.size b c) : Below a.heap.size a c := h.trans (k.mono h.size)
theorem own_low9 {w : World} {A B : Nat} {v : Value} {l : List ByteArray} (h : A ≤ B) (ho : OwnT w B v l) : OwnT w A v l :=
  ⟨ho.1, ho.2.elim .inl fun ⟨g, cap, cur, e1, e2, rest⟩ => .inr ⟨g, cap, cur, e1, Nat.le_trans h e2, rest⟩⟩
set_option maxHeartbeats 4000000 in
set_option maxRecDepth 100000 in
theorem rterms9_by (f : List UInt8 → List UInt8 × Nat) (c : Int) (m : ByteArray) (l : List ByteArray) (ao : Option Addr) (cap : Nat) (hlen : l.length ≤ 1000)
    (hK : ∀ x ∈ l, ∀ V : World, Calls Tryd.prog 37 #[.agg #[.int .u8 c, .string m], .string x] V fun e w' => e = .returned (st2 (f (bl x))) ∧ Below V.heap.size V w') (w : World) (hrow : TxtRow w ao l) :
    Calls Tryd.prog 26 #[.agg #[.int .u8 c, .string m], .slice ao l.length cap] w fun e w' => GivesTE w (termsK f (l.map bl)) e w' ∧ Below w.heap.size w w' := by
  obtain ⟨i0, hi, hz0, hz1, hz2'⟩ := info_parts infoStr
  have HI0 := Lib.hid hi
  clear hi
  have HK : Hid (∀ k, (hk : k < l.length) → ∀ V : World, Calls Tryd.prog 37 #[.agg #[.int .u8 c, .string m], .string l[k]] V fun e w' => e = .returned (st2 (f (bl l[k]))) ∧ Below V.heap.size V w') := Lib.hid (fun k hk V => hK _ (List.getElem_mem hk) V)
  have A0 := (Below.refl w.heap.size w).alloc (Nat.le_refl _) (.cells #[.int .u8 c, .string m] 45)
  have B0 := Lib.hid A0
  have C0 := Lib.hid (Go.heap_alloc_new w (.cells #[.int .u8 c, .string m] 45))
  have R0 := Lib.hid (hrow.below A0)
  have Z0 : Hid (w.heap.size ≤ (w.alloc (.cells #[.int .u8 c, .string m] 45)).heap.size) := Lib.hid A0.size
  obtain ⟨P, hP⟩ : ∃ P, P = termsK f (l.map bl) := ⟨_, rfl⟩
  rw [← hP]
  have HP := Lib.hid hP
  obtain ⟨n, hn⟩ : ∃ n, n = l.length := ⟨_, rfl⟩
  rw [← hn] at hlen ⊢
  have HN := Lib.hid hn
  clear hK A0 hrow hP hn
  go_enter Tryd.func26, Tryd.ntmps26
  go_wp2_with fail
  generalize hw1 : w.alloc (.cells #[.int .u8 c, .string m] 45) = w1 at *
  clear hw1
  go_loopw [6, 7] (fun lv iv wr => ∃ (k : Nat) (D : List ByteArray), iv = .int .i64 k ∧ k ≤ n ∧ Hid (D.length = k) ∧ Hid (termsK f ((l.map bl).take k) = (D.map bl, 0)) ∧ Hid (OwnT wr w1.heap.size lv D) ∧ Hid (Below w1.heap.size w1 wr)) (fun _ iv _ => n - (intOf iv).toNat)
  case atStart => exact ⟨0, [], rfl, Nat.zero_le _, Lib.hid rfl, Lib.hid (by simp [termsK]), Lib.hid (ownT_nil _ _), Lib.hid (Below.refl _ _)⟩
  case round =>
    obtain ⟨k, D, rfl, hkn, hD, hi, hown, hb⟩ := hrel
    have B2 := Lib.hid (step9 B0.out hb.out)
    by_cases hk : k < n
    · have hk' : (k : Int) < (n : Int) := by omega
      have hkl : k < l.length := by rw [← HN.out]; exact hk
      have hkm : k < (l.map bl).length := by rw [List.length_map]; exact hkl
      rcases R0.out.below hb.out with e | ⟨g, off, rfl, hlt, hc⟩
      · exfalso
        rw [e] at hkl
        exact absurd hkl (Nat.not_lt_zero _)
      have ck := hc k hkl
      have eg : l.getD k ByteArray.empty = l[k] := by simp [List.getD_eq_getElem?_getD, hkl]
      rw [eg] at ck
      have C2 := (hb.out.block _ (Array.getElem?_eq_some_iff.1 C0.out).1).trans C0.out
      have c0 : wr.cell? ⟨w.heap.size, 0, none⟩ = some (.int .u8 c) := cell_of_row _ _ _ _ _ _ C2
      have c1 : wr.cell? ⟨w.heap.size, 1, none⟩ = some (.string m) := cell_of_row _ _ _ _ _ _ C2
      have HQ := Lib.hid (HK.out k hkl)
      have em : (l.map bl)[k] = bl l[k] := by simp
      have HSTOP : Hid (∀ x, x ≠ 0 → (f (bl l[k])).2 = x → P = ([], x)) := Lib.hid (fun x hx e => by rw [HP.out]; exact termsK_stop hkm hi.out (by rw [em]; exact Prod.ext rfl e) hx)
      have HMORE : Hid ((f (bl l[k])).2 = 0 → ∀ y : ByteArray, bl y = (f (bl l[k])).1 → termsK f ((l.map bl).take (k + 1)) = ((D ++ [y]).map bl, 0)) := Lib.hid (fun e y hy => by
        rw [List.map_append]
        exact termsK_more hkm hi.out (by rw [em]; exact Prod.ext hy.symm e))
      generalize f (bl l[k]) = Y at *
      obtain ⟨y, x⟩ := Y
      dsimp only at HSTOP HMORE
      obtain ⟨z, hz⟩ : ∃ z : ByteArray, z = ⟨y.toArray⟩ := ⟨_, rfl⟩
      have hbz : Hid (bl z = y) := Lib.hid (by rw [hz]; exact bl_mk _)
      unfold st2 at HQ
      dsimp only at HQ
      rw [← hz] at HQ
      clear hz eg em
      generalize l[k] = t at *
      obtain ⟨o, ho⟩ : ∃ o, o = off + k := ⟨_, rfl⟩
      clear hc hlt C2 hkm
      go_wp2_with fail
      have KS := tm_keep (w1 := w1) (W := wr) (b := w.heap.size) (g := g) (o := off + k) (m := m) ⟨c0, c1, ck, hb⟩ (drew9 wr)
      go_region_held3 (fun W => W.cell? ⟨w.heap.size, 0, none⟩ = some (.int .u8 c) ∧ W.cell? ⟨w.heap.size, 1, none⟩ = some (.string m) ∧ W.cell? ⟨g, off + k, none⟩ = some (.string t) ∧ Hid (Below w1.heap.size w1 W)) (first | assumption | with_reducible exact tm_keep ‹_› ‹_›) (first | (go_at_call 37; refine (HQ.out _).mono ?_; rintro e w3 ⟨rfl, b3⟩))
      have B3 := Lib.hid (step9 KS.2.2.2.out b3)
      have hd : Below wr.heap.size wr w3 := step9 (drew9 wr) b3
      have O3 := Lib.hid (ownT_below hown.out hd)
      have HZ3 : Hid (w1.heap.size ≤ w3.heap.size) := Lib.hid B3.out.size
      have HDL : Hid (D.length ≤ 1000) := Lib.hid (by rw [hD.out]; omega)
      clear hd b3 KS c0 c1 ck ho
      by_cases hx : x = 0
      · subst hx
        have HM := Lib.hid (HMORE.out rfl z hbz.out)
        have HD3 : Hid ((D ++ [z]).length = k + 1) := Lib.hid (by simp [hD.out])
        clear HSTOP HMORE
        go_wp2_with (at_builtin; refine wpList_append_own _ rfl _ _ 30 rfl w1.heap.size 9 i0 (.string ⟨#[]⟩) 1 16 Tryd.underlying30 HI0.out hz0 hz1 hz2' rfl (by decide) _ _ _ rfl (World.ownsRow.alloc O3.out _) ⟨w3.heap.size, 0, none⟩ 1 1 [.string z] rfl rfl ?c1 ?c2 ?c3 ?c4 ?c5 ?_)
        case c1 =>
          intro j u hj
          match j, hj with
          | 0, hj => simp at hj; subst hj; simp [Addr.add]
          | (j + 1), hj => simp at hj
        case c2 => intro u hu; simp at hu; subst hu; rfl
        case c3 => have := HDL.out; unfold maxLen; omega
        case c4 => have := HDL.out; omega
        case c5 => have := HZ3.out; simp; omega
        intro v' w4 hown' hgrow _
        have HO : Hid (OwnT w4 w1.heap.size v' (D ++ [z])) := Lib.hid (by
          have h := hown'
          unfold OwnT
          rw [show txts (D ++ [z]) = txts D ++ [.string z] by simp [txts], List.length_append, List.length_singleton]
          exact h)
        have B4 : Hid (Below w1.heap.size w1 w4) := Lib.hid ((B3.out.alloc (by have := HZ3.out; omega) _).grown hgrow (by have := HZ3.out; simp; omega) (fun j hj => (O3.out.lt _ hj).1))
        clear hown' hgrow
        go_wp2_with fail
        go_roundw
        case rel => exact ⟨k + 1, D ++ [z], by go_num, by omega, HD3, HM, HO, B4⟩
        case measure => simp [intOf]; omega
      · have q2 : ((x : Int) != 0) = true := by rw [bne_iff_ne]; omega
        have HS' := Lib.hid (HSTOP.out x hx rfl)
        clear HSTOP HMORE
        go_wp2_with fail
        go_ret2
        rw [HS'.out]
        exact ⟨⟨_, rfl, fun e => absurd e hx, fun _ => rfl⟩, step9 B0.out B3.out⟩
    · obtain rfl : k = n := by omega
      have hE : P = (D.map bl, 0) := by rw [HP.out, ← hi.out, List.take_of_length_le (by rw [List.length_map, ← HN.out]; exact Nat.le_refl _)]
      have HE := Lib.hid hE
      have HO := Lib.hid (own_low9 Z0.out hown.out)
      clear hk hkn hE
      go_wp2_with fail
      go_ret2
      rw [HE.out]
      exact ⟨⟨_, rfl, fun _ => ⟨D, HO.out, rfl⟩, fun e => absurd rfl e⟩, B2.out⟩
end Go.Proofs.YtbhcjdpachboaaaDoor.Pl
