/- What the program's own Terms answers. -/
import Derived.Test.YtbhcjdpachboaaaDoorKeysOwn
import Derived.Test.YtbhcjdpachboaaaDoorKeysRefF
import Derived.Test.YtbhcjdpachboaaaDoorKeysBase6
import Derived.Test.YtbhcjdpachboaaaDoorKeysMore
namespace Go.Proofs.YtbhcjdpachboaaaDoor.Pl
open Go.RowKit

set_option maxHeartbeats 4000000 in
set_option maxRecDepth 100000 in
theorem kterms_any (b : Bool) (m : ByteArray) (l : List ByteArray) (ao : Option Addr) (cap : Nat) (hl : l.length ≤ 80) (hx : ∀ x ∈ l, x.size ≤ 1000) (p : Nat) (w : World) (hS : SuiteAt w p b m) (_hT : KeyTab w) (hrow : TxtRow w ao l) :
    Calls Tryd.prog 25 #[.pointer (some ⟨p, 0, none⟩), .slice ao l.length cap] w fun e w' => GivesTE w (termsK (keyP cryP b (bl m)) (l.map bl)) e w' ∧ Below w.heap.size w w' := by
  obtain ⟨i0, hi, hz0, hz1, hz2'⟩ := info_parts infoStr
  have HI0 := Lib.hid hi
  clear hi
  have S0 := Lib.hid hS
  have R0 := Lib.hid hrow
  have HK : Hid (∀ k, (hk : k < l.length) → ∀ V : World, SuiteAt V p b m → Calls Tryd.prog 36 #[.pointer (some ⟨p, 0, none⟩), .string l[k]] V fun e w' => e = .returned (st2 (keyP cryP b (bl m) (bl l[k]))) ∧ Below V.heap.size V w') := Lib.hid (fun k hk V hV => key8_any b m l[k] (by have := hx _ (List.getElem_mem hk); omega) p V hV)
  generalize keyP cryP b (bl m) = f at *
  obtain ⟨P, hP⟩ : ∃ P, P = termsK f (l.map bl) := ⟨_, rfl⟩
  rw [← hP]
  have HP := Lib.hid hP
  obtain ⟨n, hn⟩ : ∃ n, n = l.length := ⟨_, rfl⟩
  rw [← hn] at hl ⊢
  have HN := Lib.hid hn
  clear hS hrow hx hP hn
  go_enter Tryd.func25, Tryd.ntmps25
  go_wp2_with fail
  go_loopw [6, 15] (fun lv iv wr => ∃ (k : Nat) (D : List ByteArray), iv = .int .i64 k ∧ k ≤ n ∧ Hid (D.length = k) ∧ Hid (termsK f ((l.map bl).take k) = (D.map bl, 0)) ∧ Hid (OwnT wr w.heap.size lv D) ∧ Hid (Below w.heap.size w wr)) (fun _ iv _ => n - (intOf iv).toNat)
  case atStart => exact ⟨0, [], rfl, Nat.zero_le _, Lib.hid rfl, Lib.hid (by simp [termsK]), Lib.hid (ownT_nil _ _), Lib.hid (Below.refl _ _)⟩
  case round =>
    obtain ⟨k, D, rfl, hkn, hD, hi, hown, hb⟩ := hrel
    by_cases hk : k < n
    · have hk' : (k : Int) < (n : Int) := by omega
      have hkl : k < l.length := by rw [← HN.out]; exact hk
      have hkm : k < (l.map bl).length := by rw [List.length_map]; exact hkl
      have HQ := Lib.hid (HK.out k hkl wr (S0.out.below hb.out))
      rcases R0.out.below hb.out with e | ⟨g, off, rfl, hlt, hc⟩
      · exfalso
        rw [e] at hkl
        exact absurd hkl (Nat.not_lt_zero _)
      have ck := hc k hkl
      have eg : l.getD k ByteArray.empty = l[k] := by simp [List.getD_eq_getElem?_getD, hkl]
      rw [eg] at ck
      have em : (l.map bl)[k] = bl l[k] := by simp
      have HSTOP : Hid (∀ x, x ≠ 0 → (f (bl l[k])).2 = x → P = ([], x)) := Lib.hid (fun x hx e => by rw [HP.out]; exact termsK_stop hkm hi.out (by rw [em]; exact Prod.ext rfl e) hx)
      have HMORE : Hid ((f (bl l[k])).2 = 0 → ∀ y : ByteArray, bl y = (f (bl l[k])).1 → termsK f ((l.map bl).take (k + 1)) = ((D ++ [y]).map bl, 0)) := Lib.hid (fun e y hy => by
        rw [List.map_append]
        exact termsK_more hkm hi.out (by rw [em]; exact Prod.ext hy.symm e))
      generalize f (bl l[k]) = Y at *
      obtain ⟨y, x⟩ := Y
      dsimp only at HSTOP HMORE
      obtain ⟨z, hz⟩ : ∃ z : ByteArray, z = ⟨y.toArray⟩ := ⟨_, rfl⟩
      have hbz : Hid (bl z = y) := Lib.hid (by rw [hz]; exact bl_mk _)
      unfold st2 at HQ
      dsimp only at HQ
      rw [← hz] at HQ
      clear hz eg em
      generalize l[k] = t at *
      clear hc hlt hkm
      go_wp2_with fail
      refine HQ.out.mono ?_; rintro e w3 ⟨rfl, b3⟩
      have B3 := Lib.hid (step9 hb.out b3)
      have O3 := Lib.hid (ownT_below hown.out b3)
      have HZ3 : Hid (w.heap.size ≤ w3.heap.size) := Lib.hid B3.out.size
      have HDL : Hid (D.length ≤ 1000) := Lib.hid (by rw [hD.out]; omega)
      clear b3 ck
      by_cases hx : x = 0
      · subst hx
        have HM := Lib.hid (HMORE.out rfl z hbz.out)
        have HD3 : Hid ((D ++ [z]).length = k + 1) := Lib.hid (by simp [hD.out])
        clear HSTOP HMORE
        go_wp2_with (at_builtin; refine wpList_append_own _ rfl _ _ 30 rfl w.heap.size 9 i0 (.string ⟨#[]⟩) 1 16 Tryd.underlying30 HI0.out hz0 hz1 hz2' rfl (by decide) _ _ _ rfl (World.ownsRow.alloc O3.out _) ⟨w3.heap.size, 0, none⟩ 1 1 [.string z] rfl rfl ?c1 ?c2 ?c3 ?c4 ?c5 ?_)
        case c1 =>
          intro j u hj
          match j, hj with
          | 0, hj => simp at hj; subst hj; simp [Addr.add]
          | (j + 1), hj => simp at hj
        case c2 => intro u hu; simp at hu; subst hu; rfl
        case c3 => have := HDL.out; unfold maxLen; omega
        case c4 => have := HDL.out; omega
        case c5 => have := HZ3.out; simp; omega
        intro v' w4 hown' hgrow _
        have HO : Hid (OwnT w4 w.heap.size v' (D ++ [z])) := Lib.hid (by
          have h := hown'
          unfold OwnT
          rw [show txts (D ++ [z]) = txts D ++ [.string z] by simp [txts], List.length_append, List.length_singleton]
          exact h)
        have B4 : Hid (Below w.heap.size w w4) := Lib.hid ((B3.out.alloc (by have := HZ3.out; omega) _).grown hgrow (by have := HZ3.out; simp; omega) (fun j hj => (O3.out.lt _ hj).1))
        clear hown' hgrow
        go_wp2_with fail
        go_roundw
        case rel => exact ⟨k + 1, D ++ [z], by go_num, by omega, HD3, HM, HO, B4⟩
        case measure => simp [intOf]; omega
      · have q2 : ((x : Int) != 0) = true := by rw [bne_iff_ne]; omega
        have HS' := Lib.hid (HSTOP.out x hx rfl)
        clear HSTOP HMORE
        go_wp2_with fail
        go_ret2
        rw [HS'.out]
        exact ⟨⟨_, rfl, fun e => absurd e hx, fun _ => rfl⟩, B3.out⟩
    · obtain rfl : k = n := by omega
      have hE : P = (D.map bl, 0) := by rw [HP.out, ← hi.out, List.take_of_length_le (by rw [List.length_map, ← HN.out]; exact Nat.le_refl _)]
      have HE := Lib.hid hE
      clear hk hkn hE
      go_wp2_with fail
      go_ret2
      rw [HE.out]
      exact ⟨⟨_, rfl, fun _ => ⟨D, hown.out, rfl⟩, fun e => absurd rfl e⟩, hb.out⟩
end Go.Proofs.YtbhcjdpachboaaaDoor.Pl
