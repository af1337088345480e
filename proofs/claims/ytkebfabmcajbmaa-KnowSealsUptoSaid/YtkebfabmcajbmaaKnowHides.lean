/- What stands and hides of layer 10's statements answer. -/
import Derived.Test.YtkebfabmcajbmaaKnowSealsP
import Derived.Test.YtkebfabmcajbmaaTermHas
import Derived.Test.YtkebfabmcajbmaaTermJoin
namespace Go.Proofs.Ytkebfabmcajbmaa.Pl
open Go.RowKit

set_option maxHeartbeats 1000000 in
set_option maxRecDepth 100000 in
theorem stands10_any (l : List ByteArray) (ao : Option Addr) (cap : Nat) (hlen : l.length ≤ 1000000) (hsz : ∀ x ∈ l, x.size ≤ 1000000) (t : ByteArray) (ht : t.size ≤ 1000000) (w : World) (hrow : TxtRow w ao l) :
    Calls Try.prog 13 #[.slice ao l.length cap, .string t] w fun e w' => e = .returned (.bool (l.any fun x => hasP (bl x) (bl t))) ∧ Below w.heap.size w w' := by
  have HR := Lib.hid hrow
  have HH : Hid (∀ k, (hk : k < l.length) → ∀ V, Calls Try.prog 28 #[.string l[k], .string t] V fun e w' => e = .returned (.bool (hasP (bl l[k]) (bl t))) ∧ Below V.heap.size V w') := Lib.hid (fun k hk V => has6_any l[k] t (by have := hsz _ (List.getElem_mem hk); omega) (by omega) V)
  obtain ⟨z, hz⟩ : ∃ z, (l.any fun x => hasP (bl x) (bl t)) = z := ⟨_, rfl⟩
  have HYES : Hid (∀ k, (hk : k < l.length) → hasP (bl l[k]) (bl t) = true → z = true) := Lib.hid (fun k hk h => by
    rw [← hz]
    exact List.any_eq_true.2 ⟨l[k], List.getElem_mem hk, h⟩)
  have HNO : Hid ((∀ k, (hk : k < l.length) → hasP (bl l[k]) (bl t) = false) → z = false) := Lib.hid (fun h => by
    rw [← hz, List.any_eq_false]
    intro x hx
    obtain ⟨k, hk, rfl⟩ := List.getElem_of_mem hx
    rw [h k hk]
    decide)
  rw [hz]
  obtain ⟨n, hn⟩ : ∃ n, n = l.length := ⟨_, rfl⟩
  have HN := Lib.hid hn
  rw [← hn] at hlen ⊢
  clear hrow hn hsz ht hz
  go_enter Try.func13, Try.ntmps13
  go_wp2_with fail
  go_loopw [5] (fun iv wr => ∃ k : Nat, iv = .int .i64 k ∧ k ≤ n ∧ Hid (∀ j, (hj : j < l.length) → j < k → hasP (bl l[j]) (bl t) = false) ∧ Hid (Below w.heap.size w wr)) (fun iv _ => n - (intOf iv).toNat)
  case atStart => exact ⟨0, rfl, Nat.zero_le _, Lib.hid (fun j _ hj => absurd hj (Nat.not_lt_zero j)), Lib.hid (Below.refl _ _)⟩
  case round =>
    obtain ⟨k, rfl, hkn, hall, hb⟩ := hrel
    by_cases hk : k < n
    · have hk' : (k : Int) < (n : Int) := by omega
      have hkl : k < l.length := by rw [← HN.out]; exact hk
      rcases HR.out.below hb.out with e | ⟨g, off, rfl, hlt, hc⟩
      · exfalso
        rw [e] at hkl
        exact absurd hkl (Nat.not_lt_zero _)
      have ck := hc k hkl
      have eg : l.getD k ByteArray.empty = l[k] := by simp [List.getD_eq_getElem?_getD, hkl]
      rw [eg] at ck
      have HC := Lib.hid (HH.out k hkl wr)
      have HY := Lib.hid (HYES.out k hkl)
      have HGO : Hid (hasP (bl l[k]) (bl t) = false → ∀ j, (hj : j < l.length) → j < k + 1 → hasP (bl l[j]) (bl t) = false) := Lib.hid (fun e j hj hjk => by
        by_cases h : j < k
        · exact hall.out j hj h
        · obtain rfl : j = k := by omega
          exact e)
      generalize hasP (bl l[k]) (bl t) = y at *
      generalize l[k] = x at *
      clear hc hlt eg
      cases y with
      | true =>
        obtain rfl := HY.out rfl
        go_wp2_with fail
        refine HC.out.mono ?_; rintro e w2 ⟨rfl, b2⟩
        have B2 := Lib.hid (below_step hb.out b2)
        clear b2
        go_wp2_with fail
        go_ret
        exact ⟨rfl, B2.out⟩
      | false =>
        have HG := Lib.hid (HGO.out rfl)
        go_wp2_with fail
        refine HC.out.mono ?_; rintro e w2 ⟨rfl, b2⟩
        have B2 := Lib.hid (below_step hb.out b2)
        clear b2
        go_wp2_with fail
        go_roundw
        case rel => exact ⟨k + 1, by go_num, by omega, HG, B2⟩
        case measure => simp [intOf]; omega
    · obtain rfl : k = n := by omega
      obtain rfl := HNO.out (fun j hj => hall.out j hj (by rw [HN.out]; exact hj))
      clear hk hkn
      go_wp2_with fail
      go_ret
      exact ⟨rfl, hb.out⟩
theorem st2_mk (x : List UInt8) (n : Nat) : st2 (x, n) = .tuple #[.string ⟨x.toArray⟩, .int .i64 n] := rfl
set_option maxHeartbeats 1000000 in
set_option maxRecDepth 100000 in
theorem hides10_any (d : Nat) (hd : d < 256) (k t s u : ByteArray) (hk : k.size ≤ 20000) (ht : t.size ≤ 20000) (hs : s.size ≤ 20000) (hu : u.size ≤ 20000) (w : World) :
    Calls Try.prog 14 #[.int .u8 d, .string k, .string t, .string s, .string u] w fun e w' => e = .returned (st2 (hidesP d (bl k) (bl t) (bl s) (bl u))) ∧ Below w.heap.size w w' := by
  have H0 := Lib.hid (fun V => seal6_any k t s (by omega) (by omega) (by omega) V)
  have H1 := Lib.hid (fun V => mac6_any k u (by omega) (by omega) V)
  have H2 := Lib.hid (fun V => hash6_any s (by omega) V)
  have H3 := Lib.hid (fun V => hash6_any k (by omega) V)
  have H4 := Lib.hid (fun V => mac6_any u s (by omega) (by omega) V)
  by_cases d0 : d = 0
  · subst d0
    rw [show hidesP 0 (bl k) (bl t) (bl s) (bl u) = madeP [115] [bl k, bl t, bl s] from rfl]
    generalize madeP [115] [bl k, bl t, bl s] = z at *
    obtain ⟨x, n⟩ := z
    rw [st2_mk] at H0 ⊢
    clear H1 H2 H3 H4 hk ht hs hu hd
    go_enter Try.func14, Try.ntmps14
    go_wp2_with fail
    refine (H0.out _).mono ?_; rintro e w1 ⟨rfl, b1⟩
    go_wp2_with fail
    go_ret2
    exact ⟨rfl, b1⟩
  have q0 : ((d : Int) == 0) = false := by rw [beq_eq_false_iff_ne]; omega
  by_cases d1 : d = 1
  · subst d1
    rw [show hidesP 1 (bl k) (bl t) (bl s) (bl u) = madeP [109] [bl k, bl u] from rfl]
    generalize madeP [109] [bl k, bl u] = z at *
    obtain ⟨x, n⟩ := z
    rw [st2_mk] at H1 ⊢
    clear H0 H2 H3 H4 hk ht hs hu hd d0
    go_enter Try.func14, Try.ntmps14
    go_wp2_with fail
    refine (H1.out _).mono ?_; rintro e w1 ⟨rfl, b1⟩
    go_wp2_with fail
    go_ret2
    exact ⟨rfl, b1⟩
  have q1 : ((d : Int) == 1) = false := by rw [beq_eq_false_iff_ne]; omega
  by_cases d2 : d = 2
  · subst d2
    rw [show hidesP 2 (bl k) (bl t) (bl s) (bl u) = madeP [104] [bl s] from rfl]
    generalize madeP [104] [bl s] = z at *
    obtain ⟨x, n⟩ := z
    rw [st2_mk] at H2 ⊢
    clear H0 H1 H3 H4 hk ht hs hu hd d0 d1
    go_enter Try.func14, Try.ntmps14
    go_wp2_with fail
    refine (H2.out _).mono ?_; rintro e w1 ⟨rfl, b1⟩
    go_wp2_with fail
    go_ret2
    exact ⟨rfl, b1⟩
  have q2 : ((d : Int) == 2) = false := by rw [beq_eq_false_iff_ne]; omega
  by_cases d3 : d = 3
  · subst d3
    obtain ⟨a, n, ha⟩ : ∃ a n, madeP [115] [bl k, bl t, bl s] = (a, n) := ⟨_, _, rfl⟩
    obtain ⟨b, m, hb⟩ : ∃ b m, madeP [104] [bl k] = (b, m) := ⟨_, _, rfl⟩
    have hz : hidesP 3 (bl k) (bl t) (bl s) (bl u) = (if n = 0 ∧ m = 0 then rowP [bl u, a, b] else ([], 5)) := by
      unfold hidesP
      rw [if_neg (by decide), if_neg (by decide), if_neg (by decide), if_pos rfl, ha, hb]
    rw [hz]
    rw [ha, st2_mk] at H0
    rw [hb, st2_mk] at H3
    have small : ∀ {h : List UInt8} {l : List (List UInt8)} {r : List UInt8}, madeP h l = (r, 0) → r.length ≤ 16384 := fun {h l r} e => by
      unfold madeP at e
      split at e
      · split at e
        · rename_i h2
          injection e with e _
          rw [← e]
          exact check_len h2
        · injection e with _ e
          cases e
      · injection e with _ e
        cases e
    by_cases hn : n = 0
    · subst hn
      by_cases hm : m = 0
      · subst hm
        rw [if_pos ⟨rfl, rfl⟩]
        have h1 := small ha
        have h2 := small hb
        have HROW : Hid (∀ V ao, TxtRow V ao [u, tb10 a, tb10 b] → Calls Try.prog 15 #[.slice ao 3 3] V fun e w' => e = .returned (st2 (rowP [bl u, a, b])) ∧ Below V.heap.size V w') := Lib.hid (fun V ao hr => row6_any [u, tb10 a, tb10 b] ao 3 (by simp) (by simp) (by
          intro x hx
          simp only [List.mem_cons, List.not_mem_nil, or_false] at hx
          rcases hx with rfl | rfl | rfl
          · omega
          · rw [size_bl, bl_tb10]; omega
          · rw [size_bl, bl_tb10]; omega) V hr)
        generalize rowP [bl u, a, b] = z at *
        obtain ⟨x, n⟩ := z
        rw [st2_mk] at HROW ⊢
        rw [show (⟨a.toArray⟩ : ByteArray) = tb10 a from rfl] at H0
        rw [show (⟨b.toArray⟩ : ByteArray) = tb10 b from rfl] at H3
        generalize tb10 a = sa at *
        generalize tb10 b = sb at *
        clear H1 H2 H4 hk ht hs hu hd d0 d1 d2 ha hb hz h1 h2 small
        go_enter Try.func14, Try.ntmps14
        go_wp2_with fail
        refine (H0.out _).mono ?_; rintro e w1 ⟨rfl, b1⟩
        have B1 := Lib.hid b1
        clear b1
        go_wp2_with fail
        refine (H3.out _).mono ?_; rintro e w2 ⟨rfl, b2⟩
        have B2 := Lib.hid (below_step B1.out b2)
        clear b2
        have hr := row3 w2 u sa sb
        have BR := Lib.hid (below_step B2.out ((Below.refl w2.heap.size w2).alloc (Nat.le_refl _) (.cells #[.string u, .string sa, .string sb] 9)))
        go_wp2_with fail
        refine (HROW.out _ _ hr).mono ?_; rintro e w3 ⟨rfl, b3⟩
        have B3 := Lib.hid (below_step BR.out b3)
        clear b3 hr
        go_wp2_with fail
        go_ret2
        exact ⟨rfl, B3.out⟩
      · rw [if_neg (fun e => hm e.2)]
        have hm2 : ((m : Int) != 0) = true := by rw [bne_iff_ne]; omega
        clear H1 H2 H4 hk ht hs hu hd d0 d1 d2 ha hb hz small hm
        rw [st2_mk]
        go_enter Try.func14, Try.ntmps14
        go_wp2_with fail
        refine (H0.out _).mono ?_; rintro e w1 ⟨rfl, b1⟩
        have B1 := Lib.hid b1
        clear b1
        go_wp2_with fail
        refine (H3.out _).mono ?_; rintro e w2 ⟨rfl, b2⟩
        have B2 := Lib.hid (below_step B1.out b2)
        clear b2
        go_wp2_with fail
        go_ret2
        exact ⟨rfl, B2.out⟩
    · rw [if_neg (fun e => hn e.1)]
      have hn2 : ((n : Int) != 0) = true := by rw [bne_iff_ne]; omega
      clear H1 H2 H4 hk ht hs hu hd d0 d1 d2 ha hb hz small hn
      rw [st2_mk]
      go_enter Try.func14, Try.ntmps14
      go_wp2_with fail
      refine (H0.out _).mono ?_; rintro e w1 ⟨rfl, b1⟩
      have B1 := Lib.hid b1
      clear b1
      go_wp2_with fail
      refine (H3.out _).mono ?_; rintro e w2 ⟨rfl, b2⟩
      have B2 := Lib.hid (below_step B1.out b2)
      clear b2
      go_wp2_with fail
      go_ret2
      exact ⟨rfl, B2.out⟩
  have q3 : ((d : Int) == 3) = false := by rw [beq_eq_false_iff_ne]; omega
  rw [show hidesP d (bl k) (bl t) (bl s) (bl u) = madeP [109] [bl u, bl s] by unfold hidesP; rw [if_neg d0, if_neg d1, if_neg d2, if_neg d3]]
  generalize madeP [109] [bl u, bl s] = z at *
  obtain ⟨x, n⟩ := z
  rw [st2_mk] at H4 ⊢
  clear H0 H1 H2 H3 hk ht hs hu hd d0 d1 d2 d3
  go_enter Try.func14, Try.ntmps14
  go_wp2_with fail
  refine (H4.out _).mono ?_; rintro e w1 ⟨rfl, b1⟩
  go_wp2_with fail
  go_ret2
  exact ⟨rfl, b1⟩
end Go.Proofs.Ytkebfabmcajbmaa.Pl
