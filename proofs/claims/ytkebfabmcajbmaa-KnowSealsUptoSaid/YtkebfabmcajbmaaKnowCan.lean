/- What the program's own can answers, over a map of what is listed. -/
import Derived.Test.YtkebfabmcajbmaaKnowMap
import Derived.Test.YtkebfabmcajbmaaTermHeads
import Derived.Test.YtkebfabmcajbmaaTermPieces
namespace Go.Proofs.Ytkebfabmcajbmaa.Pl
open Go.RowKit

/-- Block p is somebody, whose map, block m, holds just these. -/
def KP (w : World) (p m : Nat) (X : List (List UInt8)) : Prop := w.heap[p]? = some (.cells #[.map (some m)] 46 (0, 0)) ∧ MapK w m X
theorem KP.below {w w' : World} {p m : Nat} {X : List (List UInt8)} (h : KP w p m X) (hb : Below w.heap.size w w') : KP w' p m X := ⟨(hb.block p (Array.getElem?_eq_some_iff.1 h.1).1).trans h.1, h.2.below hb⟩
theorem KP.cell {w : World} {p m : Nat} {X : List (List UInt8)} (h : KP w p m X) : w.cell? ⟨p, 0, none⟩ = some (.map (some m)) := cell_of_row _ _ _ _ _ _ h.1
open Classical in
/-- Whether a tree can be made of them. -/
noncomputable def canX (X : List (List UInt8)) (T : Tm) : Bool := decide (can (LB X) T)
open Classical in
theorem canX_iff {X : List (List UInt8)} {T : Tm} : canX X T = true ↔ can (LB X) T := by unfold canX; exact decide_eq_true_iff
theorem canX_in {X : List (List UInt8)} {h : List UInt8} {l : List Tm} (hv : (Tm.node h l).valid) (k : (Tm.node h l).enc ∈ X) : canX X (.node h l) = true := canX_iff.2 (by rw [can]; exact .inr (.inl ⟨hv, k⟩))
theorem canX_atom {X : List (List UInt8)} {h : List UInt8} {l : List Tm} (k : (Tm.node h l).enc ∉ X) (h2 : h.head? = some 97) : canX X (.node h l) = false := by
  rw [← Bool.not_eq_true, canX_iff, can]
  rintro (e | e | ⟨e, _⟩)
  · rw [h2] at e; cases e
  · exact k e.2
  · exact e h2
theorem canX_else {X : List (List UInt8)} {h : List UInt8} {l : List Tm} (hv : (Tm.node h l).valid) (k : (Tm.node h l).enc ∉ X) (h2 : h.head? ≠ some 97) : (canX X (.node h l) = true ↔ ∀ t ∈ l, canX X t = true) := by
  rw [canX_iff, can]
  constructor
  · rintro (e | e | ⟨_, e⟩)
    · have hg := hv.1
      simp only [Tm.good] at hg
      obtain ⟨c, hk⟩ := head_kind hg.1
      have : l = [] := by
        rcases hk with ⟨t, rfl, _, h0⟩ | ⟨t, rfl, _, _, h0⟩ | ⟨v, rfl, _, _⟩ | ⟨rfl, _⟩ | ⟨rfl, _⟩ | ⟨rfl, _⟩
        · exact List.length_eq_zero_iff.1 h0
        · exact List.length_eq_zero_iff.1 h0
        · simp at e
        · simp at e
        · simp at e
        · simp at e
      rw [this]
      intro t ht
      cases ht
    · exact absurd e.2 k
    · exact fun t ht => canX_iff.2 (cans_all.1 e t ht)
  · exact fun e => .inr (.inr ⟨h2, cans_all.2 fun t ht => canX_iff.1 (e t ht)⟩)

set_option maxHeartbeats 4000000 in
set_option maxRecDepth 100000 in
theorem can10_at : ∀ (d : Nat) (T : Tm), T.valid → T.deep ≤ d → ∀ (s : ByteArray), bl s = T.enc → ∀ (p m : Nat) (X : List (List UInt8)) (w : World), KP w p m X →
    Calls Try.prog 24 #[.pointer (some ⟨p, 0, none⟩), .string s] w fun e w' => e = .returned (.bool (canX X T)) ∧ Below w.heap.size w w' := by
  intro d
  induction d with
  | zero =>
    rintro ⟨h, l⟩ _ hd
    simp [Tm.deep] at hd
  | succ d ih =>
    rintro ⟨h, l⟩ hv hd s hs p m X w hq
    have hdp : ∀ t ∈ l, t.deep ≤ d := fun t ht => by
      have := deeps_mem ht
      simp only [Tm.deep] at hd
      omega
    obtain ⟨c, hk, hkd⟩ := kd_node10 hv
    obtain ⟨f1, f2, f3, f4⟩ := kd_first10 hk
    have hsz := valid_size hv hs
    have HZ : Hid (s.size ≤ 281474976710656) := Lib.hid (by omega)
    have HQ := Lib.hid hq
    have cp := hq.cell
    by_cases hin : (Tm.node h l).enc ∈ X
    · rw [canX_in hv hin]
      have HI : Hid (decide (bl s ∈ X) = true) := Lib.hid (by rw [hs]; exact decide_eq_true hin)
      clear ih hv hd hs hq hdp hk hkd f1 f2 f3 f4 hsz hin
      go_enter Try.func24, Try.ntmps24
      go_wp2_with (first | (at_lookup; refine wpList_look10 rfl _ _ rfl m X s true rfl rfl HQ.out.2 HZ.out HI.out ?_; intro k y) | fail)
      go_ret
      exact ⟨rfl, (Below.refl _ _).alloc (Nat.le_refl _) _⟩
    · have HI : Hid (decide (bl s ∈ X) = false) := Lib.hid (by rw [hs]; exact decide_eq_false hin)
      have HK := Lib.hid (fun V => tkind_any s (by omega) V)
      rw [hs, hkd] at HK
      by_cases c2 : c = 2
      · subst c2
        rw [canX_atom hin (f2.1 rfl)]
        clear ih hv hd hs hq hdp hk hkd f1 f2 f3 f4 hsz hin
        go_enter Try.func24, Try.ntmps24
        go_wp2_with (first | (at_lookup; refine wpList_look10 rfl _ _ rfl m X s false rfl rfl HQ.out.2 HZ.out HI.out ?_; intro k y) | fail)
        have B1 := Lib.hid ((Below.refl w.heap.size w).alloc (Nat.le_refl _) (.cells #[.string k, .string y] 60))
        refine (HK.out _).mono ?_; rintro e w1 ⟨rfl, b1⟩
        have B2 := Lib.hid (below_step B1.out b1)
        clear b1
        go_wp2_with fail
        go_ret
        exact ⟨rfl, B2.out⟩
      · have q2 : ((c : Int) == 2) = false := by rw [beq_eq_false_iff_ne]; omega
        have HE := Lib.hid (canX_else hv hin (fun e => c2 (f2.2 e)))
        have HP := Lib.hid (fun V => parts6_any s (by omega) V)
        rw [hs, parts_node10 hv] at HP
        have HC : Hid (∀ k, (hk : k < l.length) → ∀ V : World, KP V p m X → Calls Try.prog 24 #[.pointer (some ⟨p, 0, none⟩), .string (tx l[k])] V fun e w' => e = .returned (.bool (canX X l[k])) ∧ Below V.heap.size V w') :=
          Lib.hid (fun k hk V hV => ih l[k] (node_valid_parts hv _ (List.getElem_mem hk)) (hdp _ (List.getElem_mem hk)) (tx l[k]) rfl p m X V hV)
        obtain ⟨n, hn⟩ : ∃ n, n = l.length := ⟨_, rfl⟩
        have HN := Lib.hid hn
        have HNS : Hid (n ≤ 100) := Lib.hid (by have := (kd_le10 hk).1; omega)
        generalize hZ : canX X (.node h l) = Z at *
        clear ih hv hd hs hq hdp hk hkd f1 f2 f3 f4 hsz c2 hin hn hZ
        go_enter Try.func24, Try.ntmps24
        go_wp2_with (first | (at_lookup; refine wpList_look10 rfl _ _ rfl m X s false rfl rfl HQ.out.2 HZ.out HI.out ?_; intro k y) | fail)
        have B1 := Lib.hid ((Below.refl w.heap.size w).alloc (Nat.le_refl _) (.cells #[.string k, .string y] 60))
        refine (HK.out _).mono ?_; rintro e w1 ⟨rfl, b1⟩
        have B2 := Lib.hid (below_step B1.out b1)
        clear b1
        go_wp2_with fail
        refine (HP.out _).mono ?_; rintro e w3 ⟨v, P, rfl, ho, hP, b3⟩
        have B3 := Lib.hid (below_step B2.out b3)
        obtain ⟨po, pcap, rfl, hrow⟩ := ownT_row ho
        have R3 := Lib.hid hrow
        obtain rfl : P = l.map tx := (List.map_inj_right (fun _ _ e => bl_inj e)).1 (by rw [hP, List.map_map]; rfl)
        have hPl : (l.map tx).length = n := by rw [List.length_map]; exact HN.out.symm
        rw [hPl]
        clear b3 ho hP hrow
        go_wp2_with fail
        go_loopw [31] (fun iv wr => ∃ k : Nat, iv = .int .i64 k ∧ k ≤ n ∧ Hid (∀ j, (hj : j < l.length) → j < k → canX X l[j] = true) ∧ Hid (Below w3.heap.size w3 wr)) (fun iv _ => n - (intOf iv).toNat)
        case atStart => exact ⟨0, rfl, Nat.zero_le _, Lib.hid (fun j _ hj => absurd hj (Nat.not_lt_zero j)), Lib.hid (Below.refl _ _)⟩
        case round =>
          obtain ⟨k, rfl, hkn, hall, hb⟩ := hrel
          have BW := Lib.hid (below_step B3.out hb.out)
          have hn100 := HNS.out
          by_cases hk : k < n
          · have hk' : (k : Int) < (n : Int) := by omega
            have hkl : k < l.length := by rw [← HN.out]; exact hk
            have HCK := Lib.hid (HC.out k hkl wr (HQ.out.below BW.out))
            rcases R3.out.below hb.out with e | ⟨g, off, rfl, hlt, hc⟩
            · exfalso
              rw [e] at hPl
              simp at hPl
              omega
            have ck := hc k (by rw [hPl]; exact hk)
            have eg : (l.map tx).getD k ByteArray.empty = tx l[k] := by simp [List.getD_eq_getElem?_getD, hkl]
            rw [eg] at ck
            have HNO : Hid (canX X l[k] = false → Z = false) := Lib.hid (fun e => by
              rw [← Bool.not_eq_true]
              intro hz
              rw [HE.out.1 hz _ (List.getElem_mem hkl)] at e
              cases e)
            have HGO : Hid (canX X l[k] = true → ∀ j, (hj : j < l.length) → j < k + 1 → canX X l[j] = true) := Lib.hid (fun e j hj hjk => by
              by_cases h : j < k
              · exact hall.out j hj h
              · obtain rfl : j = k := by omega
                exact e)
            generalize canX X l[k] = y at *
            generalize tx l[k] = t at *
            clear hc hlt eg
            cases y with
            | true =>
              have HG := Lib.hid (HGO.out rfl)
              go_wp2_with fail
              refine HCK.out.mono ?_; rintro e w4 ⟨rfl, b4⟩
              have B4 := Lib.hid (below_step hb.out b4)
              clear b4
              go_wp2_with fail
              go_roundw
              case rel => exact ⟨k + 1, by go_num, by omega, HG, B4⟩
              case measure => simp [intOf]; omega
            | false =>
              obtain rfl := HNO.out rfl
              go_wp2_with fail
              refine HCK.out.mono ?_; rintro e w4 ⟨rfl, b4⟩
              have B4 := Lib.hid (below_step BW.out b4)
              clear b4
              go_wp2_with fail
              go_ret
              exact ⟨rfl, B4.out⟩
          · obtain rfl : k = n := by omega
            obtain rfl : Z = true := HE.out.2 (fun t ht => by
              obtain ⟨j, hj, rfl⟩ := List.getElem_of_mem ht
              exact hall.out j hj (by rw [HN.out]; exact hj))
            clear hk hkn
            go_wp2_with fail
            go_ret
            exact ⟨rfl, BW.out⟩
end Go.Proofs.Ytkebfabmcajbmaa.Pl
