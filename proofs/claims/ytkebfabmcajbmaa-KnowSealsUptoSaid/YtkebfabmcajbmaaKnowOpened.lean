/- What may be opened since something new is listed: the program's own opened. -/
import Derived.Test.YtkebfabmcajbmaaKnowMatters
import Derived.Test.YtkebfabmcajbmaaKnowCan
namespace Go.Proofs.Ytkebfabmcajbmaa.Pl
open Go.RowKit Go.Maps

/-- One that is opened. -/
def Opn10 (X : List (List UInt8)) (b : List UInt8) : Prop := ∃ a n x, LB X (sealT a n x) ∧ can (LB X) a ∧ x.enc = b
/-- One that is to be opened, if it has been met. -/
def Met10 (X : List (List UInt8)) (F : List ByteArray) (s : List UInt8) (L : List ByteArray) : Prop :=
  ∀ a n x, LB X (sealT a n x) → (sealT a n x).enc = s → can (LB X) a → (∃ y ∈ F, bl y = s ∨ Lib.contains a.enc (bl y) = true) → ∃ b ∈ L, bl b = x.enc

theorem Met10.more {X : List (List UInt8)} {F : List ByteArray} {s : List UInt8} {L M : List ByteArray} (h : Met10 X F s L) (hs : ∀ b ∈ L, b ∈ M) : Met10 X F s M := fun a n x h1 h2 h3 h4 => by
  obtain ⟨b, hb, e⟩ := h a n x h1 h2 h3 h4
  exact ⟨b, hs b hb, e⟩
theorem met_lock {X : List (List UInt8)} {a n x : Tm} {s : List UInt8} (h1 : LB X (sealT a n x)) (h2 : (sealT a n x).enc = s) : lockP s = (a.enc, x.enc) := by rw [← h2, lockP_enc h1.1, lockT_seal]
theorem met_none {X : List (List UInt8)} {F : List ByteArray} {s : List UInt8} {L : List ByteArray} (h : (lockP s).1 = []) : Met10 X F s L := fun a n x h1 h2 _ _ => by
  rw [met_lock h1 h2] at h
  exact absurd h (key_bytes (node_valid_parts h1.1 a (by simp)))
theorem met_not {X : List (List UInt8)} {F : List ByteArray} {s : List UInt8} {L : List ByteArray} {sx sk : ByteArray} (hx : bl sx = s) (hk : bl sk = (lockP s).1) (h : F.any (matB sx sk) = false) : Met10 X F s L := fun a n x h1 h2 _ h4 => by
  rw [met_lock h1 h2] at hk
  obtain ⟨y, hy, h4⟩ := h4
  have : F.any (matB sx sk) = true := List.any_eq_true.2 ⟨y, hy, matB_iff.2 (by rw [hk]; exact h4.imp (fun e => bl_inj (e.trans hx.symm)) id)⟩
  rw [h] at this
  cases this
theorem met_shut {X : List (List UInt8)} {F : List ByteArray} {s : List UInt8} {L : List ByteArray} {a0 n0 x0 : Tm} (hv : (sealT a0 n0 x0).valid) (hs : (sealT a0 n0 x0).enc = s) (h : canX X a0 = false) : Met10 X F s L := fun a n x h1 h2 h3 _ => by
  have e := enc_tm_inj h1.1.1 hv.1 (h2.trans hs.symm)
  injection e with _ e
  injection e with e _
  subst e
  rw [canX_iff.2 h3] at h
  cases h
theorem met_new {X : List (List UInt8)} {F : List ByteArray} {s : List UInt8} {L : List ByteArray} {sb : ByteArray} (hb : bl sb = (lockP s).2) : Met10 X F s (L ++ [sb]) := fun a n x h1 h2 _ _ => by
  rw [met_lock h1 h2] at hb
  exact ⟨sb, by simp, hb⟩
theorem met_snoc {X : List (List UInt8)} {F : List ByteArray} {ss : List (List UInt8)} {x : List UInt8} {L M : List ByteArray} (h : ∀ s ∈ ss, Met10 X F s L) (hs : ∀ b ∈ L, b ∈ M) (hx : Met10 X F x M) : ∀ s ∈ ss ++ [x], Met10 X F s M := fun s hm => by
  rcases List.mem_append.1 hm with hm | hm
  · exact (h s hm).more hs
  · rw [List.mem_singleton.1 hm]
    exact hx
theorem range_iter {w : World} {m r n cnt : Nat} {D : DataW Nat} {left : Lit → Bool} (h : w.ranges Try.prog 9 lockE m r n D left cnt) : (∃ es clock, w.heap[m]? = some (.map es clock)) ∧ ∃ a b c d, w.heap[r]? = some (.mapIter a b c d) := by
  obtain ⟨es, clock, since, seen, c0, hb, _, _, _, hr, _⟩ := h
  exact ⟨⟨es, clock, hb⟩, _, _, _, _, hr⟩
theorem range_ne {w : World} {m r n cnt B : Nat} {D : DataW Nat} {left : Lit → Bool} {v : Value} {L : List ByteArray} (h : w.ranges Try.prog 9 lockE m r n D left cnt) (ho : OwnT w B v L) : some m ≠ v.ownBlock ∧ some r ≠ v.ownBlock := by
  obtain ⟨⟨es, clock, hm⟩, a, b, c, d, hr⟩ := range_iter h
  exact ⟨fun e => own_ne10 ho (fun cur e2 => by rw [hm] at e2; cases e2) e.symm, fun e => own_ne10 ho (fun cur e2 => by rw [hr] at e2; cases e2) e.symm⟩
theorem range_below {w w' : World} {m r n cnt : Nat} {D : DataW Nat} {left : Lit → Bool} (h : w.ranges Try.prog 9 lockE m r n D left cnt) (hb : Below w.heap.size w w') : w'.ranges Try.prog 9 lockE m r n D left cnt := h.kept (below_grown hb none) (by simp) (by simp)

set_option maxHeartbeats 4000000 in
set_option maxRecDepth 100000 in
theorem opened10_any (p m : Nat) (X : List (List UInt8)) (F : List ByteArray) (ao : Option Addr) (cap : Nat) (w : World) (hq : KP w p m X) (hM : MX w) (hF : TxtRow w ao F) (hFl : F.length ≤ 1000000000) (hXl : X.length ≤ 1000000) (hX : ∀ s ∈ X, ∃ t : Tm, t.valid ∧ t.enc = s) :
    Calls Try.prog 41 #[ptr10 p, .slice ao F.length cap] w fun e w' => ∃ v L, e = .returned v ∧ OwnT w' w.heap.size v L ∧ (∀ b ∈ L, Opn10 X (bl b)) ∧ (∀ s ∈ X, Met10 X F s L) ∧ L.length ≤ X.length ∧ (F = [] → L = []) ∧ Below w.heap.size w w' := by
  have HQ := Lib.hid hq
  have HM := Lib.hid hM
  have HF := Lib.hid hF
  have HX := Lib.hid hX
  have HFl := Lib.hid hFl
  have HXl := Lib.hid hXl
  have cp := hq.cell
  have HSS : Hid (∀ ss : List (List UInt8), ss.Nodup → (∀ s ∈ ss, s ∈ X) → ss.length ≤ X.length) := Lib.hid (fun ss h1 h2 => nodup_len h1 h2)
  clear hq hM hF hX hFl hXl
  go_enter Try.func41, Try.ntmps41
  go_wp2_with (first | (at_range; refine wpList_range10 rfl _ rfl m X rfl HQ.out.2 ?_; intro w0 D hD hrg0 hg0 hs0) | fail)
  go_frame
  have HD := Lib.hid hD
  have BG : Hid (Below w.heap.size w w0) := Lib.hid ((Below.refl _ _).grown hg0 (Nat.le_refl _) (fun j hj => by cases hj))
  have HRG := Lib.hid hrg0
  have HS0 := Lib.hid hs0
  clear hD hrg0 hg0 hs0
  go_loopw [5] (fun v5 wr => ∃ (left : Lit → Bool) (cnt : Nat) (ss : List (List UInt8)) (L : List ByteArray), Hid (wr.ranges Try.prog 9 lockE m w.heap.size X.length D left cnt) ∧ Hid (Collected D left ss) ∧ Hid (∀ s ∈ ss, s ∈ X) ∧ Hid (OwnT wr w.heap.size v5 L) ∧
      Hid (∀ b ∈ L, Opn10 X (bl b)) ∧ Hid (∀ s ∈ ss, Met10 X F s L) ∧ Hid (L.length ≤ ss.length) ∧ Hid (F = [] → L = []) ∧ Hid (Below w.heap.size w wr)) (fun _ wr => wr.rangeLeft m w.heap.size)
  case atStart => exact ⟨_, _, [], [], HRG, Lib.hid (Collected.start D), Lib.hid (fun s hs => by cases hs), Lib.hid (ownT_nil _ _), Lib.hid (fun b hb => by cases hb), Lib.hid (fun s hs => by cases hs), Lib.hid (Nat.le_refl _), Lib.hid (fun _ => rfl), BG⟩
  case round =>
    obtain ⟨left, cnt, ss, L, hrg, hC, hin, hown, hop, hmet, hlen, hnil, hb⟩ := hrel
    go_wp2_with (first | (at_next; refine wpList_next10 rfl _ rfl m w.heap.size X ss D left cnt rfl hrg.out HD.out hC.out ?_ ?_) | fail)
    · intro hnd hall
      have HLE := Lib.hid (HSS.out ss hnd hin.out)
      have HALL := Lib.hid hall
      clear hnd hall
      go_wp2_with fail
      go_ret
      exact ⟨_, L, rfl, hown.out, hop.out, fun s hs => hmet.out s ((HALL.out s).2 hs), Nat.le_trans hlen.out HLE.out, hnil.out, hb.out⟩
    · intro x left' w1 cnt' hx hns hC' hrg' hlt hg1 hs1 hen
      obtain ⟨t, htv, hte⟩ := HX.out x hx
      generalize hsx : tb10 x = sx
      generalize hsk : tb10 (lockP x).1 = sk
      generalize hsb : tb10 (lockP x).2 = sb
      rw [hsx, hsk, hsb] at hen
      have b1 := hb.out.grown hg1 hb.out.size (fun j hj => by cases hj; exact Nat.le_refl _)
      have o1 : OwnT w1 w.heap.size u5 L := hown.out.kept hg1 (.inr (range_ne hrg.out hown.out).2.symm)
      obtain ⟨W2, hW2⟩ : ∃ W2, W2 = (w1.alloc (.cells #[.string sx] 9)).alloc (.cells #[.string sk, .string sb] 60) := ⟨_, rfl⟩
      have b2 : Below w1.heap.size w1 W2 := by rw [hW2]; exact ((Below.refl _ _).alloc (Nat.le_refl _) _).alloc (by simp) _
      have c1 : W2.heap[w1.heap.size]? = some (.cells #[.string sx] 9 (0, 0)) := by rw [hW2, Below.heap_alloc _ _ _ (by simp)]; exact Go.heap_alloc_new w1 _
      have cx : W2.cell? ⟨w1.heap.size, 0, none⟩ = some (.string sx) := cell_of_row _ _ _ _ _ _ c1
      have c2 : W2.heap[w1.heap.size + 1]? = some (.cells #[.string sk, .string sb] 60 (0, 0)) := by
        have := Go.heap_alloc_new (w1.alloc (.cells #[.string sx] 9)) (.cells #[.string sk, .string sb] 60)
        rw [World.size_alloc] at this
        rw [hW2]
        exact this
      have s2 : W2.heap.size = w1.heap.size + 2 := by rw [hW2]; simp
      have ck : W2.cell? ⟨w1.heap.size + 1, 0, none⟩ = some (.string sk) := cell_of_row _ _ _ _ _ _ c2
      have cb : W2.cell? ⟨w1.heap.size + 1, 1, none⟩ = some (.string sb) := cell_of_row _ _ _ _ _ _ c2
      have HX' := Lib.hid hx
      have HC' := Lib.hid hC'
      have HLT := Lib.hid hlt
      have B2 := Lib.hid (b1.trans (b2.mono b1.size))
      have O2 := Lib.hid (ownT_below o1 b2)
      have R2 := Lib.hid (range_below hrg' b2)
      have HIN : Hid (∀ s ∈ ss ++ [x], s ∈ X) := Lib.hid (fun s hs => by
        rcases List.mem_append.1 hs with hs | hs
        · exact hin.out s hs
        · rw [List.mem_singleton.1 hs]; exact hx)
      have HL1 : Hid (L.length ≤ (ss ++ [x]).length) := Lib.hid (by rw [List.length_append]; exact Nat.le_trans hlen.out (Nat.le_add_right _ _))
      by_cases hke : (lockP x).1 = []
      · have HME := Lib.hid (met_snoc hmet.out (fun _ h => h) (met_none (F := F) (X := X) (L := L) hke))
        have he : sk.toList.isEmpty = true := by
          rw [← hsk, hke, Lib.toList_data]
          rfl
        clear hx hns hC' hrg' hlt hg1 hs1 b1 b2 o1 cx ck cb c1 c2 s2 hsx hsk hsb hte htv
        go_wp2_with fail
        rw [← hW2]
        clear hW2
        go_roundw
        case rel => exact ⟨left', cnt', ss ++ [x], L, R2, HC', HIN, O2, hop, HME, HL1, hnil, B2⟩
        case measure => rw [R2.out.left_eq, hrg.out.left_eq]; exact HLT.out
      · have hkl : (lockT t).1 ≠ [] := by rw [← lockP_enc htv, hte]; exact hke
        obtain ⟨a0, n0, x0, rfl⟩ := lock_key htv hkl
        have hlp : lockP x = (a0.enc, x0.enc) := by rw [← hte, lockP_enc htv, lockT_seal]
        have ha : a0.valid := node_valid_parts htv a0 (by simp)
        have hbk : bl sk = a0.enc := by rw [← hsk, hlp]; rfl
        have hbx : bl sx = x := by rw [← hsx]; rfl
        have hbb : bl sb = (lockP x).2 := by rw [← hsb]; rfl
        have hks := valid_size ha hbk
        have he : sk.toList.isEmpty = false := by
          rw [Lib.toList_data]
          show (bl sk).isEmpty = false
          rw [hbk]
          cases e : a0.enc with
          | nil => exact absurd e (key_bytes ha)
          | cons => rfl
        have HA := Lib.hid (anymat10_any sx sk (by omega) F ao cap w1.heap.size (w1.heap.size + 1) W2 cx ck (by omega) (by omega) (HM.out.step B2.out) (HF.out.below B2.out) HFl.out)
        have HCAN : Hid (∀ V, Below w.heap.size w V → Calls Try.prog 24 #[ptr10 p, .string sk] V fun e w' => e = .returned (.bool (canX X a0)) ∧ Below V.heap.size V w') := Lib.hid (fun V hV => can10_at a0.deep a0 ha (Nat.le_refl _) sk hbk p m X V (HQ.out.below hV))
        cases hany : F.any (matB sx sk) with
        | false =>
          have HME := Lib.hid (met_snoc hmet.out (fun _ h => h) (met_not (F := F) (X := X) (L := L) hbx (hbk.trans (by rw [hlp])) hany))
          rw [hany] at HA
          clear hx hns hC' hrg' hlt hg1 hs1 b1 b2 o1 cx ck cb c1 c2 s2 hsx hsk hsb hte htv hkl hlp ha hbk hbx hbb hks hke hany
          go_wp2_with fail
          rw [← hW2]
          refine HA.out.mono ?_; rintro e w3 ⟨rfl, b3⟩
          have B3 := Lib.hid (below_step B2.out b3)
          have O3 := Lib.hid (ownT_below O2.out b3)
          have R3 := Lib.hid (range_below R2.out b3)
          clear hW2 b3
          go_wp2_with fail
          go_roundw
          case rel => exact ⟨left', cnt', ss ++ [x], L, R3, HC', HIN, O3, hop, HME, HL1, hnil, B3⟩
          case measure => rw [R3.out.left_eq, hrg.out.left_eq]; exact HLT.out
        | true =>
          rw [hany] at HA
          cases hcan : canX X a0 with
          | false =>
            have HME := Lib.hid (met_snoc hmet.out (fun _ h => h) (met_shut (F := F) (X := X) (L := L) htv hte hcan))
            rw [hcan] at HCAN
            have ck3 : ∀ V, Below W2.heap.size W2 V → V.cell? ⟨w1.heap.size + 1, 0, none⟩ = some (.string sk) := fun V hV => (World.cell?_of_block (a := ⟨w1.heap.size + 1, 0, none⟩) (hV.block _ (by rw [s2]; exact Nat.lt_succ_self _))).trans ck
            have CK3 := Lib.hid ck3
            clear hx hns hC' hrg' hlt hg1 hs1 b1 b2 o1 cx cb c1 c2 s2 hsx hsk hsb hte htv hkl hlp ha hbk hbx hbb hks hke hany hcan ck3
            go_wp2_with fail
            rw [← hW2]
            refine HA.out.mono ?_; rintro e w3 ⟨rfl, b3⟩
            have B3 := Lib.hid (below_step B2.out b3)
            have O3 := Lib.hid (ownT_below O2.out b3)
            have R3 := Lib.hid (range_below R2.out b3)
            have ck3 := CK3.out w3 b3
            clear hW2 b3 ck
            go_wp2_with fail
            refine (HCAN.out _ B3.out).mono ?_; rintro e w4 ⟨rfl, b4⟩
            have B4 := Lib.hid (below_step B3.out b4)
            have O4 := Lib.hid (ownT_below O3.out b4)
            have R4 := Lib.hid (range_below R3.out b4)
            clear b4 ck3
            go_wp2_with fail
            go_roundw
            case rel => exact ⟨left', cnt', ss ++ [x], L, R4, HC', HIN, O4, hop, HME, HL1, hnil, B4⟩
            case measure => rw [R4.out.left_eq, hrg.out.left_eq]; exact HLT.out
          | true =>
            have HME := Lib.hid (met_snoc (M := L ++ [sb]) hmet.out (fun _ h => List.mem_append.2 (.inl h)) (met_new (F := F) (X := X) (L := L) hbb))
            have HOP : Hid (∀ b ∈ L ++ [sb], Opn10 X (bl b)) := Lib.hid (fun b hb => by
              rcases List.mem_append.1 hb with hb | hb
              · exact hop.out b hb
              · rw [List.mem_singleton.1 hb]
                exact ⟨a0, n0, x0, ⟨htv, by rw [hte]; exact hx⟩, canX_iff.1 hcan, by rw [hbb, hlp]⟩)
            have HL2 : Hid ((L ++ [sb]).length ≤ (ss ++ [x]).length) := Lib.hid (by rw [List.length_append, List.length_append]; exact Nat.add_le_add_right hlen.out 1)
            have HNI : Hid (F = [] → L ++ [sb] = []) := Lib.hid (fun e => by rw [e] at hany; cases hany)
            have HLL : Hid (L.length ≤ 1000000000) := Lib.hid (by
              have h1 := HSS.out ss hC.out.1 hin.out
              have h2 := hlen.out
              have h3 := HXl.out
              omega)
            rw [hcan] at HCAN
            have ck3 : ∀ V, Below W2.heap.size W2 V → V.cell? ⟨w1.heap.size + 1, 0, none⟩ = some (.string sk) ∧ V.cell? ⟨w1.heap.size + 1, 1, none⟩ = some (.string sb) := fun V hV => ⟨(World.cell?_of_block (a := ⟨w1.heap.size + 1, 0, none⟩) (hV.block _ (by rw [s2]; exact Nat.lt_succ_self _))).trans ck, (World.cell?_of_block (a := ⟨w1.heap.size + 1, 1, none⟩) (hV.block _ (by rw [s2]; exact Nat.lt_succ_self _))).trans cb⟩
            have CK3 := Lib.hid ck3
            clear hx hns hC' hrg' hlt hg1 hs1 b1 b2 o1 cx cb c1 c2 s2 hsx hsk hsb hte htv hkl hlp ha hbk hbx hbb hks hke hany hcan ck3
            go_wp2_with fail
            rw [← hW2]
            refine HA.out.mono ?_; rintro e w3 ⟨rfl, b3⟩
            have B3 := Lib.hid (below_step B2.out b3)
            have O3 := Lib.hid (ownT_below O2.out b3)
            have R3 := Lib.hid (range_below R2.out b3)
            have B23 := Lib.hid b3
            have ck3 := (CK3.out w3 b3).1
            clear hW2 b3 ck
            go_wp2_with fail
            refine (HCAN.out _ B3.out).mono ?_; rintro e w4 ⟨rfl, b4⟩
            have B4 := Lib.hid (below_step B3.out b4)
            have O4 := Lib.hid (ownT_below O3.out b4)
            have R4 := Lib.hid (range_below R3.out b4)
            have cb4 := (CK3.out w4 (below_step B23.out b4)).2
            have HS4 : Hid (w.heap.size ≤ w4.heap.size) := Lib.hid B4.out.size
            clear b4 ck3
            go_wp2_with (at_builtin; refine wpList_app10 rfl _ _ rfl rfl sb rfl rfl O4.out HS4.out HLL.out ?_; intro v' w5 hown5 hgrow hloc)
            have RN := range_ne (range_below R4.out ((Below.refl w4.heap.size w4).alloc (Nat.le_refl _) (.cells #[.string sb] 9))) (ownT_below O4.out ((Below.refl w4.heap.size w4).alloc (Nat.le_refl _) (.cells #[.string sb] 9)))
            have R5 := Lib.hid ((range_below R4.out ((Below.refl w4.heap.size w4).alloc (Nat.le_refl _) (.cells #[.string sb] 9))).kept hgrow RN.1 RN.2)
            have B5 := Lib.hid ((B4.out.trans (((Below.refl w4.heap.size w4).alloc (Nat.le_refl _) (.cells #[.string sb] 9)).mono B4.out.size)).grown hgrow (by simp; have := HS4.out; omega) (fun j hj => own_lowB10 O4.out hj))
            have O5 := Lib.hid hown5
            clear hown5 hgrow hloc RN
            go_roundw
            case rel => exact ⟨left', cnt', ss ++ [x], L ++ [sb], R5, HC', HIN, O5, HOP, HME, HL2, HNI, B5⟩
            case measure => rw [R5.out.left_eq, hrg.out.left_eq]; exact HLT.out
end Go.Proofs.Ytkebfabmcajbmaa.Pl
