/- The document's ReadMembers of layer 12. -/
import Derived.Test.YtbdlegjklfkdmaaGreatDoorBallA17
namespace Go.Proofs.YtbdlegjklfkdmaaGreatDoor.Pl
open Go.RowKit

theorem memR_two {p a b : ByteArray} (hk : kindP (bl p) = 3) (hp : partsB p = [a, b]) : rowR p memG = (rdN a).map fun k => (k, b) := by
  unfold rowR
  rw [if_pos hk, hp]
  cases h0 : rdN a with
  | none => simp [memG, getN_cons, h0, endR]
  | some k => simp [memG, getN_cons, h0, endR]
theorem memR_not {p : ByteArray} (h : ¬ (kindP (bl p) = 3 ∧ (partsB p).length = 2)) : rowR p memG = none := by
  cases k : rowR p memG with
  | none => rfl
  | some m =>
    exfalso
    have hk3 : kindP (bl p) = 3 := by
      apply Classical.byContradiction
      intro hn
      unfold rowR at k
      rw [if_neg hn] at k
      cases k
    obtain ⟨g1, _⟩ := rowR_again k
    refine h ⟨hk3, ?_⟩
    cases hq : partsB p with
    | nil => rw [hq] at g1; cases g1
    | cons a r =>
      rw [hq] at g1
      unfold memG at g1
      rw [getN_cons] at g1
      cases h0 : rdN a with
      | none => rw [h0] at g1; cases g1
      | some v =>
        rw [h0] at g1
        cases r with
        | nil => cases g1
        | cons b r2 =>
          simp only [Option.map_some, Option.some.injEq, Prod.mk.injEq] at g1
          rw [g1.2]; rfl

set_option maxHeartbeats 8000000 in
set_option maxRecDepth 100000 in
theorem rreadmem12_any (c e q : Int) (t : ByteArray) (ht : t.size ≤ 281474976710656) (w : World) : Calls Tryz.prog 54 #[.agg #[.int .i64 c, .int .i64 e, .int .i64 q], .string t] w fun x w' => (∃ v, x = .returned (.tuple #[v, .bool (membersR c t).isSome]) ∧ OwnM w' w.heap.size v ((membersR c t).getD [])) ∧ Below w.heap.size w w' := by
  have HK := fun V => rkind_any t ht V
  have HP := Lib.hid (fun V => rparts12_any t ht V)
  have HPL := Lib.hid (partsB_len t)
  have HPS := Lib.hid (partsB_size t)
  have hz : membersR c t = if kindP (bl t) = 3 then (match memsR (partsB t) with | some l => if mayL c l = true then some l else none | none => none) else none := rfl
  have h6 := kindP_le (bl t)
  generalize membersR c t = z at *
  obtain ⟨W0, hW0⟩ : ∃ V, V = w.alloc (.cells #[.int .i64 c, .int .i64 e, .int .i64 q] 23) := ⟨_, rfl⟩
  have X0 := Lib.hid (show XAt W0 w.heap.size c e q from hW0 ▸ xat_new w c e q)
  have B0 := Lib.hid (show Below w.heap.size w W0 from hW0 ▸ (Below.refl _ _).alloc (Nat.le_refl _) _)
  have HW0 := Lib.hid hW0
  clear hW0
  by_cases hk : kindP (bl t) = 3
  · rw [if_pos hk] at hz
    rw [hk] at HK
    have HK := Lib.hid HK
    have HZ := Lib.hid hz
    clear hk h6 hz
    go_enter Tryz.func54, Tryz.ntmps54
    go_wp2_with fail
    rw [← HW0.out]
    refine (HP.out _).mono ?_; rintro e1 w2 ⟨ao, cap, rfl, hcap, hrow2, b1⟩
    go_wp2_with fail
    refine (HK.out _).mono ?_; rintro e2 w3 ⟨rfl, b2⟩
    have hrow := hrow2.below b2
    have BW3 : Hid (Below W0.heap.size W0 w3) := Lib.hid (below_step b1 b2)
    have HROW := Lib.hid (fun V (hV : Below w3.heap.size w3 V) => hrow.below hV)
    have HSW0 : Hid (w.heap.size ≤ w3.heap.size) := Lib.hid (by have := BW3.out.size; have := B0.out.size; omega)
    clear b1 b2 hrow hrow2 hcap
    generalize hps : partsB t = ps at *
    obtain ⟨n, hn⟩ : ∃ n, n = ps.length := ⟨_, rfl⟩
    rw [← hn]
    have HN := Lib.hid hn
    have hn32 : n ≤ 32 := by rw [hn]; exact HPL.out
    clear hps hn HK HP
    go_wp2_with fail
    go_loopw [9, 8] (fun iv lv wr => ∃ (j : Nat) (L : List Mb), iv = .int .i64 j ∧ j ≤ n ∧ Hid (OwnM wr w3.heap.size lv L) ∧ Hid (memsR (ps.take j) = some L) ∧ Hid (L.length = j) ∧ Hid (Below w3.heap.size w3 wr)) (fun iv _ _ => n - (intOf iv).toNat)
    case atStart => exact ⟨0, [], rfl, Nat.zero_le _, Lib.hid (ownM_nil _ _), Lib.hid rfl, Lib.hid rfl, Lib.hid (Below.refl _ _)⟩
    case round =>
      obtain ⟨j, L, rfl, hjn, hown, hst, hLj, hb⟩ := hrel
      have BWR : Hid (Below w.heap.size w wr) := Lib.hid (below_step (below_step B0.out BW3.out) hb.out)
      by_cases hj : j < n
      · have hj' : (j : Int) < (n : Int) := by omega
        have hjl : j < ps.length := by rw [← HN.out]; exact hj
        rcases HROW.out _ hb.out with e | ⟨bb, off, rfl, hlt, hcs⟩
        · exfalso
          rw [e] at hjl
          exact absurd hjl (Nat.not_lt_zero _)
        have x0 := hcs j hjl
        have hgd : ps.getD j ByteArray.empty = ps[j] := by simp [List.getD_eq_getElem?_getD, hjl]
        rw [hgd] at x0
        have hps' := HPS.out _ (List.getElem_mem hjl)
        have hnext := memsR_drop hjl hst.out
        have hno : memsR (ps.take (j + 1)) = none → memsR ps = none := memsR_none
        have HPp := Lib.hid (fun V => rparts12_any ps[j] (by omega) V)
        have HKp := fun V => rkind_any ps[j] (by omega) V
        have HQS := Lib.hid (partsB_size ps[j])
        have h2 := fun a b => @memR_two ps[j] a b
        have hn2 := @memR_not ps[j]
        have h6 := kindP_le (bl ps[j])
        have HXC : Hid (∀ V, Below wr.heap.size wr V → V.cell? ⟨bb, off + j, none⟩ = some (.string ps[j])) := Lib.hid (fun V hV => (hV.cell (p := ⟨bb, off + j, none⟩) hlt).trans x0)
        generalize ps[j] = p at *
        clear hcs hlt hgd hjl
        by_cases hk : kindP (bl p) = 3
        · rw [hk] at HKp
          have HKp := Lib.hid HKp
          by_cases hl : (partsB p).length = 2
          · obtain ⟨a, b, hab⟩ : ∃ a b, partsB p = [a, b] := by
              match partsB p, hl with
              | [a, b], _ => exact ⟨a, b, rfl⟩
            have h2 := h2 a b hk hab
            have HNa := fun V => rnumr_any a (by have := HQS.out a (by rw [hab]; simp); omega) V
            rw [hab] at HPp
            clear hab hl hk h6 hn2 HQS hps'
            rw [show [a, b].length = 2 from rfl] at HPp
            go_wp2_with fail
            refine (HPp.out _).mono ?_; rintro e3 V3 ⟨qo, qc, rfl, hqc, hqrow, b3⟩
            have BB := Lib.hid b3
            have x1 := HXC.out _ BB.out
            clear x0 b3
            go_wp2_with fail
            refine (HKp.out _).mono ?_; rintro e4 V4 ⟨rfl, b4⟩
            rcases hqrow with hq0 | ⟨g, of2, rfl, hg, hc⟩
            · cases hq0
            have R2 : Hid (∀ V, Below V4.heap.size V4 V → V.cell? ⟨g, of2, none⟩ = some (.string a) ∧ V.cell? ⟨g, of2 + 1, none⟩ = some (.string b)) := Lib.hid (fun V hV => ⟨((b4.trans (hV.mono b4.size)).cell (p := ⟨g, of2, none⟩) hg).trans (hc 0 (by simp)), ((b4.trans (hV.mono b4.size)).cell (p := ⟨g, of2 + 1, none⟩) hg).trans (hc 1 (by simp))⟩)
            have BB := Lib.hid (below_step BB.out b4)
            obtain ⟨c0, c1⟩ := R2.out _ (Below.refl _ _)
            clear x1 b4 hg hc hqc
            cases ha : rdN a with
            | none =>
              rw [ha] at HNa h2
              rw [h2] at hnext
              have hz : z = none := by rw [HZ.out, hno (by rw [hnext]; rfl)]
              subst hz
              simp only [Option.getD, Option.isSome] at HNa
              have HNa := Lib.hid HNa
              clear hnext hno h2 ha
              go_wp2_with fail
              refine (HNa.out _).mono ?_; rintro e5 V5 ⟨rfl, b5⟩
              have BB := Lib.hid (below_step BB.out b5)
              clear b5 c0 c1
              go_wp2_with fail
              go_ret2
              exact ⟨⟨_, rfl, ownM_nil _ _⟩, below_step BWR.out BB.out⟩
            | some k =>
              rw [ha] at HNa h2
              rw [h2] at hnext
              have HNX : Hid (memsR (ps.take (j + 1)) = some (L ++ [(k, b)])) := Lib.hid hnext
              simp only [Option.getD, Option.isSome] at HNa
              have HNa := Lib.hid HNa
              clear hnext hno h2 ha
              go_wp2_with fail
              refine (HNa.out _).mono ?_; rintro e5 V5 ⟨rfl, b5⟩
              obtain ⟨c0', c1'⟩ := R2.out _ b5
              have BB := Lib.hid (below_step BB.out b5)
              clear b5 c0 c1
              go_wp2_with (first | (at_builtin; refine wpList_appM (B := w3.heap.size) (v := u8) (l := L) (m := [(k, b)]) (ao := some ⟨V5.heap.size, 0, none⟩) (cap := 1) rfl (.tmp 56) (.tmp 62) rfl rfl rfl rfl (ownM_below (ownM_below hown.out BB.out) ((Below.refl _ _).alloc (Nat.le_refl _) _)) (by have := BB.out.size; have := hb.out.size; rw [World.size_alloc]; omega) (memRow_one V5 k b) (by intro e; cases e) (by have := hLj.out; have := HPL.out; have := HN.out; simp only [List.length_cons, List.length_nil]; omega) ?_; intro v' w' ho' hg'; have HO' := Lib.hid ho'; have BG := Lib.hid (own12_grown hown.out hb.out BB.out hg'); clear ho' hg') | fail)
              go_roundw
              case rel => exact ⟨j + 1, _, by go_num, by omega, HO', Lib.hid HNX.out, Lib.hid (by rw [List.length_append, hLj.out]; rfl), BG⟩
              case measure => simp [intOf]; omega
          · rw [hn2 (fun h => hl h.2)] at hnext
            have hz : z = none := by rw [HZ.out, hno (by rw [hnext]; rfl)]
            subst hz
            have hl2 : (((partsB p).length : Int) != 2) = true := by rw [bne_iff_ne]; omega
            clear hnext hno h2 hn2 h6 hk hps' HQS
            generalize partsB p = qs at *
            generalize qs.length = qn at *
            go_wp2_with fail
            refine (HPp.out _).mono ?_; rintro e3 V3 ⟨qo, qc, rfl, hqc, hqrow, b3⟩
            have BB := Lib.hid b3
            have x1 := HXC.out _ BB.out
            clear x0 b3 hqrow hqc
            go_wp2_with fail
            refine (HKp.out _).mono ?_; rintro e4 V4 ⟨rfl, b4⟩
            have BB := Lib.hid (below_step BB.out b4)
            clear b4 x1
            go_wp2_with fail
            go_ret2
            exact ⟨⟨_, rfl, ownM_nil _ _⟩, below_step BWR.out BB.out⟩
        · rw [hn2 (fun h => hk h.1)] at hnext
          have hz : z = none := by rw [HZ.out, hno (by rw [hnext]; rfl)]
          subst hz
          have hk2 : ((kindP (bl p) : Nat) : Int) ≠ 3 := by omega
          have hk3 : (((kindP (bl p) : Nat) : Int) != 3) = true := by rw [bne_iff_ne]; exact hk2
          have HKp := Lib.hid HKp
          clear hnext hno h2 hn2 hps' HQS
          generalize kindP (bl p) = kd at *
          generalize partsB p = qs at *
          generalize qs.length = qn at *
          go_wp2_with fail
          refine (HPp.out _).mono ?_; rintro e3 V3 ⟨qo, qc, rfl, hqc, hqrow, b3⟩
          have BB := Lib.hid b3
          have x1 := HXC.out _ BB.out
          clear x0 b3 hqrow hqc
          go_wp2_with fail
          refine (HKp.out _).mono ?_; rintro e4 V4 ⟨rfl, b4⟩
          have BB := Lib.hid (below_step BB.out b4)
          clear b4 x1
          go_wp2_with fail
          go_ret2
          exact ⟨⟨_, rfl, ownM_nil _ _⟩, below_step BWR.out BB.out⟩
      · obtain rfl : j = n := by omega
        have hm : memsR ps = some L := by have := hst.out; rwa [HN.out, List.take_length] at this
        have hz : z = if mayL c L = true then some L else none := by rw [HZ.out, hm]
        obtain ⟨q1, q2⟩ := memsR_size hm
        obtain ⟨bo, bcap, rfl, hmr, _, _⟩ := ownM_row hown.out
        have X3 := (X0.out.below BW3.out).below hb.out
        obtain ⟨x0, x1, x2, -⟩ := X3.cells
        have HM := fun V (hV : Below wr.heap.size wr V) => rmaymems_any c e q L bo bcap (fun m hm => Nat.le_trans (q1 m hm) (by decide)) (by have := HPL.out; omega) V (hmr.below hV)
        have HOWN := Lib.hid (ownM_low hown.out HSW0.out)
        clear hown hst hb hLj hmr X3 q1 q2 hm
        generalize hLn : L.length = ln at *
        cases hmay : mayL c L with
        | true =>
          rw [hmay] at HM hz
          have HM := Lib.hid HM
          rw [if_pos rfl] at hz
          subst hz
          go_wp2_with fail
          refine (HM.out _ (Below.refl _ _)).mono ?_; rintro e1 V ⟨rfl, b1⟩
          go_wp2_with fail
          go_ret2
          exact ⟨⟨_, rfl, ownM_below HOWN.out b1⟩, below_step BWR.out b1⟩
        | false =>
          rw [hmay] at HM hz
          have HM := Lib.hid HM
          rw [if_neg (by simp)] at hz
          subst hz
          go_wp2_with fail
          refine (HM.out _ (Below.refl _ _)).mono ?_; rintro e1 V ⟨rfl, b1⟩
          go_wp2_with fail
          go_ret2
          exact ⟨⟨_, rfl, ownM_nil _ _⟩, below_step BWR.out b1⟩
  · have hz0 : z = none := hz.trans (if_neg hk)
    subst hz0
    have hk2 : ((kindP (bl t) : Nat) : Int) ≠ 3 := by omega
    have hk3 : (((kindP (bl t) : Nat) : Int) != 3) = true := by rw [bne_iff_ne]; exact hk2
    generalize kindP (bl t) = kd at *
    have HK := Lib.hid HK
    clear hz HPL HPS
    generalize partsB t = ps at *
    generalize ps.length = n at *
    go_enter Tryz.func54, Tryz.ntmps54
    go_wp2_with fail
    rw [← HW0.out]
    refine (HP.out _).mono ?_; rintro e1 V1 ⟨ao, cap, rfl, hcap, hrow, b1⟩
    go_wp2_with fail
    refine (HK.out _).mono ?_; rintro e2 V2 ⟨rfl, b2⟩
    go_wp2_with fail
    go_ret2
    exact ⟨⟨_, rfl, ownM_nil _ _⟩, below_step (below_step B0.out b1) b2⟩
end Go.Proofs.YtbdlegjklfkdmaaGreatDoor.Pl
