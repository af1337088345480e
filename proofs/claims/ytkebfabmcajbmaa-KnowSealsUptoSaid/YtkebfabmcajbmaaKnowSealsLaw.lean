/- The statement KnowSeals, walked, where its two rows are of lengths that any machine bears. -/
import Derived.Test.YtkebfabmcajbmaaKnowHides
import Derived.Test.YtkebfabmcajbmaaKnowSeen
import Derived.Test.YtkebfabmcajbmaaKnowCut
import Derived.Test.YtkebfabmcajbmaaKnowTwo
namespace Go.Proofs.Ytkebfabmcajbmaa.Pl
open Go.RowKit

/-- A row of bytes that came in. -/
def ByteRow (w : World) (ao : Option Addr) (l : List Nat) : Prop := l = [] ∨ ∃ b off, ao = some ⟨b, off, none⟩ ∧ b < w.heap.size ∧ ∀ j, (hj : j < l.length) → w.cell? ⟨b, off + j, none⟩ = some (.int .u8 (l[j] : Int)) ∧ l[j] < 256
theorem ByteRow.below {w w' : World} {ao : Option Addr} {l : List Nat} (h : ByteRow w ao l) (hb : Below w.heap.size w w') : ByteRow w' ao l := by
  rcases h with h | ⟨b, off, e, hlt, hc⟩
  · exact .inl h
  · exact .inr ⟨b, off, e, Nat.lt_of_lt_of_le hlt hb.size, fun j hj => ⟨(World.cell?_of_block (a := ⟨b, off + j, none⟩) (hb.block b hlt)).trans (hc j hj).1, (hc j hj).2⟩⟩
/-- append of a row to a row that the call owns, at the operation. -/
theorem wpList_appR10 {ops : Array Oper} {rest : List Oper} {o : Oper} {a : Act} {Q : Exit → Act → World → Prop} {W : World} (hgd : o.guard = none) (s x : Operand)
    (ho : o.op = .call { callee := .builtin .append, args := #[s, x], argTypes := #[22, 22] }) (hty : o.type = 22) {B : Nat} {v u : Value} {l m : List ByteArray} {ao : Option Addr} {cap : Nat} (hs : a.eval s = v) (hx : a.eval x = u) (hu : u = .slice ao m.length cap)
    (hown : OwnT W B v l) (hB : B ≤ W.heap.size) (hrow : TxtRow W ao m) (hp : ao = none → cap = 0) (hl : l.length + m.length ≤ 1000000000)
    (K : ∀ v' w', OwnT w' B v' (l ++ m) → Below B W w' → wpList Try.prog ops Q rest (a.put o.dst v') w') : wpList Try.prog ops Q (o :: rest) a W := by
  subst hu
  refine wpList_plain hgd fun _ hK => ?_
  obtain ⟨v', w', hr, h2, h3, _⟩ := appT_run hown hB hrow hp hl
  refine wp_appT s x ho hty hs hx hr ?_
  exact hK _ _ (K v' w' h2 h3)
theorem atom_tree {s r : List UInt8} (h : atomP s = (r, 0)) : ∃ A : Tm, A.valid ∧ AtomT A ∧ A.enc = r := by
  unfold atomP at h
  split at h
  · injection h with _ h
    cases h
  · rename_i h1
    split at h
    · injection h with _ h
      cases h
    · rename_i h2
      injection h with h _
      have h3 : s.length ≤ 32 := by omega
      have h4 := (enc_len s.length).2
      refine ⟨.node (97 :: txt s) [], ⟨?_, ?_, ?_⟩, ⟨_, rfl⟩, ?_⟩
      · simp only [Tm.good]
        exact ⟨atom_head10 h3 (by simpa using h2), trivial⟩
      · simp [Tm.deep, deeps]
      · rw [Tm.enc_node]
        simp only [encs, List.append_nil, List.length_cons, txt_len]
        omega
      · rw [Tm.enc_node]
        simp only [encs, List.append_nil]
        exact h
theorem any_no {l : List ByteArray} {k : List UInt8} (h : (l.any fun x => hasP (bl x) k) = false) : ∀ x ∈ l, hasP (bl x) k = false := fun x hx => by
  rw [List.any_eq_false] at h
  simpa using h x hx
theorem small_sum {l : List ByteArray} (h : ((l.map bl).map List.length).sum ≤ 6000) : ∀ x ∈ l, x.size ≤ 6000 := fun x hx => by
  obtain ⟨k, hk, rfl⟩ := List.getElem_of_mem hx
  exact long_each h k hk

set_option maxHeartbeats 8000000 in
set_option maxRecDepth 100000 in
theorem knowseals_any (l wi : List ByteArray) (dd : List Nat) (ao mo po : Option Addr) (cap mcap pcap : Nat) (key secret : ByteArray) (hkey : key.size ≤ 281474976710656) (hsec : secret.size ≤ 281474976710656) (hl : l.length ≤ 100000000) (hwl : wi.length ≤ 100000000) (hdl : dd.length ≤ 9000000000000000000)
    (w : World) (hrow : TxtRow w ao l) (hp : ao = none → cap = 0) (hwrow : TxtRow w mo wi) (hwp : mo = none → mcap = 0) (hdrow : ByteRow w po dd) (hM : MX w) :
    Calls Try.prog 4 #[.slice ao l.length cap, .string key, .string secret, .slice mo wi.length mcap, .slice po dd.length pcap] w fun e w' => e = .returned (.bool true) ∧ Below w.heap.size w w' := by
  have HAL : Hid (∀ V, Below w.heap.size w V → Calls Try.prog 6 #[] V fun e w' => e = .returned (.bool true) ∧ Below V.heap.size V w') := Lib.hid (fun V hV => alive10_any V (hM.step hV))
  have HMX : Hid (∀ V, Below w.heap.size w V → MX V) := Lib.hid (fun V hV => hM.step hV)
  have HROW : Hid (∀ V, Below w.heap.size w V → TxtRow V ao l) := Lib.hid (fun V hV => hrow.below hV)
  have HWROW : Hid (∀ V, Below w.heap.size w V → TxtRow V mo wi) := Lib.hid (fun V hV => hwrow.below hV)
  have HDROW : Hid (∀ V, Below w.heap.size w V → ByteRow V po dd) := Lib.hid (fun V hV => hdrow.below hV)
  have HP := Lib.hid hp
  have HWP := Lib.hid hwp
  have HLL := Lib.hid hl
  have HWL := Lib.hid hwl
  have HA1 := Lib.hid (fun V => atom6_any key hkey V)
  have HA2 := Lib.hid (fun V => atom6_any secret hsec V)
  obtain ⟨xk, nk, hxk⟩ : ∃ x n, atomP (bl key) = (x, n) := ⟨_, _, rfl⟩
  obtain ⟨xs, ns, hxs⟩ : ∃ x n, atomP (bl secret) = (x, n) := ⟨_, _, rfl⟩
  rw [hxk, st2_mk] at HA1
  rw [hxs, st2_mk] at HA2
  have HXK := Lib.hid hxk
  have HXS := Lib.hid hxs
  have HLONG : Hid (∀ V a c, TxtRow V a (l ++ wi) → Calls Try.prog 5 #[.slice a (l.length + wi.length) c] V fun e w' => e = .returned (.bool (longB (l ++ wi))) ∧ V = w') := Lib.hid (fun V a c h => by
    have q := long10_any (l ++ wi) a c V h
    rw [List.length_append] at q
    exact q)
  obtain ⟨nl, hnl⟩ : ∃ n, n = l.length := ⟨_, rfl⟩
  obtain ⟨nw, hnw⟩ : ∃ n, n = wi.length := ⟨_, rfl⟩
  obtain ⟨nd, hnd⟩ : ∃ n, n = dd.length := ⟨_, rfl⟩
  have HNL := Lib.hid hnl
  have HNW := Lib.hid hnw
  have HND := Lib.hid hnd
  have HU : Hid ((Value.slice mo nw mcap) = .slice mo wi.length mcap) := Lib.hid (by rw [hnw])
  have HU1 : Hid ((Value.slice ao nl cap) = .slice ao l.length cap) := Lib.hid (by rw [hnl])
  have HBND : Hid (l.length + wi.length ≤ 1000000000) := Lib.hid (by omega)
  have HBL : Hid (l.length ≤ 1000000000) := Lib.hid (by omega)
  rw [← hnl] at hl ⊢
  rw [← hnw] at hwl ⊢
  rw [← hnd] at hdl ⊢
  clear hM hrow hp hwrow hwp hdrow hxk hxs hnl hnw hnd hkey hsec
  go_enter Try.func4, Try.ntmps4
  go_wp2_with (first
    | (at_builtin; refine wpList_appR10 (u := .slice mo nw mcap) (v := v1) (l := l) (m := wi) (ao := mo) (cap := mcap) (B := w.heap.size) rfl (.tmp 23) (.tmp 24) rfl rfl rfl rfl HU.out ho1 hb1.size (HWROW.out _ hb1) HWP.out HBND.out ?_; intro v2 w2 ho2 hb2; obtain ⟨a2, c2, rfl, hr2⟩ := ownT_row ho2; have R2 := Lib.hid hr2; have B2 := Lib.hid (hb1.trans hb2); clear ho1 hb1 ho2 hb2 hr2)
    | (at_builtin; refine wpList_copy10 rfl (.tmp 22) rfl ao cap l HU1.out (HROW.out _ (Below.refl _ _)) HBL.out HP.out w.heap.size (Nat.le_refl _) ?_; intro v1 w1 ho1 hb1 _)
    | fail)
  refine (HLONG.out _ _ _ R2.out).mono ?_; rintro e _ ⟨rfl, rfl⟩
  clear HLONG R2
  cases hlong : longB (l ++ wi) with
  | true =>
    go_wp2_with fail
    refine (HAL.out _ B2.out).mono ?_; rintro e w3 ⟨rfl, bz⟩
    have BZ := Lib.hid (below_step B2.out bz)
    clear bz
    go_wp2_with fail
    go_ret
    exact ⟨rfl, BZ.out⟩
  | false =>
  by_cases hdo : 40 < nd
  · have hdo' : (40 : Int) < (nd : Int) := by omega
    go_wp2_with fail
    refine (HAL.out _ B2.out).mono ?_; rintro e w3 ⟨rfl, bz⟩
    have BZ := Lib.hid (below_step B2.out bz)
    clear bz
    go_wp2_with fail
    go_ret
    exact ⟨rfl, BZ.out⟩
  have hdo' : ¬ (40 : Int) < (nd : Int) := by omega
  obtain ⟨hl40, hlB⟩ := long_no hlong
  have HLB := Lib.hid hlB
  have HL40 : Hid ((l ++ wi).length ≤ 40) := Lib.hid hl40
  clear hlong hl40 hlB
  go_wp2_with fail
  refine (HA1.out _).mono ?_; rintro e w3 ⟨rfl, b3⟩
  have B3 := Lib.hid (below_step B2.out b3)
  clear b3 B2 HA1
  go_wp2_with fail
  refine (HA2.out _).mono ?_; rintro e w4 ⟨rfl, b4⟩
  have B4 := Lib.hid (below_step B3.out b4)
  clear b4 B3 HA2
  by_cases hnk : nk = 0
  case neg =>
    have q : ((nk : Int) != 0) = true := by rw [bne_iff_ne]; omega
    go_wp2_with fail
    refine (HAL.out _ B4.out).mono ?_; rintro e w5 ⟨rfl, bz⟩
    have BZ := Lib.hid (below_step B4.out bz)
    clear bz
    go_wp2_with fail
    go_ret
    exact ⟨rfl, BZ.out⟩
  subst hnk
  by_cases hns : ns = 0
  case neg =>
    have q : ((ns : Int) != 0) = true := by rw [bne_iff_ne]; omega
    go_wp2_with fail
    refine (HAL.out _ B4.out).mono ?_; rintro e w5 ⟨rfl, bz⟩
    have BZ := Lib.hid (below_step B4.out bz)
    clear bz
    go_wp2_with fail
    go_ret
    exact ⟨rfl, BZ.out⟩
  subst hns
  obtain ⟨K, hK, aK, eK⟩ := atom_tree HXK.out
  obtain ⟨S, hS, aS, eS⟩ := atom_tree HXS.out
  have HKV := Lib.hid hK
  have HSV := Lib.hid hS
  have HAK := Lib.hid aK
  have HAS := Lib.hid aS
  have HEK : Hid (bl (tb10 xk) = K.enc) := Lib.hid eK.symm
  have HES : Hid (bl (tb10 xs) = S.enc) := Lib.hid eS.symm
  have hzk : (tb10 xk).size ≤ 16384 := valid_size hK eK.symm
  have hzs : (tb10 xs).size ≤ 16384 := valid_size hS eS.symm
  have HSUM : Hid (((l.map bl ++ wi.map bl).map List.length).sum ≤ 6000) := Lib.hid (by rw [← List.map_append]; exact HLB.out)
  have HLS : Hid (((l.map bl).map List.length).sum ≤ 6000) := Lib.hid (by have := HSUM.out; rw [List.map_append, List.sum_append] at this; omega)
  have HWS : Hid (((wi.map bl).map List.length).sum ≤ 6000) := Lib.hid (by have := HSUM.out; rw [List.map_append, List.sum_append] at this; omega)
  have HLZ := Lib.hid (small_sum HLS.out)
  have HWZ := Lib.hid (small_sum HWS.out)
  have HL4 : Hid (l.length ≤ 40 ∧ wi.length ≤ 40) := Lib.hid (by have := HL40.out; rw [List.length_append] at this; omega)
  have ST1 : Hid (∀ V, Below w.heap.size w V → Calls Try.prog 13 #[.slice ao nl cap, .string (tb10 xk)] V fun e w' => e = .returned (.bool (l.any fun x => hasP (bl x) K.enc)) ∧ Below V.heap.size V w') := Lib.hid (fun V hV => by
    have h := stands10_any l ao cap (by have := HL4.out; omega) (fun x hx => by have := HLZ.out x hx; omega) (tb10 xk) (by omega) V (HROW.out V hV)
    rw [← HNL.out, HEK.out] at h
    exact h)
  have ST2 : Hid (∀ V, Below w.heap.size w V → Calls Try.prog 13 #[.slice ao nl cap, .string (tb10 xs)] V fun e w' => e = .returned (.bool (l.any fun x => hasP (bl x) S.enc)) ∧ Below V.heap.size V w') := Lib.hid (fun V hV => by
    have h := stands10_any l ao cap (by have := HL4.out; omega) (fun x hx => by have := HLZ.out x hx; omega) (tb10 xs) (by omega) V (HROW.out V hV)
    rw [← HNL.out, HES.out] at h
    exact h)
  have ST3 : Hid (∀ V, Below w.heap.size w V → Calls Try.prog 13 #[.slice mo nw mcap, .string (tb10 xk)] V fun e w' => e = .returned (.bool (wi.any fun x => hasP (bl x) K.enc)) ∧ Below V.heap.size V w') := Lib.hid (fun V hV => by
    have h := stands10_any wi mo mcap (by have := HL4.out; omega) (fun x hx => by have := HWZ.out x hx; omega) (tb10 xk) (by omega) V (HWROW.out V hV)
    rw [← HNW.out, HEK.out] at h
    exact h)
  have ST4 : Hid (∀ V, Below w.heap.size w V → Calls Try.prog 13 #[.slice mo nw mcap, .string (tb10 xs)] V fun e w' => e = .returned (.bool (wi.any fun x => hasP (bl x) S.enc)) ∧ Below V.heap.size V w') := Lib.hid (fun V hV => by
    have h := stands10_any wi mo mcap (by have := HL4.out; omega) (fun x hx => by have := HWZ.out x hx; omega) (tb10 xs) (by omega) V (HWROW.out V hV)
    rw [← HNW.out, HES.out] at h
    exact h)
  have HSZK := Lib.hid hzk
  have HSZS := Lib.hid hzs
  clear hK hS aK aS eK eS hzk hzs
  rw [show (⟨xk.toArray⟩ : ByteArray) = tb10 xk from rfl, show (⟨xs.toArray⟩ : ByteArray) = tb10 xs from rfl]
  generalize tb10 xk = sk at *
  generalize tb10 xs = ss at *
  go_wp2_with fail
  refine (ST1.out _ B4.out).mono ?_; rintro e w5 ⟨rfl, b5⟩
  have B5 := Lib.hid (below_step B4.out b5)
  clear b5 B4 ST1
  cases h1 : (l.any fun x => hasP (bl x) K.enc) with
  | true =>
    go_wp2_with fail
    refine (HAL.out _ B5.out).mono ?_; rintro e w6 ⟨rfl, bz⟩
    have BZ := Lib.hid (below_step B5.out bz)
    clear bz
    go_wp2_with fail
    go_ret
    exact ⟨rfl, BZ.out⟩
  | false =>
  have N1 := Lib.hid (any_no h1)
  clear h1
  go_wp2_with fail
  refine (ST2.out _ B5.out).mono ?_; rintro e w6 ⟨rfl, b6⟩
  have B6 := Lib.hid (below_step B5.out b6)
  clear b6 B5 ST2
  cases h1 : (l.any fun x => hasP (bl x) S.enc) with
  | true =>
    go_wp2_with fail
    refine (HAL.out _ B6.out).mono ?_; rintro e w7 ⟨rfl, bz⟩
    have BZ := Lib.hid (below_step B6.out bz)
    clear bz
    go_wp2_with fail
    go_ret
    exact ⟨rfl, BZ.out⟩
  | false =>
  have N2 := Lib.hid (any_no h1)
  clear h1
  go_wp2_with fail
  refine (ST3.out _ B6.out).mono ?_; rintro e w7 ⟨rfl, b7⟩
  have B7 := Lib.hid (below_step B6.out b7)
  clear b7 B6 ST3
  cases h1 : (wi.any fun x => hasP (bl x) K.enc) with
  | true =>
    go_wp2_with fail
    refine (HAL.out _ B7.out).mono ?_; rintro e w8 ⟨rfl, bz⟩
    have BZ := Lib.hid (below_step B7.out bz)
    clear bz
    go_wp2_with fail
    go_ret
    exact ⟨rfl, BZ.out⟩
  | false =>
  have N3 := Lib.hid (any_no h1)
  clear h1
  go_wp2_with fail
  refine (ST4.out _ B7.out).mono ?_; rintro e w8 ⟨rfl, b8⟩
  have B8 := Lib.hid (below_step B7.out b8)
  clear b8 B7 ST4
  cases h1 : (wi.any fun x => hasP (bl x) S.enc) with
  | true =>
    go_wp2_with fail
    refine (HAL.out _ B8.out).mono ?_; rintro e w9 ⟨rfl, bz⟩
    have BZ := Lib.hid (below_step B8.out bz)
    clear bz
    go_wp2_with fail
    go_ret
    exact ⟨rfl, BZ.out⟩
  | false =>
  have N4 := Lib.hid (any_no h1)
  clear h1
  have CL : Hid (∀ b ∈ l.map bl, CleanB K S b) := Lib.hid (fun b hb => by
    obtain ⟨x, hx, rfl⟩ := List.mem_map.1 hb
    exact clean_has HKV.out HSV.out (N1.out x hx) (N2.out x hx))
  have CW : Hid (∀ x ∈ wi, CleanB K S (bl x)) := Lib.hid (fun x hx => clean_has HKV.out HSV.out (N3.out x hx) (N4.out x hx))
  have HSEEN := Lib.hid (seen10_any l ao cap (by have := HL4.out; omega) HLS.out w8 (HROW.out _ B8.out) (HMX.out _ B8.out))
  rw [← HNL.out] at HSEEN
  have SI : Hid (SInv K S (l.map bl ++ wi.map bl) 0 (learns [] (l.map bl))) := Lib.hid (sinv_start (fun b hb => List.mem_append.2 (.inl hb)) CL.out)
  clear N1 N2 N3 N4 CL
  go_wp2_with fail
  refine HSEEN.out.mono ?_; rintro e w9 ⟨⟨p, F, rfl, k9, f9⟩, b9⟩
  have B9 := Lib.hid (below_step B8.out b9)
  have K9 := Lib.hid k9
  have F9 : Hid (∀ b, F b → w.heap.size ≤ b) := Lib.hid (fun b hb => Nat.le_trans B8.out.size (f9 b hb))
  clear k9 f9 b9 B8 HSEEN
  generalize learns [] (l.map bl) = H0 at *
  go_wp2_with fail
  go_loopw [16] (fun iv wr => ∃ (i : Nat) (F : Nat → Prop) (H : List (List UInt8)), iv = .int .i64 i ∧ i ≤ nd ∧ Hid (KnowAt wr F p H) ∧ Hid (SInv K S (l.map bl ++ wi.map bl) i H) ∧ Hid (∀ b, F b → w.heap.size ≤ b) ∧ Hid (Below w.heap.size w wr)) (fun iv _ => nd - (intOf iv).toNat)
  case atStart => exact ⟨0, F, H0, rfl, Nat.zero_le _, K9, SI, F9, B9⟩
  case round =>
    clear K9 SI F9 B9
    obtain ⟨i, F, H, rfl, hin, hk, hs, hf, hb⟩ := hrel
    by_cases hgo : i < nd ∧ 0 < nw
    · obtain ⟨hi, hw0⟩ := hgo
      have hi' : (i : Int) < (nd : Int) := by omega
      have hw0' : (0 : Int) < (nw : Int) := by omega
      have hwl0 : 0 < wi.length := by rw [← HNW.out]; exact hw0
      obtain ⟨j1, hj1⟩ : ∃ j, j = i % nw := ⟨_, rfl⟩
      obtain ⟨j2, hj2⟩ : ∃ j, j = (i + 1) % nw := ⟨_, rfl⟩
      have hm1 : Int.tmod (i : Int) (nw : Int) = (j1 : Int) := by rw [Int.tmod_eq_emod_of_nonneg (by omega), hj1]; exact (Int.natCast_emod i nw).symm
      have hm2 : Int.tmod ((i : Int) + 1) (nw : Int) = (j2 : Int) := by rw [Int.tmod_eq_emod_of_nonneg (by omega), hj2]; exact (Int.natCast_emod (i + 1) nw).symm
      have hl1 : j1 < wi.length := by rw [← HNW.out, hj1]; exact Nat.mod_lt _ hw0
      have hl2 : j2 < wi.length := by rw [← HNW.out, hj2]; exact Nat.mod_lt _ hw0
      have hn1 : j1 < nw := by rw [HNW.out]; exact hl1
      have hn2 : j2 < nw := by rw [HNW.out]; exact hl2
      have hn1' : (j1 : Int) < (nw : Int) := by omega
      have hn2' : (j2 : Int) < (nw : Int) := by omega
      have hwr : IntKind.i64.wrap ((i : Int) + 1) = (i : Int) + 1 := by rw [IntWalk.i64_in _ (by omega)]
      have h01 : (0 : Int) ≤ (j1 : Int) := by omega
      have h02 : (0 : Int) ≤ (j2 : Int) := by omega
      have hnz : ¬ nw = 0 := by omega
      have hid : i < dd.length := by rw [← HND.out]; exact hi
      rcases HWROW.out _ hb.out with e | ⟨g, off, rfl, hlt, hc⟩
      · exfalso
        rw [e] at hwl0
        exact absurd hwl0 (Nat.not_lt_zero _)
      have cw1 := hc j1 hl1
      have cw2 := hc j2 hl2
      have eg1 : wi.getD j1 ByteArray.empty = wi[j1] := by simp [List.getD_eq_getElem?_getD, hl1]
      have eg2 : wi.getD j2 ByteArray.empty = wi[j2] := by simp [List.getD_eq_getElem?_getD, hl2]
      rw [eg1] at cw1
      rw [eg2] at cw2
      rcases HDROW.out _ hb.out with e | ⟨gd, offd, rfl, hltd, hcd⟩
      · exfalso
        rw [e] at hid
        exact absurd hid (Nat.not_lt_zero _)
      obtain ⟨cd, hd256⟩ := hcd i hid
      have hy1 := List.getElem_mem hl1
      have hy2 := List.getElem_mem hl2
      have HH := Lib.hid (fun V => hides10_any dd[i] hd256 sk wi[j1] ss wi[j2] (by have := HSZK.out; omega) (by have := HWZ.out _ hy1; omega) (by have := HSZS.out; omega) (by have := HWZ.out _ hy2; omega) V)
      rw [HEK.out, HES.out] at HH
      obtain ⟨r, ge, hr⟩ : ∃ r n, hidesP dd[i] K.enc (bl wi[j1]) S.enc (bl wi[j2]) = (r, n) := ⟨_, _, rfl⟩
      rw [hr, st2_mk] at HH
      have HSTEP : Hid (ge = 0 → SInv K S (l.map bl ++ wi.map bl) (i + 1) (r :: H) ∧ checkP r = 0) := Lib.hid (fun e => by
        rw [e] at hr
        exact sinv_step HKV.out HSV.out HAS.out hs.out hr (List.mem_append.2 (.inr (List.mem_map_of_mem hy1))) (List.mem_append.2 (.inr (List.mem_map_of_mem hy2))) (CW.out _ hy1) (CW.out _ hy2))
      have HMORE := Lib.hid (sinv_more hs.out (Nat.le_succ i))
      have HI1 : Hid (i + 1 ≤ nd) := Lib.hid hi
      have hi45 : i + 1 ≤ 45 := by omega
      have KS : wr.drew.cell? ⟨gd, offd + i, none⟩ = some (.int .u8 (dd[i] : Int)) ∧ wr.drew.cell? ⟨g, off + j2, none⟩ = some (.string wi[j2]) := ⟨cd, cw2⟩
      have BD := Lib.hid (below_step hb.out (drew10 wr))
      generalize dd[i] = d at *
      generalize wi[j1] = t at *
      generalize wi[j2] = u at *
      generalize hsr : (⟨r.toArray⟩ : ByteArray) = sr at HH
      have HSR : Hid (bl sr = r) := Lib.hid (by rw [← hsr]; rfl)
      have HH2 := Lib.hid (HH.out wr.drew)
      have cd1 : wr.cell? ⟨g, off + j1, none⟩ = some (.string t) := cw1
      clear hc hlt eg1 eg2 hcd hltd hj1 hj2 hl1 hl2 hid hwl0 hr hy1 hy2 hd256 cw2 cd hsr HH
      go_wp2_with fail
      go_region_held3 (fun W => W.cell? ⟨gd, offd + i, none⟩ = some (.int .u8 (d : Int)) ∧ W.cell? ⟨g, off + j2, none⟩ = some (.string u)) (first | assumption) (first | (go_at_call 14; (with_reducible refine HH2.out.mono ?_); rintro e wa ⟨rfl, ba⟩; have KA : wa.cell? ⟨gd, offd + i, none⟩ = some (.int .u8 (d : Int)) ∧ wa.cell? ⟨g, off + j2, none⟩ = some (.string u) := ⟨(ba.cell (p := ⟨gd, offd + i, none⟩) (World.block_lt_of_cell? _ _ KS.1)).trans KS.1, (ba.cell (p := ⟨g, off + j2, none⟩) (World.block_lt_of_cell? _ _ KS.2)).trans KS.2⟩; have BA := Lib.hid (below_step BD.out ba); have KNA := Lib.hid (hk.out.kept (Nat.le_trans (drew10 wr).size ba.size) (fun b hb _ => ba.block b hb)); clear ba))
      clear KS KA HH2 cd1 cw1 BD
      by_cases hge : ge = 0
      · subst hge
        obtain ⟨s1, s2⟩ := HSTEP.out rfl
        obtain ⟨h1, h2, h3⟩ := sinv_learn HSUM.out hi45 s1.cov s2
        obtain ⟨h4, h5, _⟩ := sinv_hidden HKV.out HSV.out HAK.out HAS.out s1
        have S1 := Lib.hid s1
        have hsz : sr.size ≤ 16384 := by rw [size_bl, HSR.out]; exact check_len s2
        have HLRN := Lib.hid (know_learn F p H sr (by omega) wa KNA.out (HMX.out _ BA.out))
        rw [HSR.out, h1, h2] at HLRN
        have HC1 := Lib.hid (fun V F' (h : KnowAt V F' p (r :: H)) => know_can F' p (r :: H) sr (by omega) V h)
        rw [HSR.out, h3] at HC1
        have HC2 := Lib.hid (fun V F' (h : KnowAt V F' p (r :: H)) => know_can F' p (r :: H) sk (by have := HSZK.out; omega) V h)
        rw [HEK.out, h4] at HC2
        have HC3 := Lib.hid (fun V F' (h : KnowAt V F' p (r :: H)) => know_can F' p (r :: H) ss (by have := HSZS.out; omega) V h)
        rw [HES.out, h5] at HC3
        clear s1 s2 h1 h2 h3 h4 h5 hsz
        go_wp2_with fail
        refine HLRN.out.mono ?_; rintro e wb ⟨rfl, ⟨F2, kb, gb⟩, tb⟩
        have BB := Lib.hid (BA.out.trans (turn_to tb hf.out BA.out.size))
        have KB := Lib.hid kb
        have FB : Hid (∀ b, F2 b → w.heap.size ≤ b) := Lib.hid (fun b hb => (gb b hb).elim (hf.out b) (fun e => Nat.le_trans BA.out.size e))
        clear kb gb tb
        go_wp2_with fail
        refine (HC1.out _ _ KB.out).mono ?_; rintro e wc ⟨rfl, bc⟩
        have BC := Lib.hid (below_step BB.out bc)
        have KC := Lib.hid (KB.out.kept bc.size (fun b hb _ => bc.block b hb))
        clear bc
        go_wp2_with fail
        refine (HC2.out _ _ KC.out).mono ?_; rintro e we ⟨rfl, be⟩
        have BE := Lib.hid (below_step BC.out be)
        have KE := Lib.hid (KC.out.kept be.size (fun b hb _ => be.block b hb))
        clear be
        go_wp2_with fail
        refine (HC3.out _ _ KE.out).mono ?_; rintro e wf ⟨rfl, bf⟩
        have BF := Lib.hid (below_step BE.out bf)
        have KF := Lib.hid (KE.out.kept bf.size (fun b hb _ => bf.block b hb))
        clear bf
        go_wp2_with fail
        go_roundw
        case rel => exact ⟨i + 1, F2, r :: H, by go_num, HI1.out, KF, S1, FB, BF⟩
        case measure => simp [intOf]; omega
      · have q : ((ge : Int) != 0) = true := by rw [bne_iff_ne]; omega
        go_wp2_with fail
        go_roundw
        case rel => exact ⟨i + 1, F, H, by go_num, HI1.out, KNA, HMORE, hf, BA⟩
        case measure => simp [intOf]; omega
    · obtain ⟨hc1, hc2, _⟩ := sinv_hidden HKV.out HSV.out HAK.out HAS.out hs.out
      have hvr := atoms_row HKV.out HSV.out HAK.out HAS.out
      have hc3 := (sinv_hidden HKV.out HSV.out HAK.out HAS.out hs.out).2.2 (114 :: enc 2) rfl hvr
      have hcov := cov_key HKV.out HAK.out hs.out.cov
      have hn45 : i + 1 ≤ 45 := by omega
      obtain ⟨h1, h2, h3⟩ := sinv_learn HSUM.out hn45 hcov (check_enc HKV.out)
      have hrowp : rowP [bl sk, bl ss] = ((Tm.node (114 :: enc 2) [K, S]).enc, 0) := by
        rw [HEK.out, HES.out]
        exact made_again hvr
      have HROWC : Hid (∀ V a, TxtRow V a [sk, ss] → Calls Try.prog 15 #[.slice a 2 2] V fun e w' => e = .returned (.tuple #[.string (tb10 (Tm.node (114 :: enc 2) [K, S]).enc), .int .i64 0]) ∧ Below V.heap.size V w') := Lib.hid (fun V a hr => by
        have h := row6_any [sk, ss] a 2 (by simp) (by simp) (by
          intro x hx
          simp only [List.mem_cons, List.not_mem_nil, or_false] at hx
          rcases hx with rfl | rfl
          · have := HSZK.out; omega
          · have := HSZS.out; omega) V hr
        rw [show [sk, ss].map bl = [bl sk, bl ss] from rfl, hrowp, st2_mk] at h
        exact h)
      have hrz : (tb10 (Tm.node (114 :: enc 2) [K, S]).enc).size ≤ 16384 := valid_size hvr rfl
      have HC1 := Lib.hid (fun V (h : KnowAt V F p H) => know_can F p H sk (by have := HSZK.out; omega) V h)
      rw [HEK.out, hc1] at HC1
      have HC2 := Lib.hid (fun V (h : KnowAt V F p H) => know_can F p H ss (by have := HSZS.out; omega) V h)
      rw [HES.out, hc2] at HC2
      have HC3 := Lib.hid (fun V (h : KnowAt V F p H) => know_can F p H (tb10 (Tm.node (114 :: enc 2) [K, S]).enc) (by omega) V h)
      rw [bl_tb10, hc3] at HC3
      have HLRN := Lib.hid (fun V (h : KnowAt V F p H) (hM : MX V) => know_learn F p H sk (by have := HSZK.out; omega) V h hM)
      rw [HEK.out, h1, h2] at HLRN
      have HC4 := Lib.hid (fun V F' (h : KnowAt V F' p (K.enc :: H)) => know_can F' p (K.enc :: H) sk (by have := HSZK.out; omega) V h)
      rw [HEK.out, h3] at HC4
      generalize tb10 (Tm.node (114 :: enc 2) [K, S]).enc = sr at *
      clear hc1 hc2 hvr hc3 hcov h1 h2 h3 hrowp hrz
      obtain ⟨wz, hwz⟩ : ∃ V, V = wr.alloc (.cells #[.string sk, .string ss] 9) := ⟨_, rfl⟩
      have bz : Below wr.heap.size wr wz := by rw [hwz]; exact (Below.refl _ _).alloc (Nat.le_refl _) _
      have rz : TxtRow wz (some ⟨wr.heap.size, 0, none⟩) [sk, ss] := by rw [hwz]; exact row2 wr sk ss
      have BZ := Lib.hid (below_step hb.out bz)
      have KZ := Lib.hid (hk.out.kept bz.size (fun b hb _ => bz.block b hb))
      have RZ := Lib.hid rz
      clear bz rz
      by_cases hi : i < nd
      · have hw0 : nw = 0 := Classical.byContradiction (fun e => hgo ⟨hi, by omega⟩)
        subst hw0
        have hi' : (i : Int) < (nd : Int) := by omega
        clear hgo
        go_wp2_with fail
        rw [← hwz]
        clear hwz
        refine (HROWC.out _ _ RZ.out).mono ?_; rintro e wa ⟨rfl, ba⟩
        have BA := Lib.hid (below_step BZ.out ba)
        have KA := Lib.hid (KZ.out.kept ba.size (fun b hb _ => ba.block b hb))
        clear ba
        go_wp2_with fail
        refine (HC1.out _ KA.out).mono ?_; rintro e wb ⟨rfl, bb⟩
        have BB := Lib.hid (below_step BA.out bb)
        have KB := Lib.hid (KA.out.kept bb.size (fun b hb _ => bb.block b hb))
        clear bb
        go_wp2_with fail
        refine (HC2.out _ KB.out).mono ?_; rintro e wc ⟨rfl, bc⟩
        have BC := Lib.hid (below_step BB.out bc)
        have KC := Lib.hid (KB.out.kept bc.size (fun b hb _ => bc.block b hb))
        clear bc
        go_wp2_with fail
        refine (HC3.out _ KC.out).mono ?_; rintro e we ⟨rfl, be⟩
        have BE := Lib.hid (below_step BC.out be)
        have KE := Lib.hid (KC.out.kept be.size (fun b hb _ => be.block b hb))
        clear be
        go_wp2_with fail
        refine (HLRN.out _ KE.out (HMX.out _ BE.out)).mono ?_; rintro e wf ⟨rfl, ⟨F2, kf, gf⟩, tf⟩
        have BF := Lib.hid (BE.out.trans (turn_to tf hf.out BE.out.size))
        have KF := Lib.hid kf
        clear kf gf tf
        go_wp2_with fail
        refine (HC4.out _ _ KF.out).mono ?_; rintro e wg ⟨rfl, bg⟩
        have BG := Lib.hid (below_step BF.out bg)
        clear bg
        go_wp2_with fail
        refine (HAL.out _ BG.out).mono ?_; rintro e wh ⟨rfl, bh⟩
        have BH := Lib.hid (below_step BG.out bh)
        clear bh
        go_wp2_with fail
        go_ret
        exact ⟨rfl, BH.out⟩
      · have hi' : ¬ (i : Int) < (nd : Int) := by omega
        clear hgo
        go_wp2_with fail
        rw [← hwz]
        clear hwz
        refine (HROWC.out _ _ RZ.out).mono ?_; rintro e wa ⟨rfl, ba⟩
        have BA := Lib.hid (below_step BZ.out ba)
        have KA := Lib.hid (KZ.out.kept ba.size (fun b hb _ => ba.block b hb))
        clear ba
        go_wp2_with fail
        refine (HC1.out _ KA.out).mono ?_; rintro e wb ⟨rfl, bb⟩
        have BB := Lib.hid (below_step BA.out bb)
        have KB := Lib.hid (KA.out.kept bb.size (fun b hb _ => bb.block b hb))
        clear bb
        go_wp2_with fail
        refine (HC2.out _ KB.out).mono ?_; rintro e wc ⟨rfl, bc⟩
        have BC := Lib.hid (below_step BB.out bc)
        have KC := Lib.hid (KB.out.kept bc.size (fun b hb _ => bc.block b hb))
        clear bc
        go_wp2_with fail
        refine (HC3.out _ KC.out).mono ?_; rintro e we ⟨rfl, be⟩
        have BE := Lib.hid (below_step BC.out be)
        have KE := Lib.hid (KC.out.kept be.size (fun b hb _ => be.block b hb))
        clear be
        go_wp2_with fail
        refine (HLRN.out _ KE.out (HMX.out _ BE.out)).mono ?_; rintro e wf ⟨rfl, ⟨F2, kf, gf⟩, tf⟩
        have BF := Lib.hid (BE.out.trans (turn_to tf hf.out BE.out.size))
        have KF := Lib.hid kf
        clear kf gf tf
        go_wp2_with fail
        refine (HC4.out _ _ KF.out).mono ?_; rintro e wg ⟨rfl, bg⟩
        have BG := Lib.hid (below_step BF.out bg)
        clear bg
        go_wp2_with fail
        refine (HAL.out _ BG.out).mono ?_; rintro e wh ⟨rfl, bh⟩
        have BH := Lib.hid (below_step BG.out bh)
        clear bh
        go_wp2_with fail
        go_ret
        exact ⟨rfl, BH.out⟩
end Go.Proofs.Ytkebfabmcajbmaa.Pl
