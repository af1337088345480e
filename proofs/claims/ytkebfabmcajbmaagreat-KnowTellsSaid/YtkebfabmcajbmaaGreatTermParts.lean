/- What the document's parts of a term answers: a row of texts that the call owns. -/
import Derived.Test.YtkebfabmcajbmaaGreatKnowZ4
import Derived.Laws.OwnMore
import Derived.OwnWalk
namespace Go.Proofs.YtkebfabmcajbmaaGreat.Pl
open Go.RowKit

theorem encs_append (a b : List Tm) : encs (a ++ b) = encs a ++ encs b := by
  rw [encs_flat, encs_flat, encs_flat, List.map_append, List.flatten_append]
theorem encs_one (t : Tm) : encs [t] = t.enc := by simp [encs]
theorem encs_at (l : List Tm) (k : Nat) (hk : k < l.length) : encs l = encs (l.take k) ++ (l[k].enc ++ encs (l.drop (k + 1))) := by
  have e : l = l.take k ++ (l[k] :: l.drop (k + 1)) := by rw [← List.drop_eq_getElem_cons hk, List.take_append_drop]
  have e2 : encs (l.take k ++ (l[k] :: l.drop (k + 1))) = encs (l.take k) ++ (l[k].enc ++ encs (l.drop (k + 1))) := by rw [encs_append]; simp [encs]
  rw [← e2, ← e]
theorem encs_take (l : List Tm) (k : Nat) (hk : k < l.length) : (encs (l.take (k + 1))).length = (encs (l.take k)).length + l[k].enc.length := by
  rw [List.take_succ_eq_append_getElem hk, encs_append, encs_one, List.length_append]
def txts (l : List ByteArray) : List Value := l.map Value.string
theorem txts_length (l : List ByteArray) : (txts l).length = l.length := by simp [txts]
theorem txts_at (l : List ByteArray) (j : Nat) (h : j < l.length) : (txts l)[j]? = some (.string (l.getD j ByteArray.empty)) := by
  simp [txts, List.getD_eq_getElem?_getD, h]
/-- v is a row of these texts that the call owns, from block B on. -/
def OwnT (w : World) (B : Nat) (v : Value) (l : List ByteArray) : Prop := w.ownsRow B 9 1 v l.length (txts l)
theorem ownT_nil (w : World) (B : Nat) : OwnT w B (.slice none 0 0) [] := World.ownsRow_nil _ _ _ _
theorem ownT_below {w w' : World} {B : Nat} {v : Value} {l : List ByteArray} (h : OwnT w B v l) (hb : Below w.heap.size w w') : OwnT w' B v l := by
  refine ⟨h.1, ?_⟩
  rcases h.2 with hn | ⟨g, cap, cur, hv, hbg, hg, rest⟩
  · exact .inl hn
  · exact .inr ⟨g, cap, cur, hv, hbg, (hb.block g (Array.getElem?_eq_some_iff.1 hg).1).trans hg, rest⟩
theorem ownT_row {w : World} {B : Nat} {v : Value} {l : List ByteArray} (h : OwnT w B v l) : ∃ ao cap, v = .slice ao l.length cap ∧ TxtRow w ao l := by
  rcases h.2 with ⟨hv, h0⟩ | ⟨g, cap, cur, hv, hbg, hg, rest⟩
  · exact ⟨none, 0, by rw [hv, h0], .inl (List.length_eq_zero_iff.1 h0)⟩
  · have h' := h
    unfold OwnT at h'
    rw [hv] at h'
    exact ⟨_, cap, hv, .inr ⟨g, 0, rfl, (Array.getElem?_eq_some_iff.1 hg).1, fun j hj => by rw [Nat.zero_add, h'.cellAt j (by omega), txts_at l j hj]⟩⟩
theorem ownT_row2 {w : World} {B : Nat} {v : Value} {l : List ByteArray} (h : OwnT w B v l) : ∃ ao cap, v = .slice ao l.length cap ∧ TxtRow w ao l ∧ ∀ b off, ao = some ⟨b, off, none⟩ → B ≤ b := by
  rcases h.2 with ⟨hv, h0⟩ | ⟨g, cap, cur, hv, hbg, hg, rest⟩
  · exact ⟨none, 0, by rw [hv, h0], .inl (List.length_eq_zero_iff.1 h0), fun b off e => by cases e⟩
  · have h' := h
    unfold OwnT at h'
    rw [hv] at h'
    exact ⟨_, cap, hv, .inr ⟨g, 0, rfl, (Array.getElem?_eq_some_iff.1 hg).1, fun j hj => by rw [Nat.zero_add, h'.cellAt j (by omega), txts_at l j hj]⟩, fun b off e => by cases e; exact hbg⟩
theorem TxtRow.grown {w w' : World} {ao : Option Addr} {l : List ByteArray} {row : Option Nat} (h : TxtRow w ao l) (hg : w.grownBy w' row) (hne : ∀ b off, ao = some ⟨b, off, none⟩ → row ≠ some b) : TxtRow w' ao l := by
  rcases h with h | ⟨b, off, e, hlt, hc⟩
  · exact .inl h
  · exact .inr ⟨b, off, e, Nat.lt_of_lt_of_le hlt hg.size, fun j hj => hg.cell (hc j hj) (fun e2 => hne b off e e2.symm)⟩
theorem infoStr : (Tryz.prog.info? 9).map (fun i => (i.zero, i.size, i.bytes)) = some (some (.string ⟨#[]⟩), 1, 16) := by kernel_rfl
/-- A tree's parts as texts. -/
def tx (t : Tm) : ByteArray := ⟨t.enc.toArray⟩
theorem bl_tx (t : Tm) : bl (tx t) = t.enc := rfl
set_option maxHeartbeats 4000000 in
set_option maxRecDepth 100000 in
theorem parts_any (h : List UInt8) (l : List Tm) (hv : (Tm.node h l).valid) (s : ByteArray) (hs : bl s = (Tm.node h l).enc) (w : World) :
    Calls Tryz.prog 71 #[.string s] w fun e w' => ∃ v, e = .returned v ∧ OwnT w' w.heap.size v (l.map tx) ∧ Below w.heap.size w w' := by
  obtain ⟨i0, hi, hz0, hz1, hz2⟩ := info_parts infoStr
  have HI := Lib.hid hi
  have hg := hv.1
  simp only [Tm.good] at hg
  obtain ⟨c, hkd⟩ := head_kind hg.1
  have hl32 : l.length ≤ 32 := by cases hkd <;> omega
  have hsz : s.size = (Tm.node h l).enc.length := by rw [size_bl, hs]
  have hsz2 : s.size ≤ 16384 := by rw [hsz]; exact hv.2.2
  have hbl : bl s = h ++ encs l := by rw [hs, Tm.enc_node]
  have hhead : headP (bl s) = (h.length, l.length, 0) := by rw [hbl]; exact hg.1 _
  have HH := Lib.hid (rhead_any s (by omega) w)
  rw [hhead] at HH
  -- where the k-th part lies
  have HP : Hid (∀ k, k < l.length → ∃ t : Tm, l[k]? = some t ∧ t.valid ∧ (bl s).drop (h.length + (encs (l.take k)).length) = t.enc ++ encs (l.drop (k + 1)) ∧ (encs (l.take (k + 1))).length = (encs (l.take k)).length + t.enc.length ∧ h.length + (encs (l.take (k + 1))).length ≤ s.size) := Lib.hid (fun k hk => by
    refine ⟨l[k], List.getElem?_eq_getElem hk, node_valid_parts hv _ (List.getElem_mem hk), ?_, ?_, ?_⟩
    · rw [hbl, encs_at l k hk, ← List.append_assoc, ← List.length_append, List.drop_left]
    · exact encs_take l k hk
    · have e : encs l = encs (l.take (k + 1)) ++ encs (l.drop (k + 1)) := by
        rw [encs_flat, encs_flat, encs_flat, ← List.flatten_append, ← List.map_append, List.take_append_drop]
      have h2 := congrArg List.length hbl
      rw [bl_length, List.length_append, e, List.length_append] at h2
      omega)
  have HALL : Hid (h.length ≤ s.size) := Lib.hid (by
    have h2 := congrArg List.length hbl
    rw [bl_length, List.length_append] at h2
    omega)
  obtain ⟨n, hn⟩ : ∃ n, n = l.length := ⟨_, rfl⟩
  rw [← hn] at HH HP hl32
  have HN := Lib.hid hn
  clear hv hg hkd hsz hbl hhead hs hn hi
  obtain ⟨hl, hhl⟩ : ∃ q, q = h.length := ⟨_, rfl⟩
  rw [← hhl] at HH HP HALL
  clear hhl
  go_enter Tryz.func71, Tryz.ntmps71
  go_wp2_with fail
  refine HH.out.mono ?_; rintro e w1 ⟨rfl, b1⟩
  have B1 := Lib.hid b1
  clear b1
  unfold hd3
  go_wp2_with fail
  go_loopw [3, 6, 7] (fun nv v iv wr => ∃ k m : Nat, iv = .int .i64 k ∧ nv = .int .i64 m ∧ k ≤ n ∧ m ≤ 16384 ∧ Hid (m = hl + (encs (l.take k)).length) ∧ Hid (m ≤ s.size) ∧ Hid (OwnT wr w.heap.size v ((l.take k).map tx)) ∧ Hid (Below w.heap.size w wr)) (fun _ _ iv _ => n - (intOf iv).toNat)
  case atStart => exact ⟨0, hl, rfl, rfl, Nat.zero_le _, by have := HALL.out; omega, Lib.hid (by simp [encs]), HALL, Lib.hid (ownT_nil _ _), B1⟩
  case round =>
    obtain ⟨k, m, rfl, rfl, hkn, hm, hme, hms, hown, hb⟩ := hrel
    by_cases hk : k < n
    · have hk' : (k : Int) < (n : Int) := by omega
      obtain ⟨t, ht, tv, td, tl, te⟩ := HP.out k hk
      have sl : ∀ V : World, (Instr.sliceAt 9 (.string s) (some (.int .i64 (m : Int))) none none).run Tryz.prog V = .ok (.string (s.extract m s.size)) V := tslice_from s m hms.out
      have hx : bl (s.extract m s.size) = t.enc ++ encs (l.drop (k + 1)) := by rw [bl_from, hme.out, td]
      have hxs : (s.extract m s.size).size ≤ 281474976710656 := by rw [size_bl, bl_from, List.length_drop, bl_length]; omega
      have hC := rread_any 16 (s.extract m s.size) wr (Nat.le_refl _) hxs
      rw [hx, read_enc t tv.1 16 tv.2.1, show (17 - ((16 : Nat) : Int)) = 1 by decide] at hC
      have HC := Lib.hid hC
      generalize s.extract m s.size = x at *
      obtain ⟨q, hq⟩ : ∃ q, q = t.enc.length := ⟨_, rfl⟩
      rw [← hq] at HC tl
      have hq1 : m + q ≤ s.size := by rw [hme.out, Nat.add_assoc, ← tl]; exact te
      have sm : ∀ V : World, (Instr.sliceAt 9 (.string s) (some (.int .i64 (m : Int))) (some (.int .i64 (((m + q : Nat)) : Int))) none).run Tryz.prog V = .ok (.string (s.extract m (m + q))) V := tslice_mid s m (m + q) (by omega) hq1
      have hpart : s.extract m (m + q) = tx t := by
        apply bl_inj
        rw [bl_extract, bl_tx, List.drop_take, hme.out, td, show hl + (encs (l.take k)).length + q - (hl + (encs (l.take k)).length) = q by omega, hq, List.take_left]
      rw [hpart] at sm
      have sm' : ∀ V : World, (Instr.sliceAt 9 (.string s) (some (.int .i64 (m : Int))) (some (.int .i64 ((m : Int) + (q : Int)))) none).run Tryz.prog V = .ok (.string (tx t)) V := fun V => by
        have h := sm V
        rw [show (((m + q : Nat)) : Int) = (m : Int) + (q : Int) by omega] at h
        exact h
      have HTK : Hid ((l.take (k + 1)).map tx = (l.take k).map tx ++ [tx t]) := Lib.hid (by
        have hkl : k < l.length := by rw [← HN.out]; exact hk
        rw [List.take_succ_eq_append_getElem hkl, List.map_append]
        have : l[k] = t := by rw [List.getElem?_eq_getElem hkl] at ht; exact Option.some.inj ht
        rw [this]; rfl)
      have HME : Hid (m + q = hl + (encs (l.take (k + 1))).length) := Lib.hid (by rw [tl, hme.out]; omega)
      have HLN : Hid (((l.take k).map tx).length ≤ 32) := Lib.hid (by rw [List.length_map, List.length_take]; omega)
      obtain ⟨L, hL⟩ : ∃ L, L = (l.take k).map tx := ⟨_, rfl⟩
      rw [← hL] at HTK HLN hown
      clear hL
      have HQ1 := Lib.hid hq1
      have hq2 : m + q ≤ 16384 := by omega
      clear ht tv td tl te hx hxs hC hq sm hpart hme hms
      generalize tx t = y at *
      go_wp2_with fail
      refine HC.out.mono ?_; rintro e w2 ⟨rfl, b2⟩
      have B2 := Lib.hid (below_step hb.out b2)
      have O2 := Lib.hid (ownT_below hown.out b2)
      have HSZ := Lib.hid (Nat.le_trans hb.out.size b2.size)
      clear b2
      unfold rd2
      go_wp2_with (at_builtin; refine wpList_append_own _ rfl _ _ 22 rfl w.heap.size 9 i0 (.string ⟨#[]⟩) 1 16 Tryz.underlying22 HI.out hz0 hz1 hz2 rfl (by decide) _ _ _ rfl (World.ownsRow.alloc O2.out _) ⟨w2.heap.size, 0, none⟩ 1 1 [.string y] rfl rfl ?c1 ?c2 ?c3 ?c4 ?c5 ?_)
      case c1 =>
        intro j u hj
        match j, hj with
        | 0, hj => simp at hj; subst hj; simp [Addr.add]
        | (j + 1), hj => simp at hj
      case c2 => intro u hu; simp at hu; subst hu; rfl
      case c3 => have := HLN.out; unfold maxLen; omega
      case c4 => have := HLN.out; omega
      case c5 => have := HSZ.out; simp; omega
      intro v' w3 hown' hgrow _
      have HO : Hid (OwnT w3 w.heap.size v' ((l.take (k + 1)).map tx)) := Lib.hid (by
        rw [HTK.out]
        have h := hown'
        unfold OwnT
        rw [show txts (L ++ [y]) = txts L ++ [.string y] by simp [txts], List.length_append, List.length_singleton]
        exact h)
      have B3 : Hid (Below w.heap.size w w3) := Lib.hid ((B2.out.alloc (by have := HSZ.out; omega) _).grown hgrow (by have := HSZ.out; simp; omega) (fun j hj => (O2.out.lt _ hj).1))
      clear hown' hgrow
      go_wp2_with fail
      go_roundw
      case rel => exact ⟨k + 1, m + q, by go_num, by go_num, by omega, hq2, HME, HQ1, HO, B3⟩
      case measure => simp [intOf]; omega
    · obtain rfl : k = n := by omega
      have HE : Hid ((l.take k).map tx = l.map tx) := Lib.hid (by rw [List.take_of_length_le (by have := HN.out; omega)])
      obtain ⟨ao, cap, rfl, _⟩ := ownT_row hown.out
      clear hk hkn
      go_wp2_with fail
      go_ret
      exact ⟨_, rfl, by rw [← HE.out]; exact hown.out, hb.out⟩
end Go.Proofs.YtkebfabmcajbmaaGreat.Pl
