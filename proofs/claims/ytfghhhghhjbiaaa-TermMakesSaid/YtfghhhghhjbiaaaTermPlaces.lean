/- What the document's Places, Parts, Size, depth, Depth, In and Has of layer 6 answer: Places and depth call themselves. -/
import Derived.Test.YtfghhhghhjbiaaaTermParts
import Derived.Maps.AppendAt
namespace Go.Proofs.Ytfghhhghhjbiaaa.Pl
open Go.RowKit

theorem placess_append (a b : List Tm) : placess (a ++ b) = placess a ++ placess b := by
  rw [placess_flat, placess_flat, placess_flat, List.flatMap_append]
theorem placess_len {l : List Tm} (h : ∀ t ∈ l, t.places.length ≤ t.enc.length) : (placess l).length ≤ (encs l).length := by
  induction l with
  | nil => simp [placess]
  | cons t l ih =>
    simp only [placess, encs, List.length_append]
    have h1 := h t (List.mem_cons_self ..)
    have h2 := ih (fun u hu => h u (List.mem_cons_of_mem _ hu))
    omega
theorem places_count : ∀ t : Tm, t.good → t.places.length ≤ t.enc.length := by
  refine Tm.ind ?_
  intro h l ih hg
  simp only [Tm.good] at hg
  have h1 := List.length_pos_iff.2 hg.1.pos
  have h2 := placess_len (l := l) (fun t ht => ih t ht (goods_mem hg.2 t ht))
  simp only [Tm.places, Tm.enc, List.length_cons, List.length_append]
  omega
theorem places_pos (t : Tm) : 0 < t.places.length := by obtain ⟨h, l⟩ := t; simp [Tm.places]
theorem placess_take (l : List Tm) (k : Nat) (h : k < l.length) : placess (l.take (k + 1)) = placess (l.take k) ++ l[k].places := by
  rw [List.take_succ_eq_append_getElem h, placess_append]
  simp [placess]
theorem placess_take_len {l : List Tm} (hg : goods l) (k : Nat) : (placess (l.take k)).length ≤ (encs l).length := by
  have h1 := placess_len (l := l.take k) (fun t ht => places_count t (goods_mem hg t (List.mem_of_mem_take ht)))
  have e : encs l = encs (l.take k) ++ encs (l.drop k) := by rw [← encs_append, List.take_append_drop]
  rw [e, List.length_append]
  omega
theorem ownT_one (w : World) (s : ByteArray) : OwnT (w.alloc (.cells #[.string s] 9)) w.heap.size (.slice (some ⟨w.heap.size, 0, none⟩) 1 1) [s] :=
  World.ownsRow_lit w #[.string s] 1 (Nat.le_refl _) (by decide) rfl

set_option maxHeartbeats 4000000 in
set_option maxRecDepth 100000 in
theorem rplaces_any : ∀ T : Tm, T.valid → ∀ (s : ByteArray), bl s = T.enc → ∀ w : World,
    Calls Try.prog 60 #[.string s] w fun e w' => ∃ v, e = .returned v ∧ OwnT w' w.heap.size v (T.places.map tx) ∧ Below w.heap.size w w' := by
  refine Tm.ind ?_
  intro h l ih hv s hs w
  obtain ⟨i0, hi, hz0, hz1, hz2⟩ := info_parts infoStr
  have HI := Lib.hid hi
  have hst : s = tx (.node h l) := bl_inj (by rw [hs]; rfl)
  have hg := hv.1
  simp only [Tm.good] at hg
  have hlen : (encs l).length ≤ 16384 := by
    have := hv.2.2
    rw [Tm.enc_node, List.length_append] at this
    omega
  have HL := Lib.hid (fun k => Nat.le_trans (placess_take_len hg.2 k) hlen)
  have hl32 : l.length ≤ 32 := by
    obtain ⟨c, hkd⟩ := head_kind hg.1
    cases hkd <;> omega
  have HP := Lib.hid (fun V => parts_any h l hv s hs V)
  have IH : Hid (∀ k, (hk : k < l.length) → ∀ V, Calls Try.prog 60 #[.string (tx l[k])] V fun e w' => ∃ v, e = .returned v ∧ OwnT w' V.heap.size v (l[k].places.map tx) ∧ Below V.heap.size V w') := Lib.hid (fun k hk V => ih l[k] (List.getElem_mem hk) (node_valid_parts hv _ (List.getElem_mem hk)) (tx l[k]) rfl V)
  have O0 := Lib.hid (ownT_one w s)
  have B0 := Lib.hid ((Below.refl w.heap.size w).alloc (Nat.le_refl _) (.cells #[.string s] 9))
  have E0 : Hid ([s] = ((Tm.node h l) :: placess (l.take 0)).map tx) := Lib.hid (by rw [hst]; simp [placess])
  have E1 : Hid (((Tm.node h l) :: placess l).map tx = (Tm.node h l).places.map tx) := Lib.hid (by simp only [Tm.places])
  obtain ⟨n, hn⟩ : ∃ n, n = l.length := ⟨_, rfl⟩
  have HN := Lib.hid hn
  rw [← hn] at hl32
  obtain ⟨P, hP⟩ : ∃ P, P = l.map tx := ⟨_, rfl⟩
  have hPl : P.length = n := by rw [hP, List.length_map, hn]
  have HPE : Hid (∀ k, (hk : k < l.length) → P.getD k ByteArray.empty = tx l[k]) := Lib.hid (fun k hk => by rw [hP]; simp [List.getD_eq_getElem?_getD, hk])
  rw [← hP] at HP
  clear ih hv hs hst hg hlen hn hP hi
  obtain ⟨N, hNN⟩ : ∃ N, N = Tm.node h l := ⟨_, rfl⟩
  rw [← hNN] at E0 E1 ⊢
  clear hNN
  go_enter Try.func60, Try.ntmps60
  go_wp2_with fail
  generalize hW : w.alloc (.cells #[.string s] 9) = W0 at *
  refine (HP.out W0).mono ?_; rintro e w1 ⟨v, rfl, ho, b1⟩
  have B1 := Lib.hid (below_step B0.out b1)
  have O1 := Lib.hid (ownT_below O0.out b1)
  have HS1 := Lib.hid (Nat.le_trans B0.out.size b1.size)
  obtain ⟨ao, cap, rfl, hrow, hbase⟩ := ownT_row2 ho
  have R1 := Lib.hid hrow
  have A1 : Hid (ApartV (.slice (some ⟨w.heap.size, 0, none⟩) 1 1) ao) := Lib.hid (fun b off e => by
    have h1 := hbase b off e
    have h2 : w.heap.size < W0.heap.size := by rw [← hW]; simp
    intro h3
    have h4 : w.heap.size = b := Option.some.inj h3
    omega)
  rw [hPl]
  clear b1 ho hrow hW hbase
  go_wp2_with fail
  go_loopw [3, 5] (fun v iv wr => ∃ k : Nat, iv = .int .i64 k ∧ k ≤ n ∧ Hid (OwnT wr w.heap.size v ((N :: placess (l.take k)).map tx)) ∧ Hid (ApartV v ao) ∧ Hid (TxtRow wr ao P) ∧ Hid (Below w.heap.size w wr)) (fun _ iv _ => n - (intOf iv).toNat)
  case atStart => exact ⟨0, rfl, Nat.zero_le _, Lib.hid (by rw [← E0.out]; exact O1.out), A1, R1, B1⟩
  case round =>
    obtain ⟨k, rfl, hkn, hown, hap, hrow, hb⟩ := hrel
    by_cases hk : k < n
    · have hk' : (k : Int) < (n : Int) := by omega
      have hkl : k < l.length := by rw [← HN.out]; exact hk
      rcases hrow.out with e | ⟨b, off, rfl, hlt, hc⟩
      · exfalso; rw [e] at hPl; simp at hPl; omega
      have ck := hc k (by omega)
      rw [HPE.out k hkl] at ck
      have HC := Lib.hid (IH.out k hkl wr)
      obtain ⟨L, hL⟩ : ∃ L, L = (N :: placess (l.take k)).map tx := ⟨_, rfl⟩
      obtain ⟨M, hM⟩ : ∃ M, M = l[k].places.map tx := ⟨_, rfl⟩
      have hLl : L.length ≤ 16385 := by rw [hL, List.length_map, List.length_cons]; have := HL.out k; omega
      have hMl : M.length ≤ 16384 := by
        rw [hM, List.length_map]
        have h1 := HL.out (k + 1)
        rw [placess_take l k hkl, List.length_append] at h1
        omega
      have hM0 : 0 < M.length := by rw [hM, List.length_map]; exact places_pos _
      have HLM : Hid ((N :: placess (l.take (k + 1))).map tx = L ++ M) := Lib.hid (by rw [placess_take l k hkl, hL, hM, ← List.map_append]; rfl)
      rw [← hM] at HC
      rw [← hL] at hown
      generalize tx l[k] = y at *
      clear hL hM hc
      go_wp2_with fail
      refine HC.out.mono ?_; rintro e w2 ⟨v2, rfl, ho2, b2⟩
      have B2 := Lib.hid (below_step hb.out b2)
      have O2 := Lib.hid (ownT_below hown.out b2)
      have R2 := Lib.hid (hrow.out.below b2)
      have HSZ := Lib.hid (Nat.le_trans hb.out.size b2.size)
      have HWR := Lib.hid b2.size
      obtain ⟨g, cap2, rfl, hgw⟩ : ∃ g cap2, v2 = .slice (some ⟨g, 0, none⟩) M.length cap2 ∧ wr.heap.size ≤ g := by
        rcases ho2.2 with ⟨_, h0⟩ | ⟨g, cap2, cur, hv2, hbg, _⟩
        · omega
        · exact ⟨g, cap2, hv2, hbg⟩
      have HO2 : Hid (w2.ownsRow wr.heap.size 9 1 (.slice (some ⟨g, 0, none⟩) M.length cap2) M.length (txts M)) := Lib.hid ho2
      clear b2 ho2 hgw
      go_wp2_with (at_builtin; refine wpList_append_own_at _ rfl _ _ 27 rfl w.heap.size 9 i0 (.string ⟨#[]⟩) 1 16 Try.underlying27 HI.out hz0 hz1 hz2 rfl (by decide) _ _ _ rfl O2.out ⟨g, 0, none⟩ M.length cap2 (txts M) rfl (by rw [txts_length, Nat.mul_one]) ?c1 ?c2 ?c3 ?c4 ?c5 ?_)
      case c1 => exact fun j u hu => HO2.out.cells rfl j u hu
      case c2 =>
        intro u hu
        unfold txts at hu
        obtain ⟨x, _, rfl⟩ := List.mem_map.1 hu
        rfl
      case c3 => unfold maxLen; omega
      case c4 => omega
      case c5 => have := HSZ.out; omega
      intro v' w3 hown' hgrow _ hloc
      have HO : Hid (OwnT w3 w.heap.size v' ((N :: placess (l.take (k + 1))).map tx)) := Lib.hid (by
        rw [HLM.out]
        have h := hown'
        unfold OwnT
        rw [show txts (L ++ M) = txts L ++ txts M by simp [txts], List.length_append]
        exact h)
      have B3 : Hid (Below w.heap.size w w3) := Lib.hid (B2.out.grown hgrow HSZ.out (fun j hj => (O2.out.lt _ hj).1))
      have R3 := Lib.hid (R2.out.grown hgrow hap.out)
      have A3 : Hid (ApartV v' (some ⟨b, off, none⟩)) := Lib.hid (fun b' off' e h3 => by
        cases e
        rcases hloc with h4 | h4
        · exact hap.out b off rfl (by rw [← h4]; exact h3)
        · rw [h4] at h3
          have := Option.some.inj h3
          have := HWR.out
          omega)
      clear hown' hgrow hloc
      go_wp2_with fail
      go_roundw
      case rel => exact ⟨k + 1, by go_num, by omega, HO, A3, R3, B3⟩
      case measure => simp [intOf]; omega
    · obtain rfl : k = n := by omega
      have HE : Hid ((N :: placess (l.take k)).map tx = N.places.map tx) := Lib.hid (by rw [List.take_of_length_le (by have := HN.out; omega)]; exact E1.out)
      obtain ⟨ao2, cap2, rfl, _⟩ := ownT_row hown.out
      clear hk hkn
      go_wp2_with fail
      go_ret
      exact ⟨_, rfl, by rw [← HE.out]; exact hown.out, hb.out⟩
end Go.Proofs.Ytfghhhghhjbiaaa.Pl
