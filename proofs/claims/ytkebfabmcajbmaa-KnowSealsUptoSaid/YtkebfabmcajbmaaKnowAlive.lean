/- The chapter's example holds: alive of layer 10 answers true. -/
import Derived.Test.YtkebfabmcajbmaaKnowOwn10
import Derived.Test.YtkebfabmcajbmaaTermGives
import Derived.Test.YtkebfabmcajbmaaTermJoin
namespace Go.Proofs.Ytkebfabmcajbmaa.Pl
open Go.RowKit

theorem data_head10 {t : List UInt8} (h : t.length ≤ 1024) : HeadOK (100 :: txt t) 0 := by
  intro rest
  rw [List.cons_append, headP, if_pos rfl, rdt_txt (by rw [two64]; omega) rest 1024 (by omega)]
  simp [Nat.add_comm]
theorem atom_head10 {t : List UInt8} (h : t.length ≤ 32) (hn : nameOK t = true) : HeadOK (97 :: txt t) 0 := by
  intro rest
  rw [List.cons_append, headP, if_neg (by decide), if_pos rfl, rdt_txt (by rw [two64]; omega) rest 32 (by omega), if_neg (by simp [hn])]
  simp [Nat.add_comm]
theorem row_head10 {v : Nat} (h : v ≤ 32) : HeadOK (114 :: enc v) v := by
  intro rest
  rw [List.cons_append, headP, if_neg (by decide), if_neg (by decide), if_pos rfl, rdn_enc (by rw [two64]; omega) rest, if_neg (by simp only; omega)]
  simp [Nat.add_comm]
theorem seal_head10 : HeadOK [115] 3 := fun _ => rfl
abbrev kA : Tm := .node (97 :: txt [97]) []
abbrev kK : Tm := .node (97 :: txt [107]) []
abbrev kD : Tm := .node (100 :: txt [49]) []
abbrev kS : Tm := sealT kK kD kA
abbrev kR : Tm := .node (114 :: enc 2) [kK, kD]
theorem kA_enc : kA.enc = [97, 1, 97] := by decide
theorem kK_enc : kK.enc = [97, 1, 107] := by decide
theorem kD_enc : kD.enc = [100, 1, 49] := by decide
theorem kS_enc : kS.enc = [115, 97, 1, 107, 100, 1, 49, 97, 1, 97] := by decide
theorem kR_enc : kR.enc = [114, 2, 97, 1, 107, 100, 1, 49] := by decide
theorem kA_valid : kA.valid := ⟨by simp only [Tm.good]; exact ⟨atom_head10 (by decide) (by decide), trivial⟩, by decide, by decide⟩
theorem kK_valid : kK.valid := ⟨by simp only [Tm.good]; exact ⟨atom_head10 (by decide) (by decide), trivial⟩, by decide, by decide⟩
theorem kS_valid : kS.valid := by
  refine ⟨?_, by decide, by decide⟩
  simp only [Tm.good]
  exact ⟨seal_head10, ⟨atom_head10 (by decide) (by decide), trivial⟩, ⟨data_head10 (by decide), trivial⟩, ⟨atom_head10 (by decide) (by decide), trivial⟩, trivial⟩
theorem kR_valid : kR.valid := by
  refine ⟨?_, by decide, by decide⟩
  simp only [Tm.good]
  exact ⟨row_head10 (by decide), ⟨atom_head10 (by decide) (by decide), trivial⟩, ⟨data_head10 (by decide), trivial⟩, trivial⟩
theorem kS_made : madeP [115] [[97, 1, 107], [100, 1, 49], [97, 1, 97]] = ([115, 97, 1, 107, 100, 1, 49, 97, 1, 97], 0) := by
  have h := made_again kS_valid
  rw [kS_enc] at h
  rw [← h]
  decide
theorem kR_made : rowP [[97, 1, 107], [100, 1, 49]] = ([114, 2, 97, 1, 107, 100, 1, 49], 0) := by
  have h := made_again kR_valid
  rw [kR_enc] at h
  rw [← h]
  decide
theorem k_seal {k n x : Tm} (h : sealT k n x ∈ [kA, kK, kS]) : k = kK ∧ n = kD ∧ x = kA := by
  simp only [List.mem_cons, List.not_mem_nil, or_false] at h
  rcases h with h | h | h
  · injection h with h _
    cases h
  · injection h with h _
    cases h
  · injection h with _ h
    injection h with h1 h
    injection h with h2 h
    injection h with h3 _
    exact ⟨h1, h2, h3⟩
theorem kA_take : takeT kA = [kA] := take_self (by decide) (by decide)
theorem kK_take : takeT kK = [kK] := take_self (by decide) (by decide)
theorem kS_take : takeT kS = [kS] := take_self (by decide) (by decide)
theorem kD_take : takeT kD = [] := by rw [takeT, if_pos (by decide)]
theorem kR_take : takeT kR = [kK] := by
  rw [takeT, if_neg (by decide), if_pos (by decide), takeTs, takeTs, takeTs, kK_take, kD_take]
  rfl
/-- Behind the seal alone. -/
theorem known_one : IsK [kS.enc] [kS.enc] := by
  refine ⟨by simp, fun s => ⟨fun h => ?_, fun h => ?_⟩⟩
  · rw [List.mem_singleton.1 h]
    exact ⟨kS, cl_take ⟨kS_valid, by simp⟩ kS (by rw [kS_take]; simp), rfl⟩
  · obtain ⟨y, hy, rfl⟩ := h
    have : y = kS := hy (fun y => y = kS) (fun k n x e => by
      obtain ⟨rfl, rfl, rfl⟩ := k_seal (by rw [e]; simp)
      refine ⟨fun y hy => (by rw [kD_take] at hy; cases hy), fun hc => ?_⟩
      rw [can] at hc
      rcases hc with hc | hc | ⟨hc, _⟩
      · cases hc
      · injection hc with hc _
        cases hc
      · exact absurd rfl hc) (fun t ht z hz => by
      have e := List.mem_singleton.1 ht.2
      obtain rfl := enc_tm_inj ht.1.1 kS_valid.1 e
      rw [kS_take] at hz
      exact List.mem_singleton.1 hz)
    rw [this]
    simp
/-- Behind the row, too. -/
theorem known_two : IsK [kR.enc, kS.enc] [kA.enc, kK.enc, kS.enc] := by
  have hS : Cl (SH [kR.enc, kS.enc]) kS := cl_take ⟨kS_valid, by simp⟩ kS (by rw [kS_take]; simp)
  have hK : Cl (SH [kR.enc, kS.enc]) kK := cl_take (t := kR) ⟨kR_valid, by simp⟩ kK (by rw [kR_take]; simp)
  have hA : Cl (SH [kR.enc, kS.enc]) kA := (cl_sat _ kK kD kA hS).2 (by rw [can]; exact .inr (.inl hK)) kA (by rw [kA_take]; simp)
  refine ⟨by decide, fun s => ⟨fun h => ?_, fun h => ?_⟩⟩
  · simp only [List.mem_cons, List.not_mem_nil, or_false] at h
    rcases h with rfl | rfl | rfl
    · exact ⟨kA, hA, rfl⟩
    · exact ⟨kK, hK, rfl⟩
    · exact ⟨kS, hS, rfl⟩
  · obtain ⟨y, hy, rfl⟩ := h
    have : y ∈ [kA, kK, kS] := hy (fun y => y ∈ [kA, kK, kS]) (fun k n x e => by
      obtain ⟨rfl, rfl, rfl⟩ := k_seal e
      exact ⟨fun y hy => (by rw [kD_take] at hy; cases hy), fun _ y hy => by rw [kA_take] at hy; rw [List.mem_singleton.1 hy]; simp⟩) (fun t ht z hz => by
      have e := ht.2
      simp only [List.mem_cons, List.not_mem_nil, or_false] at e
      rcases e with e | e
      · obtain rfl := enc_tm_inj ht.1.1 kR_valid.1 e
        rw [kR_take] at hz
        rw [List.mem_singleton.1 hz]; simp
      · obtain rfl := enc_tm_inj ht.1.1 kS_valid.1 e
        rw [kS_take] at hz
        rw [List.mem_singleton.1 hz]; simp)
    simp only [List.mem_cons, List.not_mem_nil, or_false] at this ⊢
    rcases this with rfl | rfl | rfl
    · exact .inl rfl
    · exact .inr (.inl rfl)
    · exact .inr (.inr rfl)
theorem al_S : learnE [] kS.enc = 0 ∧ learnH [] kS.enc = [kS.enc] := by
  have h : learnE [] kS.enc = 0 := learn_ok (check_enc kS_valid) (by have := cnt_eq known_one; simp at this; omega)
  exact ⟨h, by unfold learnH; rw [h]; rfl⟩
theorem al_R : learnE [kS.enc] kR.enc = 0 ∧ learnH [kS.enc] kR.enc = [kR.enc, kS.enc] := by
  have h : learnE [kS.enc] kR.enc = 0 := learn_ok (check_enc kR_valid) (by have := cnt_eq known_two; simp at this; omega)
  exact ⟨h, by unfold learnH; rw [h]; rfl⟩
theorem al_can1 : canPB [kS.enc] kA.enc = false := by
  refine canPB_no fun h => ?_
  have h2 := (isK_can known_one kA).2 ((can_cl kA_valid).1 h)
  rw [can] at h2
  rcases h2 with h2 | h2 | ⟨h2, _⟩
  · cases h2
  · exact absurd h2.2 (by decide)
  · exact absurd rfl h2
theorem al_can2 : canPB [kR.enc, kS.enc] kA.enc = true := canPB_iff.2 ((can_cl kA_valid).2 ((isK_can known_two kA).1 (by rw [can]; exact .inr (.inl ⟨kA_valid, by simp⟩))))
theorem al_list1 {L : List ByteArray} (h : SortK [kS.enc] (L.map bl)) : L = [⟨#[115, 97, 1, 107, 100, 1, 49, 97, 1, 97]⟩] := by
  have e := sortK_uniq h (M := [kS.enc]) ⟨by simp [Sorted], known_one.2⟩
  rw [kS_enc] at e
  exact (List.map_inj_right (fun _ _ e => bl_inj e)).1 (e.trans rfl)
theorem al_list2 {L : List ByteArray} (h : SortK [kR.enc, kS.enc] (L.map bl)) : L = [⟨#[97, 1, 97]⟩, ⟨#[97, 1, 107]⟩, ⟨#[115, 97, 1, 107, 100, 1, 49, 97, 1, 97]⟩] := by
  have e := sortK_uniq h (M := [kA.enc, kK.enc, kS.enc]) ⟨by unfold Sorted; decide, known_two.2⟩
  rw [kS_enc, kA_enc, kK_enc] at e
  exact (List.map_inj_right (fun _ _ e => bl_inj e)).1 (e.trans rfl)
theorem al_none (H : List (List UInt8)) : learnE H [] = 2 ∧ learnH H [] = H := by
  have h : learnE H [] = 2 := by unfold learnE; rw [if_pos (by decide)]
  exact ⟨h, by unfold learnH; rw [h]; rfl⟩
set_option maxRecDepth 100000 in
theorem atom10_any (s : ByteArray) (hs : s.size ≤ 281474976710656) (w : World) :
    Calls Try.prog 19 #[.string s] w fun e w' => e = .returned (.string ⟨(atomP (bl s)).1.toArray⟩) ∧ Below w.heap.size w w' := by
  have HA := Lib.hid (atom6_any s hs w)
  obtain ⟨z, n, hz⟩ : ∃ z n, atomP (bl s) = (z, n) := ⟨_, _, rfl⟩
  rw [hz] at HA ⊢
  unfold st2 at HA
  clear hz hs
  go_enter Try.func19, Try.ntmps19
  go_wp2_with fail
  refine HA.out.mono ?_; rintro e w1 ⟨rfl, b1⟩
  have B1 := Lib.hid b1
  clear b1
  go_wp2_with fail
  go_ret
  exact ⟨rfl, B1.out⟩

set_option maxHeartbeats 4000000 in
set_option maxRecDepth 100000 in
theorem alive10_any (w : World) (hM : MX w) : Calls Try.prog 6 #[] w fun e w' => e = .returned (.bool true) ∧ Below w.heap.size w w' := by
  have HM := Lib.hid hM
  clear hM
  have HK := Lib.hid (fun V => atom10_any ⟨#[107]⟩ (by decide) V)
  rw [show (⟨(atomP (bl ⟨#[107]⟩)).1.toArray⟩ : ByteArray) = ⟨#[97, 1, 107]⟩ from rfl] at HK
  have HA := Lib.hid (fun V => atom10_any ⟨#[97]⟩ (by decide) V)
  rw [show (⟨(atomP (bl ⟨#[97]⟩)).1.toArray⟩ : ByteArray) = ⟨#[97, 1, 97]⟩ from rfl] at HA
  have HD := Lib.hid (fun V => data6_any ⟨#[49]⟩ (by decide) V)
  rw [show st2 (dataP (bl ⟨#[49]⟩)) = .tuple #[.string ⟨#[100, 1, 49]⟩, .int .i64 0] by rfl] at HD
  have HS := Lib.hid (fun V => seal6_any ⟨#[97, 1, 107]⟩ ⟨#[100, 1, 49]⟩ ⟨#[97, 1, 97]⟩ (by decide) (by decide) (by decide) V)
  rw [show st2 (madeP [115] [bl ⟨#[97, 1, 107]⟩, bl ⟨#[100, 1, 49]⟩, bl ⟨#[97, 1, 97]⟩]) = .tuple #[.string ⟨#[115, 97, 1, 107, 100, 1, 49, 97, 1, 97]⟩, .int .i64 0] by
    rw [show [bl ⟨#[97, 1, 107]⟩, bl ⟨#[100, 1, 49]⟩, bl ⟨#[97, 1, 97]⟩] = [[97, 1, 107], [100, 1, 49], [97, 1, 97]] from rfl, kS_made]; rfl] at HS
  have HR : Hid (∀ V ao, TxtRow V ao [⟨#[97, 1, 107]⟩, ⟨#[100, 1, 49]⟩] → Calls Try.prog 15 #[.slice ao 2 2] V fun e w' => e = .returned (.tuple #[.string ⟨#[114, 2, 97, 1, 107, 100, 1, 49]⟩, .int .i64 0]) ∧ Below V.heap.size V w') := Lib.hid (fun V ao hr => by
    have h := row6_any [⟨#[97, 1, 107]⟩, ⟨#[100, 1, 49]⟩] ao 2 (by decide) (by decide) (by intro x hx; simp only [List.mem_cons, List.not_mem_nil, or_false] at hx; rcases hx with rfl | rfl <;> decide) V hr
    rw [show ([⟨#[97, 1, 107]⟩, ⟨#[100, 1, 49]⟩] : List ByteArray).map bl = [[97, 1, 107], [100, 1, 49]] from rfl, kR_made] at h
    exact h)
  have L1 : Hid (∀ V F p, KnowAt V F p [] → MX V → Calls Try.prog 11 #[.pointer (some ⟨p, 0, none⟩), .string ⟨#[115, 97, 1, 107, 100, 1, 49, 97, 1, 97]⟩] V fun e w' => e = .returned (.int .i64 0) ∧ (∃ F' : Nat → Prop, KnowAt w' F' p [kS.enc] ∧ ∀ b, F' b → F b ∨ V.heap.size ≤ b) ∧ Turn F V w') := Lib.hid (fun V F p h hM => by
    have h := know_learn F p [] ⟨#[115, 97, 1, 107, 100, 1, 49, 97, 1, 97]⟩ (by decide) V h hM
    rw [show bl ⟨#[115, 97, 1, 107, 100, 1, 49, 97, 1, 97]⟩ = kS.enc from kS_enc.symm, al_S.1, al_S.2] at h
    exact h)
  have L2 : Hid (∀ V F p, KnowAt V F p [kS.enc] → MX V → Calls Try.prog 11 #[.pointer (some ⟨p, 0, none⟩), .string ⟨#[114, 2, 97, 1, 107, 100, 1, 49]⟩] V fun e w' => e = .returned (.int .i64 0) ∧ (∃ F' : Nat → Prop, KnowAt w' F' p [kR.enc, kS.enc] ∧ ∀ b, F' b → F b ∨ V.heap.size ≤ b) ∧ Turn F V w') := Lib.hid (fun V F p h hM => by
    have h := know_learn F p [kS.enc] ⟨#[114, 2, 97, 1, 107, 100, 1, 49]⟩ (by decide) V h hM
    rw [show bl ⟨#[114, 2, 97, 1, 107, 100, 1, 49]⟩ = kR.enc from kR_enc.symm, al_R.1, al_R.2] at h
    exact h)
  have L3 : Hid (∀ V F p, KnowAt V F p [kR.enc, kS.enc] → MX V → Calls Try.prog 11 #[.pointer (some ⟨p, 0, none⟩), .string ⟨#[]⟩] V fun e w' => e = .returned (.int .i64 2) ∧ (∃ F' : Nat → Prop, KnowAt w' F' p [kR.enc, kS.enc] ∧ ∀ b, F' b → F b ∨ V.heap.size ≤ b) ∧ Turn F V w') := Lib.hid (fun V F p h hM => by
    have h := know_learn F p [kR.enc, kS.enc] ⟨#[]⟩ (by decide) V h hM
    rw [show bl ⟨#[]⟩ = [] from rfl, (al_none _).1, (al_none _).2] at h
    exact h)
  have C1 : Hid (∀ V F p, KnowAt V F p [kS.enc] → Calls Try.prog 10 #[.pointer (some ⟨p, 0, none⟩), .string ⟨#[97, 1, 97]⟩] V fun e w' => e = .returned (.bool false) ∧ Below V.heap.size V w') := Lib.hid (fun V F p h => by
    have h := know_can F p [kS.enc] ⟨#[97, 1, 97]⟩ (by decide) V h
    rw [show bl ⟨#[97, 1, 97]⟩ = kA.enc from kA_enc.symm, al_can1] at h
    exact h)
  have C2 : Hid (∀ V F p, KnowAt V F p [kR.enc, kS.enc] → Calls Try.prog 10 #[.pointer (some ⟨p, 0, none⟩), .string ⟨#[97, 1, 97]⟩] V fun e w' => e = .returned (.bool true) ∧ Below V.heap.size V w') := Lib.hid (fun V F p h => by
    have h := know_can F p [kR.enc, kS.enc] ⟨#[97, 1, 97]⟩ (by decide) V h
    rw [show bl ⟨#[97, 1, 97]⟩ = kA.enc from kA_enc.symm, al_can2] at h
    exact h)
  have I1 : Hid (∀ V F p, KnowAt V F p [kS.enc] → Calls Try.prog 9 #[.pointer (some ⟨p, 0, none⟩)] V fun e w' => (∃ ao cap, e = .returned (.slice ao 1 cap) ∧ TxtRow w' ao [⟨#[115, 97, 1, 107, 100, 1, 49, 97, 1, 97]⟩]) ∧ Below V.heap.size V w') := Lib.hid (fun V F p h => (know_list F p [kS.enc] V h).mono fun e w' ⟨⟨v, L, he, ho, hs⟩, hb⟩ => by
    obtain rfl := al_list1 hs
    obtain ⟨ao, cap, rfl, hr⟩ := ownT_row ho
    exact ⟨⟨ao, cap, he, hr⟩, hb⟩)
  have I2 : Hid (∀ V F p, KnowAt V F p [kR.enc, kS.enc] → Calls Try.prog 9 #[.pointer (some ⟨p, 0, none⟩)] V fun e w' => (∃ ao cap, e = .returned (.slice ao 3 cap) ∧ TxtRow w' ao [⟨#[97, 1, 97]⟩, ⟨#[97, 1, 107]⟩, ⟨#[115, 97, 1, 107, 100, 1, 49, 97, 1, 97]⟩]) ∧ Below V.heap.size V w') := Lib.hid (fun V F p h => (know_list F p [kR.enc, kS.enc] V h).mono fun e w' ⟨⟨v, L, he, ho, hs⟩, hb⟩ => by
    obtain rfl := al_list2 hs
    obtain ⟨ao, cap, rfl, hr⟩ := ownT_row ho
    exact ⟨⟨ao, cap, he, hr⟩, hb⟩)
  have S1 : Hid (∀ V ao bo ca cb, TxtRow V ao [⟨#[115, 97, 1, 107, 100, 1, 49, 97, 1, 97]⟩] → TxtRow V bo [⟨#[115, 97, 1, 107, 100, 1, 49, 97, 1, 97]⟩] → Calls Try.prog 8 #[.slice ao 1 ca, .slice bo 1 cb] V fun e w' => e = .returned (.bool true) ∧ Below V.heap.size V w') := Lib.hid (fun V ao bo ca cb h1 h2 => rsame_any [⟨#[115, 97, 1, 107, 100, 1, 49, 97, 1, 97]⟩] [⟨#[115, 97, 1, 107, 100, 1, 49, 97, 1, 97]⟩] ao bo ca cb (by decide) (by decide) V h1 h2 true (by simp))
  have S2 : Hid (∀ V ao bo ca cb, TxtRow V ao [⟨#[97, 1, 97]⟩, ⟨#[97, 1, 107]⟩, ⟨#[115, 97, 1, 107, 100, 1, 49, 97, 1, 97]⟩] → TxtRow V bo [⟨#[97, 1, 97]⟩, ⟨#[97, 1, 107]⟩, ⟨#[115, 97, 1, 107, 100, 1, 49, 97, 1, 97]⟩] → Calls Try.prog 8 #[.slice ao 3 ca, .slice bo 3 cb] V fun e w' => e = .returned (.bool true) ∧ Below V.heap.size V w') := Lib.hid (fun V ao bo ca cb h1 h2 => rsame_any [⟨#[97, 1, 97]⟩, ⟨#[97, 1, 107]⟩, ⟨#[115, 97, 1, 107, 100, 1, 49, 97, 1, 97]⟩] [⟨#[97, 1, 97]⟩, ⟨#[97, 1, 107]⟩, ⟨#[115, 97, 1, 107, 100, 1, 49, 97, 1, 97]⟩] ao bo ca cb (by decide) (by decide) V h1 h2 true (by simp))
  have N3 : Hid (∀ V F p, KnowAt V F p [kR.enc, kS.enc] → Calls Try.prog 20 #[.pointer (some ⟨p, 0, none⟩)] V fun e w' => e = .returned (.int .i64 3) ∧ Below V.heap.size V w') := Lib.hid (fun V F p h => by
    have h := know_len F p [kR.enc, kS.enc] V h
    rw [← cnt_eq known_two] at h
    exact h)
  go_enter Try.func6, Try.ntmps6
  go_wp2_with fail
  refine (know_new _).mono ?_; rintro e w1 ⟨⟨p, F, rfl, k0, f0⟩, b1⟩
  have B1 := Lib.hid b1
  have K1 := Lib.hid k0
  have F1 := Lib.hid f0
  clear b1 k0 f0
  go_wp2_with fail
  refine (HD.out _).mono ?_; rintro e w2 ⟨rfl, b2⟩
  have B2 := Lib.hid (below_step B1.out b2)
  have K2 := Lib.hid (K1.out.kept b2.size (fun b hb _ => b2.block b hb))
  clear b2
  go_wp2_with fail
  refine (HK.out _).mono ?_; rintro e w3 ⟨rfl, b3⟩
  have B3 := Lib.hid (below_step B2.out b3)
  have K3 := Lib.hid (K2.out.kept b3.size (fun b hb _ => b3.block b hb))
  clear b3
  go_wp2_with fail
  refine (HA.out _).mono ?_; rintro e w4 ⟨rfl, b4⟩
  have B4 := Lib.hid (below_step B3.out b4)
  have K4 := Lib.hid (K3.out.kept b4.size (fun b hb _ => b4.block b hb))
  clear b4
  go_wp2_with fail
  refine (HS.out _).mono ?_; rintro e w5 ⟨rfl, b5⟩
  have B5 := Lib.hid (below_step B4.out b5)
  have K5 := Lib.hid (K4.out.kept b5.size (fun b hb _ => b5.block b hb))
  clear b5
  go_wp2_with fail
  refine (L1.out _ _ _ K5.out (HM.out.step B5.out)).mono ?_; rintro e w6 ⟨rfl, ⟨F6', k6, g6⟩, t6⟩
  have B6 := Lib.hid (B5.out.trans (turn_to t6 F1.out B5.out.size))
  have K6 := Lib.hid k6
  have F6 : Hid (∀ b, F6' b → w.heap.size ≤ b) := Lib.hid (fun b hb => (g6 b hb).elim (F1.out b) (fun e => Nat.le_trans B5.out.size e))
  clear k6 g6 t6
  go_wp2_with fail
  refine (HA.out _).mono ?_; rintro e w7 ⟨rfl, b7⟩
  have B7 := Lib.hid (below_step B6.out b7)
  have K7 := Lib.hid (K6.out.kept b7.size (fun b hb _ => b7.block b hb))
  clear b7
  go_wp2_with fail
  refine (C1.out _ _ _ K7.out).mono ?_; rintro e w8 ⟨rfl, b8⟩
  have B8 := Lib.hid (below_step B7.out b8)
  have K8 := Lib.hid (K7.out.kept b8.size (fun b hb _ => b8.block b hb))
  clear b8
  go_wp2_with fail
  refine (I1.out _ _ _ K8.out).mono ?_; rintro e w9 ⟨⟨ao9, cap9, rfl, r9⟩, b9⟩
  have B9 := Lib.hid (below_step B8.out b9)
  have K9 := Lib.hid (K8.out.kept b9.size (fun b hb _ => b9.block b hb))
  have R9 := Lib.hid r9
  clear b9 r9
  obtain ⟨w10, hw10⟩ : ∃ V, V = w9.alloc (.cells #[.string ⟨#[115, 97, 1, 107, 100, 1, 49, 97, 1, 97]⟩] 9) := ⟨_, rfl⟩
  have b10 : Below w9.heap.size w9 w10 := by rw [hw10]; exact (Below.refl _ _).alloc (Nat.le_refl _) _
  have r10 : TxtRow w10 (some ⟨w9.heap.size, 0, none⟩) [⟨#[115, 97, 1, 107, 100, 1, 49, 97, 1, 97]⟩] := by rw [hw10]; exact row1 w9 ⟨#[115, 97, 1, 107, 100, 1, 49, 97, 1, 97]⟩
  have B10 := Lib.hid (below_step B9.out b10)
  have K10 := Lib.hid (K9.out.kept b10.size (fun b hb _ => b10.block b hb))
  have R10 := Lib.hid r10
  have Q10 := Lib.hid (R9.out.below b10)
  clear b10 r10
  go_wp2_with fail
  rw [← hw10]
  clear hw10
  refine (S1.out _ _ _ _ _ Q10.out R10.out).mono ?_; rintro e w11 ⟨rfl, b11⟩
  have B11 := Lib.hid (below_step B10.out b11)
  have K11 := Lib.hid (K10.out.kept b11.size (fun b hb _ => b11.block b hb))
  clear b11
  go_wp2_with fail
  refine (HK.out _).mono ?_; rintro e w12 ⟨rfl, b12⟩
  have B12 := Lib.hid (below_step B11.out b12)
  have K12 := Lib.hid (K11.out.kept b12.size (fun b hb _ => b12.block b hb))
  clear b12
  obtain ⟨w13, hw13⟩ : ∃ V, V = w12.alloc (.cells #[.string ⟨#[97, 1, 107]⟩, .string ⟨#[100, 1, 49]⟩] 9) := ⟨_, rfl⟩
  have b13 : Below w12.heap.size w12 w13 := by rw [hw13]; exact (Below.refl _ _).alloc (Nat.le_refl _) _
  have r13 : TxtRow w13 (some ⟨w12.heap.size, 0, none⟩) [⟨#[97, 1, 107]⟩, ⟨#[100, 1, 49]⟩] := by rw [hw13]; exact row2 w12 ⟨#[97, 1, 107]⟩ ⟨#[100, 1, 49]⟩
  have B13 := Lib.hid (below_step B12.out b13)
  have K13 := Lib.hid (K12.out.kept b13.size (fun b hb _ => b13.block b hb))
  have R13 := Lib.hid r13
  clear b13 r13
  go_wp2_with fail
  rw [← hw13]
  clear hw13
  refine (HR.out _ _ R13.out).mono ?_; rintro e w14 ⟨rfl, b14⟩
  have B14 := Lib.hid (below_step B13.out b14)
  have K14 := Lib.hid (K13.out.kept b14.size (fun b hb _ => b14.block b hb))
  clear b14
  go_wp2_with fail
  refine (L2.out _ _ _ K14.out (HM.out.step B14.out)).mono ?_; rintro e w15 ⟨rfl, ⟨F15', k15, g15⟩, t15⟩
  have B15 := Lib.hid (B14.out.trans (turn_to t15 F6.out B14.out.size))
  have K15 := Lib.hid k15
  have F15 : Hid (∀ b, F15' b → w.heap.size ≤ b) := Lib.hid (fun b hb => (g15 b hb).elim (F6.out b) (fun e => Nat.le_trans B14.out.size e))
  clear k15 g15 t15
  go_wp2_with fail
  refine (HA.out _).mono ?_; rintro e w16 ⟨rfl, b16⟩
  have B16 := Lib.hid (below_step B15.out b16)
  have K16 := Lib.hid (K15.out.kept b16.size (fun b hb _ => b16.block b hb))
  clear b16
  go_wp2_with fail
  refine (C2.out _ _ _ K16.out).mono ?_; rintro e w17 ⟨rfl, b17⟩
  have B17 := Lib.hid (below_step B16.out b17)
  have K17 := Lib.hid (K16.out.kept b17.size (fun b hb _ => b17.block b hb))
  clear b17
  go_wp2_with fail
  refine (I2.out _ _ _ K17.out).mono ?_; rintro e w18 ⟨⟨ao18, cap18, rfl, r18⟩, b18⟩
  have B18 := Lib.hid (below_step B17.out b18)
  have K18 := Lib.hid (K17.out.kept b18.size (fun b hb _ => b18.block b hb))
  have R18 := Lib.hid r18
  clear b18 r18
  go_wp2_with fail
  refine (HA.out _).mono ?_; rintro e w19 ⟨rfl, b19⟩
  have B19 := Lib.hid (below_step B18.out b19)
  have K19 := Lib.hid (K18.out.kept b19.size (fun b hb _ => b19.block b hb))
  have R19 := Lib.hid (R18.out.below b19)
  clear b19
  go_wp2_with fail
  refine (HK.out _).mono ?_; rintro e w20 ⟨rfl, b20⟩
  have B20 := Lib.hid (below_step B19.out b20)
  have K20 := Lib.hid (K19.out.kept b20.size (fun b hb _ => b20.block b hb))
  have R20 := Lib.hid (R19.out.below b20)
  clear b20
  obtain ⟨w21, hw21⟩ : ∃ V, V = w20.alloc (.cells #[.string ⟨#[97, 1, 97]⟩, .string ⟨#[97, 1, 107]⟩, .string ⟨#[115, 97, 1, 107, 100, 1, 49, 97, 1, 97]⟩] 9) := ⟨_, rfl⟩
  have b21 : Below w20.heap.size w20 w21 := by rw [hw21]; exact (Below.refl _ _).alloc (Nat.le_refl _) _
  have r21 : TxtRow w21 (some ⟨w20.heap.size, 0, none⟩) [⟨#[97, 1, 97]⟩, ⟨#[97, 1, 107]⟩, ⟨#[115, 97, 1, 107, 100, 1, 49, 97, 1, 97]⟩] := by rw [hw21]; exact row3 w20 ⟨#[97, 1, 97]⟩ ⟨#[97, 1, 107]⟩ ⟨#[115, 97, 1, 107, 100, 1, 49, 97, 1, 97]⟩
  have B21 := Lib.hid (below_step B20.out b21)
  have K21 := Lib.hid (K20.out.kept b21.size (fun b hb _ => b21.block b hb))
  have R21 := Lib.hid r21
  have Q21 := Lib.hid (R20.out.below b21)
  clear b21 r21
  go_wp2_with fail
  rw [← hw21]
  clear hw21
  refine (S2.out _ _ _ _ _ Q21.out R21.out).mono ?_; rintro e w22 ⟨rfl, b22⟩
  have B22 := Lib.hid (below_step B21.out b22)
  have K22 := Lib.hid (K21.out.kept b22.size (fun b hb _ => b22.block b hb))
  clear b22
  go_wp2_with fail
  refine (L3.out _ _ _ K22.out (HM.out.step B22.out)).mono ?_; rintro e w23 ⟨rfl, ⟨F23', k23, g23⟩, t23⟩
  have B23 := Lib.hid (B22.out.trans (turn_to t23 F15.out B22.out.size))
  have K23 := Lib.hid k23
  have F23 : Hid (∀ b, F23' b → w.heap.size ≤ b) := Lib.hid (fun b hb => (g23 b hb).elim (F15.out b) (fun e => Nat.le_trans B22.out.size e))
  clear k23 g23 t23
  go_wp2_with fail
  refine (N3.out _ _ _ K23.out).mono ?_; rintro e w24 ⟨rfl, b24⟩
  have B24 := Lib.hid (below_step B23.out b24)
  have K24 := Lib.hid (K23.out.kept b24.size (fun b hb _ => b24.block b hb))
  clear b24
  go_wp2_with fail
  go_ret
  exact ⟨rfl, B24.out⟩
end Go.Proofs.Ytkebfabmcajbmaa.Pl
