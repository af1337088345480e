/- The statement KnowOrder, walked. Leans on the program's own contracts of know. -/
import Derived.Test.YtkebfabmcajbmaaKnowTwo
import Derived.Test.YtkebfabmcajbmaaKnowSeen
import Derived.Test.YtkebfabmcajbmaaKnowCut
import Derived.Test.YtkebfabmcajbmaaKnowAlive
namespace Go.Proofs.Ytkebfabmcajbmaa.Pl
open Go.RowKit

theorem kept10 {S : World} {w : World} (h : Below S.heap.size S w) {w' : World} (k : Below w.heap.size w w') : Below S.heap.size S w' := below_step h k
set_option maxHeartbeats 4000000 in
set_option maxRecDepth 100000 in
theorem knoworder_any (l more : List ByteArray) (ao mo : Option Addr) (cap mcap tn : Nat) (t : ByteArray) (htn : tn < 256) (w : World) (hrow : TxtRow w ao l) (hmrow : TxtRow w mo more) (hp : ao = none → cap = 0) (hc : l.length ≤ cap) (hM : MX w) :
    Calls Try.prog 3 #[.slice ao l.length cap, .int .u8 tn, .slice mo more.length mcap, .string t] w fun e w' => e = .returned (.bool true) ∧ Below w.heap.size w w' := by
  have HL1 := Lib.hid (long10_any l ao cap w hrow)
  have HL2 := Lib.hid (long10_any more mo mcap w hmrow)
  have HAL : Hid (∀ V, Below w.heap.size w V → Calls Try.prog 6 #[] V fun e w' => e = .returned (.bool true) ∧ Below V.heap.size V w') := Lib.hid (fun V hV => alive10_any V (hM.step hV))
  have HMX : Hid (∀ V, Below w.heap.size w V → MX V) := Lib.hid (fun V hV => hM.step hV)
  cases h1 : longB l with
  | true =>
    rw [h1] at HL1
    generalize l.length = z at *
    generalize more.length = zm at *
    clear hM hrow hmrow hp hc h1
    go_enter Try.func3, Try.ntmps3
    go_wp2_with fail
    refine HL1.out.mono ?_; rintro e _ ⟨rfl, rfl⟩
    go_wp2_with fail
    refine (HAL.out _ (Below.refl _ _)).mono ?_; rintro e w2 ⟨rfl, b2⟩
    go_wp2_with fail
    go_ret
    exact ⟨rfl, b2⟩
  | false =>
  cases h2 : longB more with
  | true =>
    rw [h1] at HL1
    rw [h2] at HL2
    generalize l.length = z at *
    generalize more.length = zm at *
    clear hM hrow hmrow hp hc h1 h2
    go_enter Try.func3, Try.ntmps3
    go_wp2_with fail
    refine HL1.out.mono ?_; rintro e _ ⟨rfl, rfl⟩
    go_wp2_with fail
    refine HL2.out.mono ?_; rintro e _ ⟨rfl, rfl⟩
    go_wp2_with fail
    refine (HAL.out _ (Below.refl _ _)).mono ?_; rintro e w2 ⟨rfl, b2⟩
    go_wp2_with fail
    go_ret
    exact ⟨rfl, b2⟩
  | false =>
  by_cases h3 : 6000 < t.size
  · have h3' : (6000 : Int) < (t.size : Int) := by omega
    rw [h1] at HL1
    rw [h2] at HL2
    generalize l.length = z at *
    generalize more.length = zm at *
    clear hM hrow hmrow hp hc h1 h2
    go_enter Try.func3, Try.ntmps3
    go_wp2_with fail
    refine HL1.out.mono ?_; rintro e _ ⟨rfl, rfl⟩
    go_wp2_with fail
    refine HL2.out.mono ?_; rintro e _ ⟨rfl, rfl⟩
    go_wp2_with fail
    refine (HAL.out _ (Below.refl _ _)).mono ?_; rintro e w2 ⟨rfl, b2⟩
    go_wp2_with fail
    go_ret
    exact ⟨rfl, b2⟩
  have h3' : ¬ (6000 : Int) < (t.size : Int) := by omega
  obtain ⟨hl40, hlB⟩ := long_no h1
  obtain ⟨hm40, hmB⟩ := long_no h2
  rw [h1] at HL1
  rw [h2] at HL2
  have HROW : Hid (∀ V, Below w.heap.size w V → TxtRow V ao l) := Lib.hid (fun V hV => hrow.below hV)
  have HMROW : Hid (∀ V, Below w.heap.size w V → TxtRow V mo more) := Lib.hid (fun V hV => hmrow.below hV)
  have HSA := Lib.hid (seen10_any l ao cap (by omega) hlB w hrow hM)
  obtain ⟨n, hn⟩ : ∃ n, n = tn % (l.length + 1) := ⟨_, rfl⟩
  have hnl : n ≤ l.length := by rw [hn]; have := Nat.mod_lt tn (show 0 < l.length + 1 by omega); omega
  have HTB : Hid ((l.drop n ++ l.take n).map bl = (l.map bl).drop n ++ (l.map bl).take n) := Lib.hid (by rw [List.map_append, List.map_drop, List.map_take])
  have HSB : Hid (∀ a c V, TxtRow V a (l.drop n ++ l.take n) → Below w.heap.size w V → Calls Try.prog 7 #[.slice a (l.drop n ++ l.take n).length c] V fun e w' => (∃ p F, e = .returned (.pointer (some ⟨p, 0, none⟩)) ∧ KnowAt w' F p (learns [] ((l.map bl).drop n ++ (l.map bl).take n)) ∧ ∀ b, F b → V.heap.size ≤ b) ∧ Below V.heap.size V w') := Lib.hid (fun a c V hV hB => by
    have := seen10_any (l.drop n ++ l.take n) a c (by simp; omega) (by rw [HTB.out, sum_turned]; exact hlB) V hV (hM.step hB)
    rwa [HTB.out] at this)
  have HSAME1 : Hid (∀ s, checkP s = 0 → (s ∈ learns [] (l.map bl) ↔ s ∈ learns [] ((l.map bl).drop n ++ (l.map bl).take n))) := Lib.hid (learns_turned hlB n)
  have HSAME2 : Hid (∀ s, checkP s = 0 → (s ∈ learns [] (l.map bl) ↔ s ∈ learns (learns [] ((l.map bl).drop n ++ (l.map bl).take n)) (l.map bl))) := Lib.hid (learns_anew hlB n)
  have HCNT : Hid (cntP (learns [] (l.map bl)) ≤ 2000) := Lib.hid (seen_cnt hlB)
  have HLSZ : Hid (∀ k, (hk : k < l.length) → l[k].size ≤ 6000) := Lib.hid (fun k hk => by
    have := long_each hlB k hk
    exact this)
  have HMSZ : Hid (∀ k, (hk : k < more.length) → more[k].size ≤ 6000) := Lib.hid (fun k hk => long_each hmB k hk)
  obtain ⟨z, hz⟩ : ∃ z, z = l.length := ⟨_, rfl⟩
  obtain ⟨zm, hzm⟩ : ∃ zm, zm = more.length := ⟨_, rfl⟩
  have HZ := Lib.hid hz
  have HZM := Lib.hid hzm
  have KF := cut_front2 ao z cap n (by omega)
  have KR := cut_rest ao z cap n (by omega)
  have hN1 := front_none hp
  have hN2 := rest_none2 (j := n) hp
  have hRR := fun V (hV : TxtRow V ao l) => rest_row2 hV hc n
  have hFR := fun V (hV : TxtRow V ao l) => front_row2 (cap := cap) hV n
  obtain ⟨o1, ho1⟩ : ∃ o1 : Option Addr, o1 = (if cap = 0 then ao else ao.map (·.add 0)) := ⟨_, rfl⟩
  obtain ⟨o2, ho2⟩ : ∃ o2 : Option Addr, o2 = (if cap = n then ao else ao.map (·.add n)) := ⟨_, rfl⟩
  obtain ⟨zn, hzn⟩ : ∃ zn, zn = z - n := ⟨_, rfl⟩
  obtain ⟨cn, hcn⟩ : ∃ cn, cn = cap - n := ⟨_, rfl⟩
  rw [← ho2, ← hzn, ← hcn] at KR
  rw [← ho1] at KF
  rw [← ho2, ← hcn] at hN2
  rw [← ho1] at hN1
  rw [← ho2] at hRR
  rw [← ho1] at hFR
  have HN1 := Lib.hid hN1
  have HN2 := Lib.hid hN2
  have HRR := Lib.hid hRR
  have HFR := Lib.hid hFR
  have HTL : Hid ((l.take n).length = n) := Lib.hid (by rw [List.length_take]; exact Nat.min_eq_left hnl)
  have HDL : Hid ((l.drop n).length = zn) := Lib.hid (by rw [List.length_drop, hzn, hz])
  have HBL : Hid ((l.drop n ++ l.take n).length = z) := Lib.hid (by rw [List.length_append, HDL.out, HTL.out]; omega)
  have HZN : Hid (zn + n ≤ 40) := Lib.hid (by omega)
  rw [HBL.out] at HSB
  rw [← hz] at HL1 HSA
  rw [← hzm] at HL2
  have hmod : Int.tmod (tn : Int) ((z : Int) + 1) = (n : Int) := by rw [Int.tmod_eq_emod_of_nonneg (by omega), hn, hz]; exact (Int.natCast_emod tn (l.length + 1)).symm
  rw [← hz, ← hzm]
  have hz40 : z ≤ 40 := by omega
  have hzm40 : zm ≤ 40 := by omega
  clear hrow hmrow hN1 hN2 hRR hFR ho1 ho2 hcn hzn hnl hn hp hc h1 h2 h3 hl40 hlB hm40 hmB hz hzm
  go_enter Try.func3, Try.ntmps3
  go_wp2_with fail
  refine HL1.out.mono ?_; rintro e _ ⟨rfl, rfl⟩
  go_wp2_with fail
  refine HL2.out.mono ?_; rintro e _ ⟨rfl, rfl⟩
  go_wp2_with fail
  refine HSA.out.mono ?_; rintro e w1 ⟨⟨p, F, rfl, hk0, hF⟩, b1⟩
  have HA := Lib.hid hk0
  have HFL := Lib.hid hF
  have B1 := Lib.hid b1
  have HROW1 : Hid (∀ V, Below w1.heap.size w1 V → TxtRow V ao l) := Lib.hid (fun V hV => HROW.out V (below_step B1.out hV))
  clear hk0 hF b1
  go_wp2_with fail
  refine wp_region_U (S := fun W => Hid (Below w1.heap.size w1 W)) (by kernel_rfl) (Lib.hid (below_drewN (Below.refl _ _) 1)) (fun U hHeld => ?_)
  have BU := Lib.hid hHeld.out
  refine wpAnyH_take (i := 0) (oi := { dst := some 37, op := Op.move (Operand.tmp 0), type := 22, pos := "law.go:96", after := #[], guard := none }) (v := .slice ao z cap) rfl (by kernel_rfl) (by kernel_rfl) (by kernel_rfl) (fun _ _ _ h => h) (Or.inl ⟨by rfl, fun w hS => by go_simp⟩) hHeld ?_
  (try simp only [Act.put, List.setIfInBounds_toArray, List.set_cons_zero, List.set_cons_succ])
  refine wpAnyH_take (i := 1) (oi := { dst := some 38, op := Op.move (Operand.tmp 9), type := 3, pos := "law.go:96", after := #[], guard := none }) (v := .int .i64 (n : Int)) rfl (by kernel_rfl) (by kernel_rfl) (by kernel_rfl) (fun _ _ _ h => h) (Or.inl ⟨by rfl, fun w hS => by go_simp⟩) hHeld ?_
  (try simp only [Act.put, List.setIfInBounds_toArray, List.set_cons_zero, List.set_cons_succ])
  refine wpAnyH_take (i := 2) (oi := { dst := some 39, op := Op.slice 22 (Operand.tmp 37) (some (Operand.tmp 38)) none none, type := 22, pos := "law.go:96", after := #[{ on := 0, ground := Ground.data }, { on := 1, ground := Ground.data }], guard := none }) (v := .slice o2 zn cn) rfl (by kernel_rfl) (by kernel_rfl) (by kernel_rfl) (fun _ _ _ h => h) (Or.inl ⟨by rfl, fun w hS => by go_simp⟩) hHeld ?_
  (try simp only [Act.put, List.setIfInBounds_toArray, List.set_cons_zero, List.set_cons_succ])
  refine wpAnyH_take (i := 4) (oi := { dst := some 41, op := Op.move (Operand.tmp 0), type := 22, pos := "law.go:96", after := #[], guard := none }) (v := .slice ao z cap) rfl (by kernel_rfl) (by kernel_rfl) (by kernel_rfl) (fun _ _ _ h => h) (Or.inl ⟨by rfl, fun w hS => by go_simp⟩) hHeld ?_
  (try simp only [Act.put, List.setIfInBounds_toArray, List.set_cons_zero, List.set_cons_succ])
  refine wpAnyH_take (i := 5) (oi := { dst := some 42, op := Op.move (Operand.tmp 9), type := 3, pos := "law.go:96", after := #[], guard := none }) (v := .int .i64 (n : Int)) rfl (by kernel_rfl) (by kernel_rfl) (by kernel_rfl) (fun _ _ _ h => h) (Or.inl ⟨by rfl, fun w hS => by go_simp⟩) hHeld ?_
  (try simp only [Act.put, List.setIfInBounds_toArray, List.set_cons_zero, List.set_cons_succ])
  refine wpAnyH_take (i := 6) (oi := { dst := some 43, op := Op.slice 22 (Operand.tmp 41) none (some (Operand.tmp 42)) none, type := 22, pos := "law.go:96", after := #[{ on := 4, ground := Ground.data }, { on := 5, ground := Ground.data }], guard := none }) (v := .slice o1 n cap) rfl (by kernel_rfl) (by kernel_rfl) (by kernel_rfl) (fun _ _ _ h => h) (Or.inl ⟨by rfl, fun w hS => by go_simp⟩) hHeld ?_
  (try simp only [Act.put, List.setIfInBounds_toArray, List.set_cons_zero, List.set_cons_succ])
  refine wpAnyH_ready (rs := [3]) (by kernel_rfl) (by simp) ?_
  refine AllReadyH.cons (o := { dst := some 40, op := Op.call { callee := Callee.builtin Builtin.append, args := #[Operand.const (Value.slice none 0 0), Operand.tmp 39], argTypes := #[22, 22] }, type := 22, pos := "law.go:96", after := #[{ on := 2, ground := Ground.data }], guard := none }) rfl (fun K hK => ?_) AllReadyH.nil
  rw [if_pos (by rfl)]
  have ht3 := appT_run (ownT_nil U w1.heap.size) BU.out.size (HRR.out _ (HROW1.out _ BU.out)) HN2.out (by rw [HDL.out]; have := HZN.out; simp; omega)
  rw [List.nil_append, HDL.out] at ht3
  obtain ⟨v3, w3, hr3, hown3, hb3, g3⟩ := ht3
  have O3 := Lib.hid hown3
  have B3 := Lib.hid (BU.out.trans hb3)
  obtain ⟨a3, c3, rfl, row3⟩ := ownT_row hown3
  have R3 := Lib.hid row3
  rw [HDL.out] at hr3 O3
  refine wp_appT (.const (.slice none 0 0)) (.tmp 39) rfl rfl rfl rfl hr3 ?_
  refine hK.out _ _ (B3) (fun hHeld => ?_)
  clear hK K hr3 hown3 hb3 row3
  (try simp only [Act.put, List.setIfInBounds_toArray, List.set_cons_zero, List.set_cons_succ])
  refine wpAnyH_ready (rs := [7]) (by kernel_rfl) (by simp) ?_
  refine AllReadyH.cons (o := { dst := some 44, op := Op.call { callee := Callee.builtin Builtin.append, args := #[Operand.tmp 40, Operand.tmp 43], argTypes := #[22, 22] }, type := 22, pos := "law.go:96", after := #[{ on := 3, ground := Ground.data }, { on := 6, ground := Ground.data }, { on := 3, ground := Ground.chain }], guard := none }) rfl (fun K hK => ?_) AllReadyH.nil
  rw [if_pos (by rfl)]
  have ht7 := appT_run O3.out B3.out.size (HFR.out _ (HROW1.out _ B3.out)) HN1.out (by rw [HDL.out, HTL.out]; have := HZN.out; omega)
  rw [HTL.out] at ht7
  obtain ⟨v7, w7, hr7, hown7, hb7, g7⟩ := ht7
  have O7 := Lib.hid hown7
  have B7 := Lib.hid (B3.out.trans hb7)
  obtain ⟨a7, c7, rfl, row7⟩ := ownT_row hown7
  have R7 := Lib.hid row7
  rw [HBL.out] at hr7 O7
  refine wp_appT (.tmp 40) (.tmp 43) rfl rfl rfl rfl hr7 ?_
  refine hK.out _ _ (B7) (fun hHeld => ?_)
  clear hK K hr7 hown7 hb7 row7
  (try simp only [Act.put, List.setIfInBounds_toArray, List.set_cons_zero, List.set_cons_succ])
  refine wpAnyH_ready (rs := [8]) (by kernel_rfl) (by simp) ?_
  refine AllReadyH.cons (o := { dst := some 45, op := Op.call { callee := Callee.value (Operand.func 7), args := #[Operand.tmp 44], argTypes := #[22] }, type := 25, pos := "law.go:96", after := #[{ on := 7, ground := Ground.data }, { on := 7, ground := Ground.chain }], guard := none }) rfl (fun K hK => ?_) AllReadyH.nil
  go_simp
  refine (HSB.out _ _ _ R7.out (below_step B1.out B7.out)).mono ?_; rintro e w4 ⟨⟨q, G, rfl, hk1, hG⟩, b4⟩
  have B4 := Lib.hid (below_step B7.out b4)
  refine hK.out _ _ (B4) (fun hHeld => ?_)
  clear hK K
  (try simp only [Act.put, List.setIfInBounds_toArray, List.set_cons_zero, List.set_cons_succ])
  refine wpAnyH_take (i := 9) (oi := { dst := some 11, op := Op.assign (Operand.tmp 45), type := 25, pos := "law.go:96", after := #[{ on := 8, ground := Ground.data }, { on := 8, ground := Ground.chain }, { on := 0, ground := Ground.phase }, { on := 1, ground := Ground.phase }, { on := 2, ground := Ground.phase }, { on := 3, ground := Ground.phase }, { on := 4, ground := Ground.phase }, { on := 5, ground := Ground.phase }, { on := 6, ground := Ground.phase }, { on := 7, ground := Ground.phase }, { on := 8, ground := Ground.phase }], guard := none }) (v := .pointer (some ⟨q, 0, none⟩)) rfl (by kernel_rfl) (by kernel_rfl) (by kernel_rfl) (fun _ _ _ h => h) (Or.inl ⟨by rfl, fun w hS => by go_simp⟩) hHeld ?_
  (try simp only [Act.put, List.setIfInBounds_toArray, List.set_cons_zero, List.set_cons_succ])
  refine wpAnyH_done (by kernel_rfl) ?_ _
  have T4 : Hid (Two w.heap.size w4 F G p q (learns [] (l.map bl)) (learns [] ((l.map bl).drop n ++ (l.map bl).take n))) := Lib.hid (two_new HA.out HFL.out B1.out.size B4.out hk1 (fun b hb => Nat.le_trans B7.out.size (hG b hb)))
  have W4 : Hid (Below w.heap.size w w4) := Lib.hid (below_step B1.out B4.out)
  clear hk1 hG b4 hHeld HA HFL B1 B3 B7 B4 BU O3 O7 R3 R7 HRR HFR HN1 HN2 KF KR HSB HSA HL1 HL2 HROW1 HTL HDL HBL HTB HZN
  generalize learns [] ((l.map bl).drop n ++ (l.map bl).take n) = Hb at *
  generalize learns [] (l.map bl) = Ha at *
  have HEQ1 : Hid (∀ L M : List ByteArray, SortK Ha (L.map bl) → SortK Hb (M.map bl) → L = M) := Lib.hid (fun L M h k => lists_same HSAME1.out h k)
  have HEQ2 : Hid (∀ L M : List ByteArray, SortK Ha (L.map bl) → SortK (learns Hb (l.map bl)) (M.map bl) → L = M) := Lib.hid (fun L M h k => lists_same HSAME2.out h k)
  have HLEN : Hid (∀ L : List ByteArray, SortK Ha (L.map bl) → L.length ≤ 2000) := Lib.hid (fun L h => by rw [list_len h]; exact HCNT.out)
  have HCAN1 := canPB_same HSAME1.out (bl t)
  have HD : ∀ s, checkP s = 0 → s ∈ Ha → s ∈ learns (learns Hb (l.map bl)) (more.map bl) := fun s hs h => learns_mono _ _ s ((HSAME2.out s hs).1 h)
  have HCAN2 : Hid (canPB Ha (bl t) = true → canPB (learns (learns Hb (l.map bl)) (more.map bl)) (bl t) = true) := Lib.hid (fun h => canPB_iff.2 (can_subset HD (canPB_iff.1 h)))
  have HCAN3 : Hid (∀ L : List ByteArray, SortK Ha (L.map bl) → ∀ x ∈ L, canPB (learns (learns Hb (l.map bl)) (more.map bl)) (bl x) = true) := Lib.hid (fun L h x hx => canPB_iff.2 (can_subset HD (known_can ((h.2 _).1 (List.mem_map_of_mem hx)))))
  have HCP : Hid (∀ V G K, Two w.heap.size V F G p q Ha K → Calls Try.prog 10 #[.pointer (some ⟨p, 0, none⟩), .string t] V fun e w' => e = .returned (.bool (canPB Ha (bl t))) ∧ Below V.heap.size V w') := Lib.hid (fun V G K h => know_can F p Ha t (by omega) V h.fst)
  have HCQ : Hid (∀ V G, Two w.heap.size V F G p q Ha Hb → Calls Try.prog 10 #[.pointer (some ⟨q, 0, none⟩), .string t] V fun e w' => e = .returned (.bool (canPB Ha (bl t))) ∧ Below V.heap.size V w') := Lib.hid (fun V G h => by rw [HCAN1]; exact know_can G q Hb t (by omega) V h.snd)
  have HCD : Hid (∀ V G, Two w.heap.size V F G p q Ha (learns (learns Hb (l.map bl)) (more.map bl)) → Calls Try.prog 10 #[.pointer (some ⟨q, 0, none⟩), .string t] V fun e w' => e = .returned (.bool (canPB (learns (learns Hb (l.map bl)) (more.map bl)) (bl t))) ∧ Below V.heap.size V w') := Lib.hid (fun V G h => know_can G q _ t (by omega) V h.snd)
  generalize canPB Ha (bl t) = c at *
  generalize canPB (learns (learns Hb (l.map bl)) (more.map bl)) (bl t) = d at *
  clear HCAN1 HD HSAME1 HSAME2 HCNT
  go_wp2_with fail
  refine (know_list F p Ha _ T4.out.fst).mono ?_; rintro e w5 ⟨⟨v5, L5, rfl, own5, s5⟩, b5⟩
  have S5 := Lib.hid s5
  have T5 := Lib.hid (T4.out.below b5)
  have W5 := Lib.hid (below_step W4.out b5)
  obtain ⟨ao5, cap5, rfl, row5⟩ := ownT_row own5
  have R5 := Lib.hid row5
  clear T4 W4 own5 row5 s5 b5
  go_wp2_with fail
  refine (know_list G q Hb _ T5.out.snd).mono ?_; rintro e w6 ⟨⟨v6, L6, rfl, own6, s6⟩, b6⟩
  obtain rfl := HEQ1.out L5 L6 S5.out s6
  have LN6 := Lib.hid (HLEN.out _ S5.out)
  have T6 := Lib.hid (T5.out.below b6)
  have W6 := Lib.hid (below_step W5.out b6)
  have R5' := Lib.hid (R5.out.below b6)
  obtain ⟨ao6, cap6, rfl, row6⟩ := ownT_row own6
  have R6 := Lib.hid row6
  clear T5 W5 own6 row6 s6 b6 R5
  go_wp2_with fail
  refine (rsame_any L5 L5 ao5 ao6 cap5 cap6 (by have := LN6.out; omega) (by have := LN6.out; omega) _ R5'.out R6.out true (by simp)).mono ?_; rintro e w7 ⟨rfl, b7⟩
  have T7 := Lib.hid (T6.out.below b7)
  have W7 := Lib.hid (below_step W6.out b7)
  clear T6 W6 b7 R5' R6
  go_wp2_with fail
  refine (HCP.out _ _ _ T7.out).mono ?_; rintro e w8 ⟨rfl, b8⟩
  have T8 := Lib.hid (T7.out.below b8)
  have W8 := Lib.hid (below_step W7.out b8)
  clear T7 W7 b8
  go_wp2_with fail
  refine (HCQ.out _ _ T8.out).mono ?_; rintro e w9 ⟨rfl, b9⟩
  have T9 := Lib.hid (T8.out.below b9)
  have W9 := Lib.hid (below_step W8.out b9)
  clear T8 W8 b9 HCQ
  go_wp2_with fail
  go_loopw [12] (fun iv wr => ∃ (k : Nat) (G : Nat → Prop), iv = .int .i64 k ∧ k ≤ z ∧ Hid (Two w.heap.size wr F G p q Ha (learns Hb ((l.map bl).take k))) ∧ Hid (Below w.heap.size w wr)) (fun iv _ => z - (intOf iv).toNat)
  case atStart => exact ⟨0, _, rfl, Nat.zero_le _, T9, W9⟩
  case round =>
    clear T9 W9
    obtain ⟨k, G, rfl, hkn, hT, hb⟩ := hrel
    by_cases hk : k < z
    · have hk' : (k : Int) < (z : Int) := by omega
      have hkl : k < l.length := by rw [← HZ.out]; exact hk
      rcases HROW.out _ hb.out with e | ⟨g, off, rfl, hlt, hc⟩
      · exfalso
        rw [e] at hkl
        exact absurd hkl (Nat.not_lt_zero _)
      have ck := hc k hkl
      have eg : l.getD k ByteArray.empty = l[k] := by simp [List.getD_eq_getElem?_getD, hkl]
      rw [eg] at ck
      have hlk : k < (l.map bl).length := by rw [List.length_map]; exact hkl
      have s2 : learnH (learns Hb ((l.map bl).take k)) (bl l[k]) = learns Hb ((l.map bl).take (k + 1)) := by
        have e : (l.map bl)[k] = bl l[k] := by simp
        rw [List.take_succ_eq_append_getElem hlk, learns_snoc, e]
      have HL := Lib.hid (know_learn G q _ l[k] (by have := HLSZ.out k hkl; omega) wr hT.out.snd (HMX.out _ hb.out))
      rw [s2] at HL
      generalize l[k] = x at *
      generalize learnE (learns Hb ((l.map bl).take k)) (bl x) = E at *
      clear hc hlt eg s2 hlk
      go_wp2_with fail
      refine HL.out.mono ?_; rintro e w2 ⟨rfl, ⟨G2, hk2, hG2⟩, ht⟩
      have T2 := Lib.hid (hT.out.turn hb.out.size hk2 hG2 ht)
      have W2 := Lib.hid (hb.out.trans (turn_to ht hT.out.lowG hb.out.size))
      clear hk2 hG2 ht ck
      go_wp2_with fail
      go_roundw
      case rel => exact ⟨k + 1, G2, by go_num, by omega, T2, W2⟩
      case measure => simp [intOf]; omega
    · obtain rfl : k = z := by omega
      have HTE : Hid (Two w.heap.size wr F G p q Ha (learns Hb (l.map bl))) := Lib.hid (by
        have := hT.out
        rwa [List.take_of_length_le (by rw [List.length_map, HZ.out]; exact Nat.le_refl _)] at this)
      have W6 := hb
      clear hT hb hk hkn
      go_wp2_with fail
      refine (know_list F p Ha _ HTE.out.fst).mono ?_; rintro e wa ⟨⟨va, La, rfl, owna, sa⟩, ba⟩
      have Sa := Lib.hid sa
      have Ta := Lib.hid (HTE.out.below ba)
      have Wa := Lib.hid (below_step W6.out ba)
      obtain ⟨aoa, capa, rfl, rowa⟩ := ownT_row owna
      have Ra := Lib.hid rowa
      clear HTE W6 owna rowa sa ba
      go_wp2_with fail
      refine (know_list G q _ _ Ta.out.snd).mono ?_; rintro e wb ⟨⟨vb, Lb, rfl, ownb, sb⟩, bb⟩
      obtain rfl := HEQ2.out La Lb Sa.out sb
      have LNb := Lib.hid (HLEN.out _ Sa.out)
      have Tb := Lib.hid (Ta.out.below bb)
      have Wb := Lib.hid (below_step Wa.out bb)
      have Ra' := Lib.hid (Ra.out.below bb)
      obtain ⟨aob, capb, rfl, rowb⟩ := ownT_row ownb
      have Rb := Lib.hid rowb
      clear Ta Wa ownb rowb sb bb Ra
      go_wp2_with fail
      refine (rsame_any La La aoa aob capa capb (by have := LNb.out; omega) (by have := LNb.out; omega) _ Ra'.out Rb.out true (by simp)).mono ?_; rintro e wc ⟨rfl, bc⟩
      have Tc := Lib.hid (Tb.out.below bc)
      have Wc := Lib.hid (below_step Wb.out bc)
      clear Tb Wb bc Ra' Rb
      go_wp2_with fail
      refine (HCP.out _ _ _ Tc.out).mono ?_; rintro e wd ⟨rfl, bd⟩
      have Td := Lib.hid (Tc.out.below bd)
      have Wd := Lib.hid (below_step Wc.out bd)
      clear Tc Wc bd HCP
      go_wp2_with fail
      go_loopw [14] (fun iv wr => ∃ (k : Nat) (G : Nat → Prop), iv = .int .i64 k ∧ k ≤ zm ∧ Hid (Two w.heap.size wr F G p q Ha (learns (learns Hb (l.map bl)) ((more.map bl).take k))) ∧ Hid (Below w.heap.size w wr)) (fun iv _ => zm - (intOf iv).toNat)
      case atStart => exact ⟨0, _, rfl, Nat.zero_le _, Td, Wd⟩
      case round =>
        clear Td Wd
        obtain ⟨k, G, rfl, hkn, hT, hb⟩ := hrel
        by_cases hk : k < zm
        · have hk' : (k : Int) < (zm : Int) := by omega
          have hkl : k < more.length := by rw [← HZM.out]; exact hk
          rcases HMROW.out _ hb.out with e | ⟨g, off, rfl, hlt, hc⟩
          · exfalso
            rw [e] at hkl
            exact absurd hkl (Nat.not_lt_zero _)
          have ck := hc k hkl
          have eg : more.getD k ByteArray.empty = more[k] := by simp [List.getD_eq_getElem?_getD, hkl]
          rw [eg] at ck
          have hlk : k < (more.map bl).length := by rw [List.length_map]; exact hkl
          have s2 : learnH (learns (learns Hb (l.map bl)) ((more.map bl).take k)) (bl more[k]) = learns (learns Hb (l.map bl)) ((more.map bl).take (k + 1)) := by
            have e : (more.map bl)[k] = bl more[k] := by simp
            rw [List.take_succ_eq_append_getElem hlk, learns_snoc, e]
          have HL := Lib.hid (know_learn G q _ more[k] (by have := HMSZ.out k hkl; omega) wr hT.out.snd (HMX.out _ hb.out))
          rw [s2] at HL
          generalize more[k] = x at *
          generalize learnE (learns (learns Hb (l.map bl)) ((more.map bl).take k)) (bl x) = E at *
          clear hc hlt eg s2 hlk
          go_wp2_with fail
          refine HL.out.mono ?_; rintro e w2 ⟨rfl, ⟨G2, hk2, hG2⟩, ht⟩
          have T2 := Lib.hid (hT.out.turn hb.out.size hk2 hG2 ht)
          have W2 := Lib.hid (hb.out.trans (turn_to ht hT.out.lowG hb.out.size))
          clear hk2 hG2 ht ck
          go_wp2_with fail
          go_roundw
          case rel => exact ⟨k + 1, G2, by go_num, by omega, T2, W2⟩
          case measure => simp [intOf]; omega
        · obtain rfl : k = zm := by omega
          have HTE : Hid (Two w.heap.size wr F G p q Ha (learns (learns Hb (l.map bl)) (more.map bl))) := Lib.hid (by
            have := hT.out
            rwa [List.take_of_length_le (by rw [List.length_map, HZM.out]; exact Nat.le_refl _)] at this)
          have W6 := hb
          clear hT hb hk hkn
          go_wp2_with fail
          refine (know_list F p Ha _ HTE.out.fst).mono ?_; rintro e we ⟨⟨ve, Le, rfl, owne, se⟩, be⟩
          have LNe := Lib.hid (HLEN.out _ se)
          have Te := Lib.hid (HTE.out.below be)
          have We := Lib.hid (below_step W6.out be)
          have HCE : Hid (∀ k, (hk : k < Le.length) → ∀ V G, Two w.heap.size V F G p q Ha (learns (learns Hb (l.map bl)) (more.map bl)) → Calls Try.prog 10 #[.pointer (some ⟨q, 0, none⟩), .string Le[k]] V fun e w' => e = .returned (.bool true) ∧ Below V.heap.size V w') := Lib.hid (fun k hk V G h => by
            rw [← HCAN3.out Le se Le[k] (List.getElem_mem hk)]
            exact know_can G q _ Le[k] (by have := list_small se Le[k] (List.getElem_mem hk); omega) V h.snd)
          obtain ⟨aoe, cape, rfl, rowe⟩ := ownT_row owne
          have Re := Lib.hid rowe
          obtain ⟨ze, hze⟩ : ∃ ze, ze = Le.length := ⟨_, rfl⟩
          have HZE := Lib.hid hze
          have hze2 : ze ≤ 2000 := by rw [hze]; exact LNe.out
          rw [← hze]
          clear HTE W6 owne rowe se be hze LNe
          go_wp2_with fail
          go_loopw [16] (fun iv wr => ∃ k : Nat, iv = .int .i64 k ∧ k ≤ ze ∧ Hid (Below we.heap.size we wr)) (fun iv _ => ze - (intOf iv).toNat)
          case atStart => exact ⟨0, rfl, Nat.zero_le _, Lib.hid (Below.refl _ _)⟩
          case round =>
            obtain ⟨k, rfl, hkn, hb⟩ := hrel
            by_cases hk : k < ze
            · have hk' : (k : Int) < (ze : Int) := by omega
              have hkl : k < Le.length := by rw [← HZE.out]; exact hk
              rcases Re.out.below hb.out with e | ⟨g, off, rfl, hlt, hc⟩
              · exfalso
                rw [e] at hkl
                exact absurd hkl (Nat.not_lt_zero _)
              have ck := hc k hkl
              have eg : Le.getD k ByteArray.empty = Le[k] := by simp [List.getD_eq_getElem?_getD, hkl]
              rw [eg] at ck
              have HL := Lib.hid (HCE.out k hkl wr G (Te.out.below hb.out))
              generalize Le[k] = x at *
              clear hc hlt eg
              go_wp2_with fail
              refine HL.out.mono ?_; rintro e w2 ⟨rfl, b2⟩
              have W2 := Lib.hid (below_step hb.out b2)
              clear b2 ck
              go_wp2_with fail
              go_roundw
              case rel => exact ⟨k + 1, by go_num, by omega, W2⟩
              case measure => simp [intOf]; omega
            · obtain rfl : k = ze := by omega
              have Tf := Lib.hid (Te.out.below hb.out)
              have Wf := Lib.hid (below_step We.out hb.out)
              clear Te We Re hb HCE hk hkn
              cases c with
              | false =>
                go_wp2_with fail
                refine (HAL.out _ Wf.out).mono ?_; rintro e wz ⟨rfl, bz⟩
                have Wz := Lib.hid (below_step Wf.out bz)
                clear bz
                go_wp2_with fail
                go_ret
                exact ⟨rfl, Wz.out⟩
              | true =>
                obtain rfl : d = true := HCAN2.out rfl
                go_wp2_with fail
                refine (HCD.out _ _ Tf.out).mono ?_; rintro e wy ⟨rfl, by1⟩
                have Wy := Lib.hid (below_step Wf.out by1)
                clear by1
                go_wp2_with fail
                refine (HAL.out _ Wy.out).mono ?_; rintro e wz ⟨rfl, bz⟩
                have Wz := Lib.hid (below_step Wy.out bz)
                clear bz
                go_wp2_with fail
                go_ret
                exact ⟨rfl, Wz.out⟩
end Go.Proofs.Ytkebfabmcajbmaa.Pl
