/- What wire decodes. Decode of wire. Decode of wire, as a whole. append of texts to a row that the call owns; numbers and Txn of wire. Txn of wire; the parts of a transaction, and of a decision. The parts of a decision, and of a vote; what a message's term is made by. What a message's term is made by. Members of wire. Members of wire, as a whole. -/
import Derived.Test.YthemopejebioaaaGreatWireY13
import Derived.Test.YthemopejebioaaaGreatWireY7
namespace Go.Proofs.YthemopejebioaaaGreat.Pl
open Go.RowKit

theorem call_getF (k : Nat) (args : Array Value) (V : World) : (callFunc (getF k) args).run Tryz.prog V = .ok (.enter (getF k) args) V := by
  unfold getF
  repeat' split
  all_goals kernel_rfl
theorem getnone_any (w0 : World) (g b : Nat) (m : Ms) (l : List ByteArray) (V : World) (hN : NextAt V w0.heap.size b l) (hS : GSt w0 g m V) :
    Calls Tryz.prog 81 #[ptr12 g, nextV b] V (ReadP w0.heap.size b (some (m, l)) (GSt w0 g) (Turn (· = g) w0)) := by
  have HN := Lib.hid hN
  have HS := Lib.hid hS
  clear hN hS
  go_enter Tryz.func81, Tryz.ntmps81
  go_wp2_with fail
  go_end0
  exact ⟨rfl, HN.out, HS.out⟩
theorem getF_any (k : Nat) (w0 : World) (g b : Nat) (hg : g < w0.heap.size) (m : Ms) (l : List ByteArray) (V : World) (hN : NextAt V w0.heap.size b l) (hS : GSt w0 g m V) :
    Calls Tryz.prog (getF k) #[ptr12 g, nextV b] V (ReadP w0.heap.size b (getP k m l) (GSt w0 g) (Turn (· = g) w0)) := by
  by_cases h1 : k = 1
  · rw [show getF k = 69 by rw [h1]; rfl, show getP k m l = getPr m l by simp [getP, h1]]
    exact getprep_any w0 g b hg m l V hN hS
  · by_cases h2 : k = 2
    · rw [show getF k = 72 by rw [h2]; rfl, show getP k m l = getV m l by simp [getP, h2]]
      exact getvote_any w0 g b hg m l V hN hS
    · by_cases h3 : k = 3
      · rw [show getF k = 75 by rw [h3]; rfl, show getP k m l = getD12 m l by simp [getP, h3]]
        exact getdec_any w0 g b hg m l V hN hS
      · by_cases h4 : k = 4 ∨ k = 5
        · rw [show getF k = 78 by unfold getF; rw [if_neg h1, if_neg h2, if_neg h3, if_pos h4], show getP k m l = getX m l by unfold getP; rw [if_neg h1, if_neg h2, if_neg h3, if_pos h4]]
          exact gettxn_any w0 g b hg m l V hN hS
        · rw [show getF k = 81 by unfold getF; rw [if_neg h1, if_neg h2, if_neg h3, if_neg h4], show getP k m l = some (m, l) by unfold getP; rw [if_neg h1, if_neg h2, if_neg h3, if_neg h4]]
          exact getnone_any w0 g b m l V hN hS
theorem getP_kind {k : Nat} {m m' : Ms} {l r : List ByteArray} (h : getP k m l = some (m', r)) : m'.kind = m.kind := by
  unfold getP at h
  split at h
  · unfold getPr at h
    split at h
    · cases h
    · rename_i m1 l1 k1
      have e := (getX_again k1).2
      split at h
      · cases h
      · split at h
        · cases h
        · split at h
          · cases h
          · split at h
            · cases h
            · simp only [Option.some.injEq, Prod.mk.injEq] at h
              rw [← h.1]
              show m1.kind = m.kind
              rw [e]
  · split at h
    · unfold getV at h
      split at h
      · cases h
      · rename_i m1 l1 k1
        have e := (getD_again k1).2
        split at h
        · split at h
          · cases h
          · simp only [Option.some.injEq, Prod.mk.injEq] at h
            rw [← h.1]
            show m1.kind = m.kind
            rw [e]
        · simp only [Option.some.injEq, Prod.mk.injEq] at h
          rw [← h.1, e]
    · split at h
      · rw [(getD_again h).2]
      · split at h
        · rw [(getX_again h).2]
        · simp only [Option.some.injEq, Prod.mk.injEq] at h
          rw [h.1]
theorem GSt.setK {w0 : World} {g : Nat} {m : Ms} {V : World} (h : GSt w0 g m V) (hg : g < w0.heap.size) (k : Nat) : GSt w0 g { m with kind := k } (V.setCell ⟨g, 0, none⟩ (.int .u8 k)) := by
  obtain ⟨hT, u, hG, hO⟩ := h
  have t1 := turn_cell V g 0 (.int .u8 k)
  exact ⟨turn_trans hT t1 (fun _ e => .inl e), u, gset hG 0 _, ownM_turn hO t1 (fun k e => e ▸ hg)⟩
theorem kindR_in {t : ByteArray} {k : Nat} (h : kindR t = some k) : 1 ≤ k ∧ k ≤ 6 := by
  unfold kindR at h
  split at h
  · split at h
    · cases h
    · rename_i k0
      obtain rfl := Option.some.inj h
      exact (kind_word k0).2
  · cases h

set_option maxHeartbeats 8000000 in
set_option maxRecDepth 100000 in
theorem dec2_any (w0 : World) (g b : Nat) (hg : g < w0.heap.size) (l : List ByteArray) (V : World) (hN : NextAt V w0.heap.size b l) (hS : GSt w0 g (zeroM 0) V) :
    Calls Tryz.prog 46 #[nextV b, ptr12 g] V (ReadP w0.heap.size b (msgG l) (GSt w0 g) (Turn (· = g) w0)) := by
  obtain ⟨z, hz⟩ : ∃ z, z = msgG l := ⟨_, rfl⟩
  rw [← hz]
  have HZ := Lib.hid hz
  have HN := Lib.hid hN
  have HS := Lib.hid hS
  have HG := Lib.hid hg
  clear hz hN hS hg
  go_enter Tryz.func46, Tryz.ntmps46
  go_wp2_with fail
  cases l with
  | nil =>
    have hz : z = none := by rw [HZ.out]; simp [msgG]
    subst hz
    refine (next_none _ b _ HN.out).mono ?_; rintro e V1 ⟨rfl, hw⟩; rw [hw]; clear hw V1
    go_wp2_with fail
    exact ⟨by first | rfl | trivial, rfl, HS.out.turnd⟩
  | cons a r =>
    have HSZ := Lib.hid (HN.out.size a (List.mem_cons_self ..))
    refine (next_some _ b a r _ HN.out).mono ?_; rintro e V1 ⟨rfl, n1, t1⟩
    have S1 := Lib.hid (HS.out.next HG.out HN.out t1)
    have N1 := Lib.hid n1
    clear n1 t1 HS HN
    go_wp2_with fail
    have HT := fun W => kind12_any a HSZ.out W
    cases hr : kindR a with
    | none =>
      rw [hr] at HT; simp only [Out12] at HT
      have hz : z = none := by rw [HZ.out]; simp [msgG, hr]
      subst hz
      refine (HT _).mono ?_; rintro e V2 ⟨rfl, b2⟩
      have S2 := Lib.hid (S1.out.below b2)
      go_wp2_with fail
      exact ⟨by first | rfl | trivial, rfl, S2.out.turnd⟩
    | some k =>
      rw [hr] at HT; simp only [Out12] at HT
      have hz : z = getP k (zeroM k) r := by rw [HZ.out]; simp [msgG, hr]
      subst hz
      have hk := kindR_in hr
      refine (HT _).mono ?_; rintro e V2 ⟨rfl, b2⟩
      have S2 := Lib.hid (S1.out.below b2)
      have N2 := Lib.hid (N1.out.below b2)
      obtain ⟨vv, hG, -⟩ := S2.out.2
      obtain ⟨x0, x1, x2, x3, x4, x5, x6, x7, x8⟩ := hG.cells
      have fk := hG.frozen 0
      clear hG
      obtain ⟨W3, hW3⟩ : ∃ W, W = V2.setCell ⟨g, 0, none⟩ (.int .u8 k) := ⟨_, rfl⟩
      have HN := Lib.hid (show NextAt W3 w0.heap.size b r from hW3 ▸ N2.out.cell HG.out)
      have HS := Lib.hid (show GSt w0 g (zeroM k) W3 from hW3 ▸ S2.out.setK HG.out k)
      have HW3 := Lib.hid hW3
      have hcf := call_getF k
      have HI : Hid ((Lit.int .u8 (k : Int), (.agg #[.string (tb (wordP k)), .func (.func (mayF k)) #[] #[], .func (.func (putF k)) #[] #[], .func (.func (getF k)) #[] #[]] : Value)) ∈ namT) := Lib.hid (name_in hk)
      have HGT := Lib.hid (fun V1 hN1 hS1 => getF_any k w0 g b HG.out (zeroM k) r V1 hN1 hS1)
      have HKK : Hid (k ≤ 255) := Lib.hid (by omega)
      clear b2 S1 N1 HT S2 N2 hW3 hk hr
      generalize tb (wordP k) = wd at *
      generalize mayF k = f1 at *
      generalize putF k = f2 at *
      generalize getF k = f3 at *
      have hfg := field_get
      go_wp2_with fail
      rw [← HW3.out]
      clear HW3 x0 x1 x2 x3 x4 x5 x6 x7 x8 fk
      have ND := Lib.hid (HN.out.below (drew12 W3))
      have SD := Lib.hid (HS.out.below (drew12 W3))
      have KS : W3.drew.cell? ⟨g, 0, none⟩ = some (.int .u8 k) := by
        obtain ⟨vv, hG, -⟩ := SD.out.2
        exact hG.cells.1
      clear HN HS
      refine wp_region_held_drew (S := fun W => W.cell? ⟨g, 0, none⟩ = some (.int .u8 k)) (by kernel_rfl) (by first | assumption | exact KS) (fun hHeld => ?_)
      generalize W3.drew = wz at *
      refine wpAnyH_take (i := 1) (oi := { dst := some 8, op := Op.fieldAddr 26 (Operand.tmp 1) 0, type := 0, pos := "wire.go:293", after := #[], guard := none }) (v := ?_) rfl (by kernel_rfl) (by kernel_rfl) (by kernel_rfl) (fun _ _ _ h => h) (Or.inl ⟨by rfl, ?_⟩) (by assumption) ?_
      rotate_left 1
      · (intro w hSw; (try dsimp only at hSw); go_simp; try with_reducible rfl)
      (try simp only [Act.put, List.setIfInBounds_toArray, List.set_cons_zero, List.set_cons_succ])
      refine wpAnyH_take (i := 2) (oi := { dst := some 9, op := Op.load 5 (Operand.tmp 8), type := 5, pos := "wire.go:293", after := #[{ on := 1, ground := Ground.data }], guard := none }) (v := ?_) rfl (by kernel_rfl) (by kernel_rfl) (by kernel_rfl) (fun _ _ _ h => h) (Or.inl ⟨by rfl, ?_⟩) (by assumption) ?_
      rotate_left 1
      · (intro w hSw; (try dsimp only at hSw); go_simp; try with_reducible rfl)
      (try simp only [Act.put, List.setIfInBounds_toArray, List.set_cons_zero, List.set_cons_succ])
      refine wpAnyH_take (i := 5) (oi := { dst := some 12, op := Op.move (Operand.tmp 0), type := 71, pos := "wire.go:293", after := #[], guard := none }) (v := ?_) rfl (by kernel_rfl) (by kernel_rfl) (by kernel_rfl) (fun _ _ _ h => h) (Or.inl ⟨by rfl, ?_⟩) (by assumption) ?_
      rotate_left 1
      · (intro w hSw; (try dsimp only at hSw); go_simp; try with_reducible rfl)
      (try simp only [Act.put, List.setIfInBounds_toArray, List.set_cons_zero, List.set_cons_succ])
      refine wpAnyH_ready (rs := [0]) (by kernel_rfl) (by simp) ?_
      refine AllReadyH.cons (o := { dst := some 7, op := Op.call { callee := Callee.value (Operand.func 33), args := #[], argTypes := #[] }, type := 60, pos := "wire.go:293", after := #[], guard := none }) rfl (fun K hK => ?_) AllReadyH.nil
      go_simp
      refine (namings_any _).mono ?_; rintro e w4 ⟨⟨mp, rfl, hm⟩, bb⟩
      have S4 := Lib.hid (SD.out.below bb)
      have N4 := Lib.hid (ND.out.below bb)
      have HM := Lib.hid hm
      clear bb hm SD ND KS
      refine hK.out _ _ (by obtain ⟨vv, hG, -⟩ := S4.out.2; exact hG.cells.1) (fun hHeld => ?_)
      clear hK K
      (try simp only [Act.put, List.setIfInBounds_toArray, List.set_cons_zero, List.set_cons_succ])
      refine wpAnyH_ready (rs := [3]) (by kernel_rfl) (by simp) ?_
      refine AllReadyH.cons (o := { dst := some 10, op := Op.lookup 60 (Operand.tmp 7) (Operand.tmp 9) false, type := 59, pos := "wire.go:293", after := #[{ on := 0, ground := Ground.data }, { on := 2, ground := Ground.data }], guard := none }) rfl (fun K hK => ?_) AllReadyH.nil
      refine wpOp_look12 (by kernel_rfl) _ _ _ _ rfl _ _ _ rfl rfl (HM.out.look keyed_u8 Tryz.underlying60 (zero_nam _) (key_u8 HKK.out) HI.out).1 ?_
      refine hK.out _ _ (by obtain ⟨vv, hG, -⟩ := S4.out.2; exact hG.cells.1) (fun hHeld => ?_)
      clear hK K
      (try simp only [Act.put, List.setIfInBounds_toArray, List.set_cons_zero, List.set_cons_succ])
      refine wpAnyH_take (i := 4) (oi := { dst := some 11, op := Op.field 59 (Operand.tmp 10) 3, type := 57, pos := "wire.go:293", after := #[{ on := 3, ground := Ground.data }], guard := none }) (v := ?_) rfl (by kernel_rfl) (by kernel_rfl) (by kernel_rfl) (fun _ _ _ h => h) (Or.inl ⟨by rfl, ?_⟩) (by assumption) ?_
      rotate_left 1
      · (intro w hSw; (try dsimp only at hSw); go_simp; try with_reducible rfl)
      (try simp only [Act.put, List.setIfInBounds_toArray, List.set_cons_zero, List.set_cons_succ])
      refine wpAnyH_ready (rs := [6]) (by kernel_rfl) (by simp) ?_
      refine AllReadyH.cons (o := { dst := some 13, op := Op.call { callee := Callee.value (Operand.tmp 11), args := #[Operand.tmp 1, Operand.tmp 12], argTypes := #[73, 71] }, type := 0, pos := "wire.go:293", after := #[{ on := 4, ground := Ground.data }, { on := 5, ground := Ground.data }, { on := 0, ground := Ground.chain }], guard := none }) rfl (fun K hK => ?_) AllReadyH.nil
      go_simp
      refine (HGT.out _ N4.out S4.out).mono ?_
      intro e V5 h
      cases hg : getP k (zeroM k) r with
      | none =>
        rw [hg] at h
        obtain ⟨rfl, hT⟩ := h
        have HTT := Lib.hid hT
        clear hT hK
        go_wp2_with fail
        rw [hg]
        exact ⟨by first | rfl | trivial, rfl, HTT.out⟩
      | some y =>
        obtain ⟨m1, l1⟩ := y
        rw [hg] at h
        obtain ⟨rfl, hN1, hS1⟩ := h
        have hkk := getP_kind hg
        refine hK.out _ _ (by obtain ⟨vv, hG, -⟩ := hS1.2; have := hG.cells.1; rw [hkk] at this; exact this) (fun hHeld => ?_)
        clear hK K
        (try simp only [Act.put, List.setIfInBounds_toArray, List.set_cons_zero, List.set_cons_succ])
        refine wpAnyH_done (by kernel_rfl) ?_ _
        have N6 := Lib.hid hN1
        have S6 := Lib.hid hS1
        clear hN1 hS1 hkk
        go_wp2_with fail
        go_end0
        rw [hg]
        exact ⟨rfl, N6.out, S6.out⟩
end Go.Proofs.YthemopejebioaaaGreat.Pl

namespace Go.Proofs.YthemopejebioaaaGreat.Pl
open Go.RowKit

/-- A message whose texts are no longer than a term. -/
def Ms.Fit (m : Ms) : Prop := m.body.size ≤ 16384 ∧ m.tag.size ≤ 16384 ∧ (∀ x ∈ m.mem, x.2.size ≤ 16384) ∧ m.mem.length ≤ 32
theorem membersR_fit {c : Int} {t : ByteArray} {l : List Mb} (h : membersR c t = some l) : (∀ x ∈ l, x.2.size ≤ 16384) ∧ l.length ≤ 32 := by
  unfold membersR at h
  split at h
  · split at h
    · rename_i l' k
      split at h
      · obtain rfl := Option.some.inj h
        obtain ⟨h1, h2⟩ := memsR_size k
        exact ⟨h1, by have := partsB_len t; omega⟩
      · cases h
    · cases h
  · cases h
theorem getN_tail {l r : List ByteArray} {v : Int} (h : getN l = some (v, r)) (hl : ∀ x ∈ l, x.size ≤ 16384) : ∀ x ∈ r, x.size ≤ 16384 := by
  obtain ⟨a, rfl, _⟩ := getN_again h
  exact fun x hx => hl x (List.mem_cons_of_mem _ hx)
theorem getX_fit {m m' : Ms} {l r : List ByteArray} (h : getX m l = some (m', r)) (hm : m.Fit) (hl : ∀ x ∈ l, x.size ≤ 16384) : m'.Fit ∧ ∀ x ∈ r, x.size ≤ 16384 := by
  unfold getX at h
  split at h
  · cases h
  · split at h
    · cases h
    · simp only [Option.some.injEq, Prod.mk.injEq] at h
      obtain ⟨rfl, rfl⟩ := h
      exact ⟨hm, fun x hx => hl x (List.mem_cons_of_mem _ hx)⟩
theorem getD_fit {m m' : Ms} {l r : List ByteArray} (h : getD12 m l = some (m', r)) (hm : m.Fit) (hl : ∀ x ∈ l, x.size ≤ 16384) : m'.Fit ∧ ∀ x ∈ r, x.size ≤ 16384 := by
  unfold getD12 at h
  split at h
  · cases h
  · rename_i m1 l1 k1
    obtain ⟨f1, f2⟩ := getX_fit k1 hm hl
    split at h
    · cases h
    · rename_i v r' k2
      split at h
      · simp only [Option.some.injEq, Prod.mk.injEq] at h
        obtain ⟨rfl, rfl⟩ := h
        exact ⟨f1, getN_tail k2 f2⟩
      · cases h
theorem getP_fit {k : Nat} {m m' : Ms} {l r : List ByteArray} (h : getP k m l = some (m', r)) (hm : m.Fit) (hl : ∀ x ∈ l, x.size ≤ 16384) : m'.Fit := by
  unfold getP at h
  split at h
  · unfold getPr at h
    split at h
    · cases h
    · rename_i m1 l1 k1
      obtain ⟨f1, f2⟩ := getX_fit k1 hm hl
      split at h
      · cases h
      · rename_i v l2 k2
        have f3 := getN_tail k2 f2
        split at h
        · cases h
        · rename_i a l3
          split at h
          · cases h
          · rename_i kk k3
            obtain ⟨g1, g2⟩ := membersR_fit k3
            split at h
            · cases h
            · rename_i b r'
              simp only [Option.some.injEq, Prod.mk.injEq] at h
              obtain ⟨rfl, rfl⟩ := h
              exact ⟨f3 b (by simp), f1.2.1, g1, g2⟩
  · split at h
    · unfold getV at h
      split at h
      · cases h
      · rename_i m1 l1 k1
        obtain ⟨f1, f2⟩ := getD_fit k1 hm hl
        split at h
        · split at h
          · cases h
          · rename_i a r'
            simp only [Option.some.injEq, Prod.mk.injEq] at h
            obtain ⟨rfl, rfl⟩ := h
            exact ⟨f1.1, f2 a (by simp), f1.2.2⟩
        · simp only [Option.some.injEq, Prod.mk.injEq] at h
          obtain ⟨rfl, rfl⟩ := h
          exact f1
    · split at h
      · exact (getD_fit h hm hl).1
      · split at h
        · exact (getX_fit h hm hl).1
        · simp only [Option.some.injEq, Prod.mk.injEq] at h
          obtain ⟨rfl, rfl⟩ := h
          exact hm
theorem msgG_fit {l r : List ByteArray} {m : Ms} (h : msgG l = some (m, r)) (hl : ∀ x ∈ l, x.size ≤ 16384) : m.Fit ∧ m.kind ≤ 255 := by
  unfold msgG at h
  split at h
  · cases h
  · rename_i w l1
    split at h
    · cases h
    · rename_i k kr
      have hk := kindR_in kr
      have hkk := getP_kind h
      exact ⟨getP_fit h ⟨(by show (0 : Nat) ≤ 16384; decide), (by show (0 : Nat) ≤ 16384; decide), (fun x hx => by cases hx), (by show (0 : Nat) ≤ 32; decide)⟩ (fun x hx => hl x (List.mem_cons_of_mem _ hx)), by rw [hkk]; show k ≤ 255; omega⟩
theorem call_dec2 (args : Array Value) (V : World) : (callFunc 46 args).run Tryz.prog V = .ok (.enter 46 args) V := by kernel_rfl
theorem call_dec1 (args : Array Value) (V : World) : (callFunc 44 args).run Tryz.prog V = .ok (.enter 44 args) V := by kernel_rfl
theorem ms_info (a b c d e f g h i : Value) : (Tryz.prog.info? 26).map (·.size) = some (#[a, b, c, d, e, f, g, h, i].size) := by kernel_rfl
theorem ms_one (m : Ms) (ao : Option Addr) (n cap : Nat) : (msC m (.slice ao n cap)).all (·.oneCell') = true := by simp [msC, Value.oneCell']
/-- A message, or nothing. -/
def msGet (o : Option Ms) : Ms := o.getD (zeroM 0)
/-- What Decode's closure leaves. -/
def RdMs (t : ByteArray) (w : World) (z : Nat) (V : World) : Prop := (z = if (decP t).isSome then 0 else 7) ∧ (∃ v, GAt V (w.heap.size + 1) (msGet (decP t)) v ∧ OwnM V (w.heap.size + 3) v (msGet (decP t)).mem) ∧ Below w.heap.size w V
set_option maxHeartbeats 8000000 in
set_option maxRecDepth 100000 in
theorem dec1_any (t : ByteArray) (ht : t.size ≤ 281474976710656) (w W : World) (hs : W.heap.size = w.heap.size + 3) (hb : Boxed W w.heap.size 9 (.string t)) (h1 : GAt W (w.heap.size + 1) (zeroM 0) (.slice none 0 0)) (h3 : Boxed W (w.heap.size + 2) 30 (.int .i64 0)) (hB : Below w.heap.size w W) :
    Calls Tryz.prog 44 #[ptr12 w.heap.size, ptr12 (w.heap.size + 1)] W (DonePost (w.heap.size + 2) (RdMs t w)) := by
  have c0 := hb.cell
  obtain ⟨W1, hW1⟩ : ∃ V, V = W.alloc (.cells #[.int .u8 0, .int .i64 0, .int .i64 0, .int .i64 0, .int .i64 0, .slice none 0 0, .string ⟨#[]⟩, .bool false, .string ⟨#[]⟩] 26) := ⟨_, rfl⟩
  have s1 : W1.heap.size = w.heap.size + 4 := by rw [hW1]; simp [hs]
  have ba : Below W.heap.size W W1 := by rw [hW1]; exact (Below.refl _ _).alloc (Nat.le_refl _) _
  have gg : GAt W1 W.heap.size (zeroM 0) (.slice none 0 0) := by rw [hW1]; exact Go.heap_alloc_new _ _
  have c1 : W1.cell? ⟨w.heap.size, 0, none⟩ = some (.string t) := (show Boxed W1 w.heap.size 9 (.string t) from (ba.block _ (by omega)).trans hb).cell
  rw [hW1] at c1
  have G1 : GSt W1 W.heap.size (zeroM 0) W1 := ⟨turn_below (Below.refl _ _), _, gg, ownM_nil _ _⟩
  have HR := row12_any t ht 46 #[ptr12 W.heap.size] call_dec2 msgG (GSt W1 W.heap.size) (Turn (· = W.heap.size) W1) W1 (fun V hV => turn_below hV) (fun _ V h => h.1)
    (fun V b hV hN => dec2_any W1 W.heap.size b (by omega) _ V hN (G1.below hV))
  have hz : decP t = match rowR t msgG with | some m => if mayP m = true then some m else none | none => none := rfl
  have hg : ∀ z V, RdMs t w z V ↔ (z = if (decP t).isSome then 0 else 7) ∧ (∃ v, GAt V (w.heap.size + 1) (msGet (decP t)) v ∧ OwnM V (w.heap.size + 3) v (msGet (decP t)).mem) ∧ Below w.heap.size w V := fun _ _ => Iff.rfl
  have KT : ∀ V, Turn (· = W.heap.size) W1 V → Boxed V (w.heap.size + 2) 30 (.int .i64 0) ∧ GAt V (w.heap.size + 1) (zeroM 0) (.slice none 0 0) ∧ Below w.heap.size w V ∧ w.heap.size + 4 ≤ V.heap.size := fun V h =>
    ⟨(h.block _ (by omega) (by omega)).trans ((ba.block _ (by omega)).trans h3), (h1.below ba).turn h (by omega), (below_step hB ba).trans (turn_to h (fun b e => by omega) (by omega)), by have := h.size; omega⟩
  have KT := Lib.hid KT
  have HG := Lib.hid hg
  have HW1 := Lib.hid hW1
  have HS := Lib.hid hs
  have HFIT : Hid (∀ m, rowR t msgG = some m → m.Fit ∧ m.kind ≤ 255) := Lib.hid (fun m h => msgG_fit (rowR_again h).1 (partsB_size t))
  clear hW1 s1 ba gg G1 hb h1 h3 hB hg
  generalize decP t = z at *
  cases hr : rowR t msgG with
  | none =>
    rw [hr] at HR hz
    (try simp only at hz)
    subst hz
    (unfold RowP at HR; dsimp only at HR)
    have HR := Lib.hid HR
    clear hs hr
    go_enter Tryz.func44, Tryz.ntmps44
    go_wp2_with (first | (go_at_call 45; rw [← HW1.out]; refine HR.out.mono ?_; rintro e V ⟨rfl, hT⟩) | fail)
    obtain ⟨k1, k2, k3, k4⟩ := KT.out _ hT
    exact ⟨by first | rfl | trivial, k1, .inr ⟨7, rfl, (HG.out _ _).2 ⟨rfl, ⟨_, k2, ownM_nil _ _⟩, k3⟩⟩⟩
  | some m =>
    rw [hr] at HR hz
    (try simp only at hz)
    (unfold RowP at HR; dsimp only at HR)
    have HR := Lib.hid HR
    obtain ⟨hfit, hkind⟩ := HFIT.out m hr
    have HCK := fun (ao : Option Addr) (cap : Nat) V (hV : MemRow V ao m.mem) => check12_any m hkind ao cap (by have := hfit.1; omega) (by have := hfit.2.1; omega) (fun x hx => Nat.le_trans (hfit.2.2.1 x hx) (by decide)) (by have := hfit.2.2.2; omega) V hV
    clear hs hr hfit hkind
    cases hm : mayP m with
    | false =>
      rw [hm] at HCK hz
      rw [if_neg (by simp)] at hz
      subst hz
      have HCK := Lib.hid HCK
      go_enter Tryz.func44, Tryz.ntmps44
      go_wp2_with (first | (go_at_call 45; rw [← HW1.out]; refine HR.out.mono ?_; rintro e V ⟨rfl, hT, v, hG, hO⟩; obtain ⟨ao, cap, rfl, hrow, -⟩ := ownM_row hO; obtain ⟨x0, x1, x2, x3, x4, x5, x6, x7, x8⟩ := hG.cells) | (go_at_call 11; refine (HCK.out ao cap _ hrow).mono ?_; rintro e V2 ⟨rfl, b2⟩) | (go_at_call 48; refine (needw_bad 7 _).mono ?_; rintro e V3 ⟨rfl, hw⟩; rw [hw]; clear hw V3) | fail)
      obtain ⟨k1, k2, k3, k4⟩ := KT.out _ hT
      exact ⟨by first | rfl | trivial, (b2.block _ (by omega)).trans k1, .inr ⟨7, rfl, (HG.out _ _).2 ⟨rfl, ⟨_, k2.below b2, ownM_nil _ _⟩, below_step k3 b2⟩⟩⟩
    | true =>
      rw [hm] at HCK hz
      rw [if_pos rfl] at hz
      subst hz
      have HCK := Lib.hid HCK
      go_enter Tryz.func44, Tryz.ntmps44
      go_wp2_with (first | (go_at_call 45; rw [← HW1.out]; refine HR.out.mono ?_; rintro e V ⟨rfl, hT, v, hG, hO⟩; obtain ⟨ao, cap, rfl, hrow, -⟩ := ownM_row hO; obtain ⟨x0, x1, x2, x3, x4, x5, x6, x7, x8⟩ := hG.cells) | (go_at_call 11; refine (HCK.out ao cap _ hrow).mono ?_; rintro e V2 ⟨rfl, b2⟩; have hG2 := hG.below b2; obtain ⟨y0, y1, y2, y3, y4, y5, y6, y7, y8⟩ := hG2.cells) | (go_at_call 48; refine (needw_ok 7 _).mono ?_; rintro e V3 ⟨rfl, hw⟩; rw [hw]; clear hw V3) | (refine wpList_store_row rfl 26 _ _ rfl (w.heap.size + 1) (msC m (.slice ao m.mem.length cap)) rfl rfl 26 _ ((KT.out _ hT).2.1.below b2) (ms_info _ _ _ _ _ _ _ _ _) rfl (ms_one _ _ _ _) ?_) | fail)
      obtain ⟨k1, k2, k3, k4⟩ := KT.out _ hT
      have tr := turn_row V2 (w.heap.size + 1) (msC m (.slice ao m.mem.length cap))
      have hlt := b2.size
      have hgs : GAt (V2.setRow (w.heap.size + 1) (msC m (.slice ao m.mem.length cap))) (w.heap.size + 1) m (.slice ao m.mem.length cap) := setRow_heap _ _ _ _ _ _ (k2.below b2)
      have ho2 := ownM_turn (ownM_low (ownM_below hO b2) (show w.heap.size + 3 ≤ W1.heap.size by rw [HW1.out, World.size_alloc, HS.out]; omega)) tr (fun k e => by omega)
      have HEND := Lib.hid (show DonePost (w.heap.size + 2) (RdMs t w) (.returned (.tuple #[])) (V2.setRow (w.heap.size + 1) (msC m (.slice ao m.mem.length cap))) from ⟨(tr.block _ (by omega) (by omega)).trans ((b2.block _ (by omega)).trans k1), .inl ⟨rfl, (HG.out _ _).2 ⟨rfl, ⟨_, hgs, ho2⟩, (below_step k3 b2).trans (turn_to tr (fun b e => by omega) (by omega))⟩⟩⟩)
      go_end0
      exact HEND.out
end Go.Proofs.YthemopejebioaaaGreat.Pl

namespace Go.Proofs.YthemopejebioaaaGreat.Pl
open Go.RowKit

set_option maxHeartbeats 8000000 in
set_option maxRecDepth 100000 in
theorem dec12_any (t : ByteArray) (ht : t.size ≤ 281474976710656) (w : World) : Calls Tryz.prog 16 #[.string t] w fun x w' => (∃ ao cap, x = .returned (.tuple #[.agg (msC (msGet (decP t)) (.slice ao (msGet (decP t)).mem.length cap)), .int .i64 ((if (decP t).isSome then 0 else 7 : Nat) : Int)]) ∧ OwnM w' w.heap.size (.slice ao (msGet (decP t)).mem.length cap) (msGet (decP t)).mem) ∧ Below w.heap.size w w' := by
  obtain ⟨W0, hW0⟩ : ∃ V, V = (w.alloc (.cells #[.string t] 9)).alloc (.cells #[.int .u8 0, .int .i64 0, .int .i64 0, .int .i64 0, .int .i64 0, .slice none 0 0, .string ⟨#[]⟩, .bool false, .string ⟨#[]⟩] 26) := ⟨_, rfl⟩
  have sz : W0.heap.size = w.heap.size + 2 := by rw [hW0]; simp
  have hb : Boxed W0 w.heap.size 9 (.string t) := by rw [hW0]; exact (Boxed.new w _ _).alloc _
  have h1 : GAt W0 (w.heap.size + 1) (zeroM 0) (.slice none 0 0) := by
    rw [hW0]
    have := Go.heap_alloc_new (w.alloc (.cells #[.string t] 9)) (.cells #[.int .u8 0, .int .i64 0, .int .i64 0, .int .i64 0, .int .i64 0, .slice none 0 0, .string ⟨#[]⟩, .bool false, .string ⟨#[]⟩] 26)
    rwa [World.size_alloc] at this
  have B0 : Below w.heap.size w W0 := by rw [hW0]; exact ((Below.refl _ w).alloc (Nat.le_refl _) _).alloc (by simp) _
  have ba := (Below.refl W0.heap.size W0).alloc (Nat.le_refl _) (.cells #[.int .i64 0] 30)
  have h3 : Boxed (W0.alloc (.cells #[.int .i64 0] 30)) (w.heap.size + 2) 30 (.int .i64 0) := by rw [← sz]; exact Boxed.new _ _ _
  have HC := caught_any 44 #[ptr12 w.heap.size, ptr12 (w.heap.size + 1)] call_dec1 W0 (RdMs t w) (by
    rw [sz]
    exact dec1_any t ht w _ (by simp [sz]) ((ba.block _ (by omega)).trans hb) (h1.below ba) h3 (below_step B0 ba))
  rw [sz] at HC
  have HC2 : Calls Tryz.prog 34 #[.func (.func 44) #[] #[ptr12 w.heap.size, ptr12 (w.heap.size + 1)]] W0 (fun x V => x = .returned (.int .i64 ((if (decP t).isSome then 0 else 7 : Nat) : Int)) ∧ (∃ v, GAt V (w.heap.size + 1) (msGet (decP t)) v ∧ OwnM V (w.heap.size + 2) v (msGet (decP t)).mem) ∧ Below w.heap.size w V) := by
    refine HC.mono ?_
    rintro e V ⟨z, V1, rfl, ⟨rfl, ⟨v, hv, ho⟩, bV⟩, rfl⟩
    have tc := turn_cell V1 (w.heap.size + 2) 0 (.int .i64 ((if (decP t).isSome then 0 else 7 : Nat) : Int))
    exact ⟨rfl, ⟨v, hv.turn tc (by omega), ownM_low (ownM_turn ho tc (fun k e => by omega)) (by omega)⟩, bV.trans (turn_to tc (fun b e => by omega) bV.size)⟩
  clear HC
  generalize (if (decP t).isSome then 0 else 7 : Nat) = z at *
  generalize msGet (decP t) = m at *
  have HW0 := Lib.hid hW0
  have HC := Lib.hid HC2
  clear hW0 sz hb h1 B0 ba h3 HC2
  go_enter Tryz.func16, Tryz.ntmps16
  go_wp2_with (first | (go_at_call 34; rw [← HW0.out]; refine HC.out.mono ?_; rintro e1 V ⟨rfl, ⟨v, hG, hO⟩, bV⟩; obtain ⟨ao, cap, rfl, -⟩ := ownM_row hO; obtain ⟨x0, x1, x2, x3, x4, x5, x6, x7, x8⟩ := hG.cells) | (refine wpList_store_row rfl 26 _ _ rfl (w.heap.size + 1) (msC m (.slice ao m.mem.length cap)) rfl rfl 26 _ hG (ms_info _ _ _ _ _ _ _ _ _) rfl (ms_one _ _ _ _) ?_) | fail)
  have tr := turn_row V (w.heap.size + 1) (msC m (.slice ao m.mem.length cap))
  have hgs : GAt (V.setRow (w.heap.size + 1) (msC m (.slice ao m.mem.length cap))) (w.heap.size + 1) m (.slice ao m.mem.length cap) := setRow_heap _ _ _ _ _ _ hG
  refine bodyPost_ret (results_row_tmp (fn := Tryz.f16) (p := 2) (u := 3) (ty := 26) rfl _ _ (w.heap.size + 1) 26 (msC m (.slice ao m.mem.length cap)) (0, 0) _ rfl hgs Tryz.underlying26 rfl (ms_info _ _ _ _ _ _ _ _ _)) rfl ?_
  exact ⟨⟨_, _, rfl, ownM_low (ownM_turn hO tr (fun k e => by omega)) (by omega)⟩, bV.trans (turn_to tr (fun b e => by omega) bV.size)⟩
end Go.Proofs.YthemopejebioaaaGreat.Pl

namespace Go.Proofs.YthemopejebioaaaGreat.Pl
open Go.RowKit

theorem appT12_run {W : World} {B : Nat} {v : Value} {l m : List ByteArray} {ao : Option Addr} {cap : Nat} (hown : OwnT W B v l) (hB : B ≤ W.heap.size) (hrow : TxtRow W ao m) (hp : ao = none → cap = 0) (hl : l.length + m.length ≤ 1000000) :
    ∃ v' w', (Builtin.append_ #[53, 53] 53 #[v, .slice ao m.length cap]).run Tryz.prog W = .ok v' w' ∧ OwnT w' B v' (l ++ m) ∧ W.grownBy w' v.ownBlock := by
  obtain ⟨i0, hi, hz0, hz1, hz2⟩ := info_parts infoStr
  cases ao with
  | none =>
    have h0 : m = [] := by
      rcases hrow with h0 | ⟨b, off, hb, _⟩
      · exact h0
      · cases hb
    subst h0
    obtain rfl := hp rfl
    have hr := run_append_owned_none (P := Tryz.prog) (w := W) B 53 53 9 i0 1 Tryz.underlying53 hi v l.length _ hown
    exact ⟨v, W, hr, by rw [List.append_nil]; exact hown, ⟨rfl, rfl, rfl, Nat.le_refl _, fun _ _ _ => rfl⟩⟩
  | some ad =>
    have hcell : ∀ j u, (txts m)[j]? = some u → W.cell? (ad.add j) = some u := by
      intro j u hu
      have hj := (List.getElem?_eq_some_iff.1 hu).1
      rw [txts_length] at hj
      rcases hrow with h0 | ⟨b, off, hb, hlt, hc⟩
      · subst h0; simp at hj
      · cases hb
        rw [add12, hc j hj, ← txts_at m j hj, hu]
    have hone : ∀ u ∈ txts m, u.oneCell' = true := by
      intro u hu
      obtain ⟨x, _, rfl⟩ := List.mem_map.1 hu
      rfl
    obtain ⟨v', w', hr, g1, g2, _⟩ := run_append_own (P := Tryz.prog) W B 53 53 9 i0 (.string ⟨#[]⟩) 1 16 Tryz.underlying53 hi hz0 hz1 hz2 (by rfl) (by decide) v l.length _ hown ad m.length cap (txts m) (by rw [txts_length, Nat.mul_one]) hcell hone (by unfold maxLen; omega) (by omega) hB
    refine ⟨v', w', hr, ?_, g2⟩
    unfold OwnT
    rw [List.length_append, show txts (l ++ m) = txts l ++ txts m from List.map_append]
    exact g1
theorem wpList_appT {ops : Array Oper} {rest : List Oper} {o : Oper} {a : Act} {Q : Exit → Act → World → Prop} {W : World} (hgd : o.guard = none) (s x : Operand)
    (ho : o.op = .call { callee := .builtin .append, args := #[s, x], argTypes := #[53, 53] }) (hty : o.type = 53) {B : Nat} {v : Value} {l m : List ByteArray} {ao : Option Addr} {cap : Nat} (hs : a.eval s = v) (hx : a.eval x = .slice ao m.length cap)
    (hown : OwnT W B v l) (hB : B ≤ W.heap.size) (hrow : TxtRow W ao m) (hp : ao = none → cap = 0) (hl : l.length + m.length ≤ 1000000)
    (K : ∀ v' w', OwnT w' B v' (l ++ m) → W.grownBy w' v.ownBlock → wpList Tryz.prog ops Q rest (a.put o.dst v') w') : wpList Tryz.prog ops Q (o :: rest) a W := by
  obtain ⟨v', w', hr, h2, h3⟩ := appT12_run hown hB hrow hp hl
  refine wpList_plain hgd fun K' hK' => ?_
  unfold Oper.wp execOp
  simp only [ho, hty, resolve, invoke, builtin, Sem.run_bind, Sem.run_pure, Result.andThen_ok, List.map_toArray, List.map_cons, List.map_nil, hs, hx, hr]
  exact hK' _ _ (K v' w' h2 h3)
theorem wpOp_appT {ops : Array Oper} {o : Oper} {a : Act} {K : Act → World → Prop} {Q : Exit → Act → World → Prop} {W : World} (hw : Region.wanted o (yielded ops a.tmps) = true) (s x : Operand)
    (ho : o.op = .call { callee := .builtin .append, args := #[s, x], argTypes := #[53, 53] }) (hty : o.type = 53) {B : Nat} {v : Value} {l m : List ByteArray} {ao : Option Addr} {cap : Nat} (hs : a.eval s = v) (hx : a.eval x = .slice ao m.length cap)
    (hown : OwnT W B v l) (hB : B ≤ W.heap.size) (hrow : TxtRow W ao m) (hp : ao = none → cap = 0) (hl : l.length + m.length ≤ 1000000)
    (h : ∀ v' w', OwnT w' B v' (l ++ m) → W.grownBy w' v.ownBlock → K (a.put o.dst v') w') :
    if Region.wanted o (yielded ops a.tmps) = true then Oper.wp Tryz.prog o a W K Q else K (a.put o.dst undef) W := by
  obtain ⟨v', w', hr, h2, h3⟩ := appT12_run hown hB hrow hp hl
  rw [if_pos hw]
  unfold Oper.wp execOp
  simp only [ho, hty, resolve, invoke, builtin, Sem.run_bind, Sem.run_pure, Result.andThen_ok, List.map_toArray, List.map_cons, List.map_nil, hs, hx, hr]
  exact h v' w' h2 h3
theorem txt_one (V : World) (x : ByteArray) : TxtRow (V.alloc (.cells #[.string x] 9)) (some ⟨V.heap.size, 0, none⟩) [x] := by
  have h := Go.heap_alloc_new V (.cells #[.string x] 9)
  refine .inr ⟨V.heap.size, 0, rfl, by simp, fun j hj => ?_⟩
  obtain rfl : j = 0 := by simpa using hj
  exact cell_of_row _ _ _ _ _ _ h
theorem txt_two12 (V : World) (x y : ByteArray) : TxtRow (V.alloc (.cells #[.string x, .string y] 9)) (some ⟨V.heap.size, 0, none⟩) [x, y] := by
  have h := Go.heap_alloc_new V (.cells #[.string x, .string y] 9)
  refine .inr ⟨V.heap.size, 0, rfl, by simp, fun j hj => ?_⟩
  have : j = 0 ∨ j = 1 := by simp at hj; omega
  rcases this with rfl | rfl <;> exact cell_of_row _ _ _ _ _ _ h
theorem txt_three (V : World) (x y z : ByteArray) : TxtRow (V.alloc (.cells #[.string x, .string y, .string z] 9)) (some ⟨V.heap.size, 0, none⟩) [x, y, z] := by
  have h := Go.heap_alloc_new V (.cells #[.string x, .string y, .string z] 9)
  refine .inr ⟨V.heap.size, 0, rfl, by simp, fun j hj => ?_⟩
  have : j = 0 ∨ j = 1 ∨ j = 2 := by simp at hj; omega
  rcases this with rfl | rfl | rfl <;> exact cell_of_row _ _ _ _ _ _ h
theorem ownT_blk {w : World} {B : Nat} {v : Value} {l : List ByteArray} (h : OwnT w B v l) : ∀ k, v.ownBlock = some k → B ≤ k := by
  intro k e
  rcases h.2 with ⟨rfl, _⟩ | ⟨g, cap, cur, rfl, hbg, _⟩
  · cases e
  · obtain rfl : g = k := Option.some.inj e
    exact hbg
/-- A row of numbers. -/
def IntR (w : World) (ao : Option Addr) (l : List Int) : Prop := ∃ b off, ao = some ⟨b, off, none⟩ ∧ b < w.heap.size ∧ ∀ j, (hj : j < l.length) → w.cell? ⟨b, off + j, none⟩ = some (.int .i64 l[j])
theorem IntR.below {w w' : World} {ao : Option Addr} {l : List Int} (h : IntR w ao l) (hb : Below w.heap.size w w') : IntR w' ao l := by
  obtain ⟨b, off, e, hlt, hc⟩ := h
  exact ⟨b, off, e, Nat.lt_of_lt_of_le hlt hb.size, fun j hj => (hb.cell (p := ⟨b, off + j, none⟩) hlt).trans (hc j hj)⟩
def numT (v : Int) : ByteArray := tb (numP v).1
set_option maxHeartbeats 4000000 in
set_option maxRecDepth 100000 in
theorem numbers_any (c e q : Int) (hm : mayX c e q = true) (ao : Option Addr) (cap : Nat) (w : World) (hrow : IntR w ao [c, e, q]) :
    Calls Tryz.prog 53 #[.slice ao 3 cap] w fun x w' => x = .returned (.string (tb (txnT c e q))) ∧ Below w.heap.size w w' := by
  obtain ⟨h1, h2, h3⟩ := mayX_iff.1 hm
  obtain ⟨t1, -⟩ := txn_ok hm
  have hnum : ∀ v ∈ [c, e, q], -9223372036854775808 ≤ v ∧ v ≤ 9223372036854775807 ∧ numP v = ((numP v).1, 0) ∧ (numT v).size ≤ 19 := by
    intro v hv
    have hv2 : 0 ≤ v ∧ v ≤ 2147483647 := by
      simp only [List.mem_cons, List.not_mem_nil, or_false] at hv
      rcases hv with rfl | rfl | rfl <;> omega
    obtain ⟨n1, n2, -⟩ := num_ok hv2.1 hv2.2
    exact ⟨by omega, by omega, Prod.ext rfl n1, by unfold numT tb; rw [size_lit]; exact n2⟩
  have HL : Hid (∀ bo bc V, 3 ≤ bc → TxtRow V bo ([c, e, q].map numT) → Calls Tryz.prog 56 #[.slice bo 3 bc] V fun x w' => x = .returned (.tuple #[.string (tb (txnT c e q)), .int .i64 0]) ∧ Below V.heap.size V w') := Lib.hid (fun bo bc V hbc hV => by
    have h := row6_any ([c, e, q].map numT) bo bc (by simpa using hbc) (by simp) (fun x hx => by
      obtain ⟨v, hv, rfl⟩ := List.mem_map.1 hx
      have := (hnum v hv).2.2.2
      omega) V hV
    have e : rowP (([c, e, q].map numT).map bl) = (txnT c e q, 0) := t1
    rw [e] at h
    exact h)
  have HNUM := Lib.hid hnum
  have HROW := Lib.hid (fun V (hV : Below w.heap.size w V) => hrow.below hV)
  clear hrow hnum t1 h1 h2 h3 hm
  obtain ⟨li, hli⟩ : ∃ li, li = [c, e, q] := ⟨_, rfl⟩
  rw [← hli] at HROW HNUM HL
  have h3 : Hid (li.length = 3) := Lib.hid (by rw [hli]; rfl)
  generalize tb (txnT c e q) = res at *
  clear hli
  go_enter Tryz.func53, Tryz.ntmps53
  go_wp2_with fail
  go_loopw [8, 3] (fun iv pv wr => ∃ j : Nat, iv = .int .i64 j ∧ j ≤ 3 ∧ Hid (OwnT wr w.heap.size pv ((li.take j).map numT)) ∧ Hid (Below w.heap.size w wr)) (fun iv _ _ => 3 - (intOf iv).toNat)
  case atStart => exact ⟨0, rfl, by decide, Lib.hid (ownT_nil _ _), Lib.hid (Below.refl _ _)⟩
  case round =>
    obtain ⟨j, rfl, hj3, hown, hb⟩ := hrel
    by_cases hj : j < 3
    · have hj' : (j : Int) < 3 := by omega
      have hjl : j < li.length := by rw [h3.out]; exact hj
      obtain ⟨b, off, rfl, hlt, hcs⟩ := HROW.out _ hb.out
      have x0 := hcs j hjl
      obtain ⟨n1, n2, n3, n4⟩ := HNUM.out _ (List.getElem_mem hjl)
      have HN := fun V => num6_any li[j] n1 n2 V
      have HTK : Hid ((li.take (j + 1)).map numT = (li.take j).map numT ++ [numT li[j]]) := Lib.hid (by rw [List.take_succ_eq_append_getElem hjl, List.map_append]; rfl)
      rw [n3, show st2 ((numP li[j]).1, 0) = .tuple #[.string (numT li[j]), .int .i64 0] from rfl] at HN
      have HN := Lib.hid HN
      have HLN : Hid (((li.take j).map numT).length ≤ 3) := Lib.hid (by rw [List.length_map, List.length_take]; omega)
      generalize numT li[j] = y at *
      generalize li[j] = v at *
      clear n3 n4 hcs hjl
      go_wp2_with (first | (go_at_call 57; refine (HN.out _).mono ?_; rintro e w1 ⟨rfl, b1⟩) | (go_at_call 55; refine (made12_ok _ _).mono ?_; rintro e w2 ⟨rfl, hw⟩; rw [hw]; clear hw w2) | (at_builtin; refine wpList_appT (B := w.heap.size) (l := (li.take j).map numT) (m := [y]) (ao := some ⟨w1.heap.size, 0, none⟩) (cap := 1) rfl _ _ rfl rfl rfl rfl (ownT_below (ownT_below hown.out b1) ((Below.refl _ _).alloc (Nat.le_refl _) _)) (by have := b1.size; have := hb.out.size; rw [World.size_alloc]; omega) (txt_one w1 y) (by intro e; cases e) (by have := HLN.out; simp only [List.length_cons, List.length_nil]; omega) ?_; intro v' w' ho' hg'; have HO' := Lib.hid ho'; have HB' := Lib.hid (((hb.out.trans (b1.mono hb.out.size)).alloc (by have := b1.size; have := hb.out.size; omega) (.cells #[.string y] 9)).grown hg' (by have := b1.size; have := hb.out.size; rw [World.size_alloc]; omega) (ownT_blk hown.out)); clear ho' hg') | fail)
      go_roundw
      case rel => exact ⟨j + 1, by go_num, by omega, Lib.hid (by rw [HTK.out]; exact HO'.out), HB'⟩
      case measure => simp [intOf]; omega
    · obtain rfl : j = 3 := by omega
      have hown2 := hown.out
      rw [List.take_of_length_le (by rw [h3.out]; exact Nat.le_refl _)] at hown2
      obtain ⟨bo, bcap, rfl, hc, hr, _⟩ := own_shape12 hown2
      have hl3 : (li.map numT).length = 3 := by rw [List.length_map]; exact h3.out
      rw [hl3] at hc ⊢
      have HC := Lib.hid hc
      have HR := Lib.hid hr
      clear hown hown2 hr hc
      go_wp2_with (first | (go_at_call 56; refine (HL.out _ _ _ HC.out HR.out).mono ?_; rintro e w1 ⟨rfl, b1⟩) | (go_at_call 55; refine (made12_ok _ _).mono ?_; rintro e w2 ⟨rfl, hw⟩; rw [hw]; clear hw w2) | fail)
      go_ret
      exact ⟨rfl, below_step hb.out b1⟩
end Go.Proofs.YthemopejebioaaaGreat.Pl

namespace Go.Proofs.YthemopejebioaaaGreat.Pl
open Go.RowKit

theorem int_three (V : World) (c e q : Int) : IntR (V.alloc (.cells #[.int .i64 c, .int .i64 e, .int .i64 q] 3)) (some ⟨V.heap.size, 0, none⟩) [c, e, q] := by
  have h := Go.heap_alloc_new V (.cells #[.int .i64 c, .int .i64 e, .int .i64 q] 3)
  refine ⟨V.heap.size, 0, rfl, by simp, fun j hj => ?_⟩
  have : j = 0 ∨ j = 1 ∨ j = 2 := by simp at hj; omega
  rcases this with rfl | rfl | rfl <;> exact cell_of_row _ _ _ _ _ _ h
/-- A transaction's term, or why there is none. -/
def txP (c e q : Int) : List UInt8 × Nat := if mayX c e q = true then (txnT c e q, 0) else ([], 2)
set_option maxHeartbeats 4000000 in
set_option maxRecDepth 100000 in
theorem txn12x_any (c e q : Int) (w : World) : Calls Tryz.prog 19 #[.agg #[.int .i64 c, .int .i64 e, .int .i64 q]] w fun x w' => x = .returned (st2 (txP c e q)) ∧ Below w.heap.size w w' := by
  have HM := fun V => maytxn_any c e q V
  obtain ⟨W0, hW0⟩ : ∃ V, V = w.alloc (.cells #[.int .i64 c, .int .i64 e, .int .i64 q] 23) := ⟨_, rfl⟩
  have X0 := Lib.hid (show XAt W0 w.heap.size c e q from hW0 ▸ xat_new w c e q)
  have B0 := Lib.hid (show Below w.heap.size w W0 from hW0 ▸ (Below.refl _ _).alloc (Nat.le_refl _) _)
  have HW0 := Lib.hid hW0
  clear hW0
  unfold txP
  cases hm : mayX c e q with
  | false =>
    rw [hm] at HM
    rw [if_neg (by simp)]
    have HM := Lib.hid HM
    go_enter Tryz.func19, Tryz.ntmps19
    go_wp2_with (first | (go_at_call 23; rw [← HW0.out]; refine (HM.out _).mono ?_; rintro e1 V ⟨rfl, b1⟩) | fail)
    go_ret2
    exact ⟨rfl, below_step B0.out b1⟩
  | true =>
    have HNB := Lib.hid (fun ao cap V hV => numbers_any c e q hm ao cap V hV)
    rw [hm] at HM
    rw [if_pos rfl, show st2 (txnT c e q, 0) = .tuple #[.string (tb (txnT c e q)), .int .i64 0] from rfl]
    have HM := Lib.hid HM
    clear hm
    generalize tb (txnT c e q) = res at *
    go_enter Tryz.func19, Tryz.ntmps19
    go_wp2_with (first | (go_at_call 23; rw [← HW0.out]; refine (HM.out _).mono ?_; rintro e1 V ⟨rfl, b1⟩; obtain ⟨x0, x1, x2, -⟩ := (X0.out.below b1).cells) | (go_at_call 53; refine (HNB.out _ _ _ (int_three V c e q)).mono ?_; rintro e2 V2 ⟨rfl, b2⟩) | fail)
    go_ret2
    exact ⟨rfl, below_step ((below_step B0.out b1).alloc (by have := b1.size; have := B0.out.size; omega) _) b2⟩
/-- What the parts of a message are to be. -/
def PutP (w : World) (l : List ByteArray) : Ending → World → Prop := fun e w' => (∃ v, e = .returned v ∧ OwnT w' w.heap.size v l) ∧ Below w.heap.size w w'
set_option maxHeartbeats 4000000 in
set_option maxRecDepth 100000 in
theorem puttxn_any (m : Ms) (hx : mayX m.c m.e m.q = true) (v : Value) (w : World) : Calls Tryz.prog 77 #[.agg (msC m v)] w (PutP w [tb (txnT m.c m.e m.q)]) := by
  have HT := fun V => txn12x_any m.c m.e m.q V
  rw [show txP m.c m.e m.q = (txnT m.c m.e m.q, 0) by unfold txP; rw [if_pos hx], show st2 (txnT m.c m.e m.q, 0) = .tuple #[.string (tb (txnT m.c m.e m.q)), .int .i64 0] from rfl] at HT
  have HT := Lib.hid HT
  have B0 := Lib.hid ((Below.refl w.heap.size w).alloc (Nat.le_refl _) (.cells (msC m v) 26))
  obtain ⟨k, c, e, q, aud, mem, body, yes, tag⟩ := m
  dsimp only [msC] at *
  generalize tb (txnT c e q) = res at *
  clear hx
  go_enter Tryz.func77, Tryz.ntmps77
  go_wp2_with (first | (go_at_call 19; refine (HT.out _).mono ?_; rintro e1 V ⟨rfl, b1⟩) | (go_at_call 55; refine (made12_ok _ _).mono ?_; rintro e w2 ⟨rfl, hw⟩; rw [hw]; clear hw w2) | fail)
  go_ret
  have b2 := below_step B0.out b1
  exact ⟨⟨_, rfl, ownT_low (ownT_one V res) b2.size⟩, b2.alloc b2.size _⟩
theorem bit_any (b : Bool) (w : World) : Calls Tryz.prog 107 #[.bool b] w fun x w' => x = .returned (.int .i64 (bitP b)) ∧ w' = w := by
  cases b <;> (go_enter Tryz.func107, Tryz.ntmps107; go_wp2_with fail; go_ret; exact ⟨rfl, rfl⟩)
end Go.Proofs.YthemopejebioaaaGreat.Pl

namespace Go.Proofs.YthemopejebioaaaGreat.Pl
open Go.RowKit

theorem num12_any (v : Int) (h0 : 0 ≤ v) (h1 : v ≤ 2147483647) (w : World) : Calls Tryz.prog 57 #[.int .i64 v] w fun e w' => e = .returned (.tuple #[.string (numT v), .int .i64 0]) ∧ Below w.heap.size w w' := by
  have h := num6_any v (by omega) (by omega) w
  rw [show numP v = ((numP v).1, 0) from Prod.ext rfl (num_ok h0 h1).1] at h
  exact h
theorem numT_size {v : Int} (h0 : 0 ≤ v) (h1 : v ≤ 2147483647) : (numT v).size ≤ 19 := by
  unfold numT tb
  rw [size_lit]
  exact (num_ok h0 h1).2.1
/-- Behind an append of texts that were laid out just before. -/
theorem app_grown12 {B : Nat} {w V w' : World} {v : Value} {l : List ByteArray} {o : Obj} (hB : Below B w V) (hs : B ≤ V.heap.size) (hown : OwnT V B v l) (hg : (V.alloc o).grownBy w' v.ownBlock) : Below B w w' :=
  (hB.alloc hs o).grown hg (by rw [World.size_alloc]; omega) (ownT_blk hown)
theorem GAt.grown {V w' : World} {B g : Nat} {m : Ms} {v u : Value} {l : List ByteArray} (h : GAt V g m u) (hown : OwnT V B v l) (hB : g < B) (hg : V.grownBy w' v.ownBlock) : GAt w' g m u :=
  (hg.block g h.lt (fun e => by have := ownT_blk hown g e.symm; omega)).trans h

set_option maxHeartbeats 8000000 in
set_option maxRecDepth 100000 in
theorem putdec_any (m : Ms) (hx : mayX m.c m.e m.q = true) (ao : Option Addr) (n cap : Nat) (w : World) : Calls Tryz.prog 74 #[.agg (msC m (.slice ao n cap))] w (PutP w [tb (txnT m.c m.e m.q), numT (bitP m.yes)]) := by
  have HPX := Lib.hid (fun V => puttxn_any m hx (.slice ao n cap) V)
  have HBT := Lib.hid (fun V => bit_any m.yes V)
  have HNM := Lib.hid (fun V => num12_any (bitP m.yes) (by cases m.yes <;> decide) (by cases m.yes <;> decide) V)
  obtain ⟨W0, hW0⟩ : ∃ V, V = w.alloc (.cells (msC m (.slice ao n cap)) 26) := ⟨_, rfl⟩
  have g0 : GAt W0 w.heap.size m (.slice ao n cap) := by rw [hW0]; exact gat_new _ _ _
  have b0 : Below w.heap.size w W0 := by rw [hW0]; exact (Below.refl _ _).alloc (Nat.le_refl _) _
  have GG := Lib.hid (g0.below (drew12 W0))
  have BB := Lib.hid (below_step b0 (drew12 W0))
  have HCE : Hid (∀ V, GAt V w.heap.size m (.slice ao n cap) → V.cell? ⟨w.heap.size, 0, none⟩ = some (.int .u8 m.kind) ∧ V.cell? ⟨w.heap.size, 1, none⟩ = some (.int .i64 m.c) ∧ V.cell? ⟨w.heap.size, 2, none⟩ = some (.int .i64 m.e) ∧ V.cell? ⟨w.heap.size, 3, none⟩ = some (.int .i64 m.q) ∧ V.cell? ⟨w.heap.size, 4, none⟩ = some (.int .i64 m.aud) ∧ V.cell? ⟨w.heap.size, 5, none⟩ = some (.slice ao n cap) ∧ V.cell? ⟨w.heap.size, 6, none⟩ = some (.string m.body) ∧ V.cell? ⟨w.heap.size, 7, none⟩ = some (.bool m.yes) ∧ V.cell? ⟨w.heap.size, 8, none⟩ = some (.string m.tag)) := Lib.hid (fun V h => h.cells)
  have KS := HCE.out _ GG.out
  have HW0 := Lib.hid hW0
  clear hW0 g0 b0 hx
  generalize tb (txnT m.c m.e m.q) = tx at *
  generalize numT (bitP m.yes) = nb at *
  generalize bitP m.yes = bv at *
  go_enter Tryz.func74, Tryz.ntmps74
  go_wp2_with fail
  rw [← HW0.out]
  clear HW0
  refine wp_region_held_drew (S := fun W => W.cell? ⟨w.heap.size, 0, none⟩ = some (.int .u8 m.kind) ∧ W.cell? ⟨w.heap.size, 1, none⟩ = some (.int .i64 m.c) ∧ W.cell? ⟨w.heap.size, 2, none⟩ = some (.int .i64 m.e) ∧ W.cell? ⟨w.heap.size, 3, none⟩ = some (.int .i64 m.q) ∧ W.cell? ⟨w.heap.size, 4, none⟩ = some (.int .i64 m.aud) ∧ W.cell? ⟨w.heap.size, 5, none⟩ = some (.slice ao n cap) ∧ W.cell? ⟨w.heap.size, 6, none⟩ = some (.string m.body) ∧ W.cell? ⟨w.heap.size, 7, none⟩ = some (.bool m.yes) ∧ W.cell? ⟨w.heap.size, 8, none⟩ = some (.string m.tag)) (by kernel_rfl) (by first | assumption | exact KS) (fun hHeld => ?_)
  have HLT : Hid (w.heap.size + 1 ≤ W0.drew.heap.size) := Lib.hid GG.out.lt
  generalize W0.drew = wz at *
  refine wpAnyH_take (i := 0) (oi := { dst := some 3, op := Op.load 26 (Operand.tmp 1), type := 26, pos := "wire.go:231", after := #[], guard := none }) (v := ?_) rfl (by kernel_rfl) (by kernel_rfl) (by kernel_rfl) (fun _ _ _ h => h) (Or.inl ⟨by rfl, ?_⟩) (by assumption) ?_
  rotate_left 1
  · (intro w hSw; (try dsimp only at hSw); go_simp; try with_reducible rfl)
  (try simp only [Act.put, List.setIfInBounds_toArray, List.set_cons_zero, List.set_cons_succ])
  refine wpAnyH_take (i := 2) (oi := { dst := some 5, op := Op.fieldAddr 26 (Operand.tmp 1) 5, type := 0, pos := "wire.go:231", after := #[], guard := none }) (v := ?_) rfl (by kernel_rfl) (by kernel_rfl) (by kernel_rfl) (fun _ _ _ h => h) (Or.inl ⟨by rfl, ?_⟩) (by assumption) ?_
  rotate_left 1
  · (intro w hSw; (try dsimp only at hSw); go_simp; try with_reducible rfl)
  (try simp only [Act.put, List.setIfInBounds_toArray, List.set_cons_zero, List.set_cons_succ])
  refine wpAnyH_take (i := 3) (oi := { dst := some 6, op := Op.load 4 (Operand.tmp 5), type := 4, pos := "wire.go:231", after := #[{ on := 2, ground := Ground.data }], guard := none }) (v := ?_) rfl (by kernel_rfl) (by kernel_rfl) (by kernel_rfl) (fun _ _ _ h => h) (Or.inl ⟨by rfl, ?_⟩) (by assumption) ?_
  rotate_left 1
  · (intro w hSw; (try dsimp only at hSw); go_simp; try with_reducible rfl)
  (try simp only [Act.put, List.setIfInBounds_toArray, List.set_cons_zero, List.set_cons_succ])
  refine wpAnyH_ready (rs := [1]) (by kernel_rfl) (by simp) ?_
  refine AllReadyH.cons (o := { dst := some 4, op := Op.call { callee := Callee.value (Operand.func 77), args := #[Operand.tmp 3], argTypes := #[26] }, type := 53, pos := "wire.go:231", after := #[{ on := 0, ground := Ground.data }], guard := none }) rfl (fun K hK => ?_) AllReadyH.nil
  go_simp
  refine (HPX.out _).mono ?_; rintro e w1 ⟨⟨pv, rfl, ho⟩, b1⟩
  have GG := Lib.hid (GG.out.below b1)
  have OO := Lib.hid (ownT_low ho HLT.out)
  have BB := Lib.hid (below_step BB.out b1)
  clear ho b1
  refine hK.out _ _ (HCE.out _ GG.out) (fun hHeld => ?_)
  clear hK K
  (try simp only [Act.put, List.setIfInBounds_toArray, List.set_cons_zero, List.set_cons_succ])
  refine wpAnyH_ready (rs := [4]) (by kernel_rfl) (by simp) ?_
  refine AllReadyH.cons (o := { dst := some 7, op := Op.call { callee := Callee.value (Operand.func 107), args := #[Operand.tmp 6], argTypes := #[4] }, type := 3, pos := "wire.go:231", after := #[{ on := 3, ground := Ground.data }, { on := 1, ground := Ground.chain }], guard := none }) rfl (fun K hK => ?_) AllReadyH.nil
  go_simp
  refine (HBT.out _).mono ?_; rintro e w2 ⟨rfl, hw⟩; rw [hw]; clear hw w2
  refine hK.out _ _ (HCE.out _ GG.out) (fun hHeld => ?_)
  clear hK K
  (try simp only [Act.put, List.setIfInBounds_toArray, List.set_cons_zero, List.set_cons_succ])
  refine wpAnyH_ready (rs := [5]) (by kernel_rfl) (by simp) ?_
  refine AllReadyH.cons (o := { dst := some 8, op := Op.call { callee := Callee.value (Operand.func 57), args := #[Operand.tmp 7], argTypes := #[3] }, type := 31, pos := "wire.go:231", after := #[{ on := 4, ground := Ground.data }, { on := 4, ground := Ground.chain }], guard := none }) rfl (fun K hK => ?_) AllReadyH.nil
  go_simp
  refine (HNM.out _).mono ?_; rintro e w3 ⟨rfl, b3⟩
  have GG := Lib.hid (GG.out.below b3)
  have OO := Lib.hid (ownT_below OO.out b3)
  have BB := Lib.hid (below_step BB.out b3)
  clear b3
  refine hK.out _ _ (HCE.out _ GG.out) (fun hHeld => ?_)
  clear hK K
  (try simp only [Act.put, List.setIfInBounds_toArray, List.set_cons_zero, List.set_cons_succ])
  refine wpAnyH_take (i := 6) (oi := { dst := some 9, op := Op.extract (Operand.tmp 8) 0, type := 9, pos := "wire.go:231", after := #[{ on := 5, ground := Ground.data }], guard := none }) (v := ?_) rfl (by kernel_rfl) (by kernel_rfl) (by kernel_rfl) (fun _ _ _ h => h) (Or.inl ⟨by rfl, ?_⟩) (by assumption) ?_
  rotate_left 1
  · (intro w hSw; (try dsimp only at hSw); go_simp; try with_reducible rfl)
  (try simp only [Act.put, List.setIfInBounds_toArray, List.set_cons_zero, List.set_cons_succ])
  refine wpAnyH_take (i := 7) (oi := { dst := some 10, op := Op.extract (Operand.tmp 8) 1, type := 30, pos := "wire.go:231", after := #[{ on := 5, ground := Ground.data }], guard := none }) (v := ?_) rfl (by kernel_rfl) (by kernel_rfl) (by kernel_rfl) (fun _ _ _ h => h) (Or.inl ⟨by rfl, ?_⟩) (by assumption) ?_
  rotate_left 1
  · (intro w hSw; (try dsimp only at hSw); go_simp; try with_reducible rfl)
  (try simp only [Act.put, List.setIfInBounds_toArray, List.set_cons_zero, List.set_cons_succ])
  refine wpAnyH_ready (rs := [8]) (by kernel_rfl) (by simp) ?_
  refine AllReadyH.cons (o := { dst := some 11, op := Op.call { callee := Callee.value (Operand.func 55), args := #[Operand.tmp 9, Operand.tmp 10], argTypes := #[9, 30] }, type := 9, pos := "wire.go:231", after := #[{ on := 6, ground := Ground.data }, { on := 7, ground := Ground.data }, { on := 5, ground := Ground.chain }], guard := none }) rfl (fun K hK => ?_) AllReadyH.nil
  go_simp
  refine (made12_ok _ _).mono ?_; rintro e w4 ⟨rfl, hw⟩; rw [hw]; clear hw w4
  refine hK.out _ _ (HCE.out _ GG.out) (fun hHeld => ?_)
  clear hK K
  (try simp only [Act.put, List.setIfInBounds_toArray, List.set_cons_zero, List.set_cons_succ])
  refine wpAnyH_ready (rs := [9]) (by kernel_rfl) (by simp) ?_
  refine AllReadyH.cons (o := { dst := some 12, op := Op.buildSlice 53 1 #[(0, Operand.tmp 11)], type := 53, pos := "wire.go:231", after := #[{ on := 8, ground := Ground.data }], guard := none }) rfl (fun K hK => ?_) AllReadyH.nil
  go_simp
  have G5 := Lib.hid (GG.out.below ((Below.refl w3.heap.size w3).alloc (Nat.le_refl _) (.cells #[.string nb] 9)))
  have O5 := Lib.hid (ownT_below OO.out ((Below.refl w3.heap.size w3).alloc (Nat.le_refl _) (.cells #[.string nb] 9)))
  refine hK.out _ _ (HCE.out _ G5.out) (fun hHeld => ?_)
  clear hK K
  (try simp only [Act.put, List.setIfInBounds_toArray, List.set_cons_zero, List.set_cons_succ])
  refine wpAnyH_ready (rs := [10]) (by kernel_rfl) (by simp) ?_
  refine AllReadyH.cons (o := { dst := some 13, op := Op.call { callee := Callee.builtin Builtin.append, args := #[Operand.tmp 4, Operand.tmp 12], argTypes := #[53, 53] }, type := 53, pos := "wire.go:231", after := #[{ on := 1, ground := Ground.data }, { on := 9, ground := Ground.data }, { on := 8, ground := Ground.chain }], guard := none }) rfl (fun K hK => ?_) AllReadyH.nil
  refine wpOp_appT (by kernel_rfl) _ _ rfl rfl (B := w.heap.size + 1) (v := pv) (l := [tx]) (m := [nb]) (ao := some ⟨w3.heap.size, 0, none⟩) (cap := 1) rfl rfl O5.out (by have := GG.out.lt; rw [World.size_alloc]; omega) (txt_one w3 nb) (by intro e; cases e) (by simp) ?_
  intro v' w' ho' hg'
  have G6 := Lib.hid (G5.out.grown O5.out (Nat.lt_succ_self _) hg')
  have B6 := Lib.hid ((BB.out.alloc BB.out.size (.cells #[.string nb] 9)).grown hg' (by have := BB.out.size; rw [World.size_alloc]; omega) (fun k e => by have := ownT_blk O5.out k e; omega))
  have O6 := Lib.hid (ownT_low ho' (Nat.le_succ _))
  clear ho' hg'
  refine hK.out _ _ (HCE.out _ G6.out) (fun hHeld => ?_)
  clear hK K
  (try simp only [Act.put, List.setIfInBounds_toArray, List.set_cons_zero, List.set_cons_succ])
  refine wpAnyH_take (i := 11) (oi := { dst := some 2, op := Op.assign (Operand.tmp 13), type := 53, pos := "wire.go:231", after := #[{ on := 10, ground := Ground.data }, { on := 10, ground := Ground.chain }, { on := 0, ground := Ground.phase }, { on := 1, ground := Ground.phase }, { on := 2, ground := Ground.phase }, { on := 3, ground := Ground.phase }, { on := 4, ground := Ground.phase }, { on := 5, ground := Ground.phase }, { on := 6, ground := Ground.phase }, { on := 7, ground := Ground.phase }, { on := 8, ground := Ground.phase }, { on := 9, ground := Ground.phase }, { on := 10, ground := Ground.phase }], guard := none }) (v := ?_) rfl (by kernel_rfl) (by kernel_rfl) (by kernel_rfl) (fun _ _ _ h => h) (Or.inl ⟨by rfl, ?_⟩) (by assumption) ?_
  rotate_left 1
  · (intro w hSw; (try dsimp only at hSw); go_simp; try with_reducible rfl)
  (try simp only [Act.put, List.setIfInBounds_toArray, List.set_cons_zero, List.set_cons_succ])
  refine wpAnyH_done (by kernel_rfl) ?_ _
  go_wp2_with fail
  go_ret
  exact ⟨⟨_, rfl, O6.out⟩, B6.out⟩
set_option maxHeartbeats 8000000 in
set_option maxRecDepth 100000 in
theorem putvote_any (m : Ms) (hx : mayX m.c m.e m.q = true) (ao : Option Addr) (n cap : Nat) (w : World) : Calls Tryz.prog 71 #[.agg (msC m (.slice ao n cap))] w (PutP w ([tb (txnT m.c m.e m.q), numT (bitP m.yes)] ++ if m.yes then [m.tag] else [])) := by
  have HPD := Lib.hid (fun V => putdec_any m hx ao n cap V)
  obtain ⟨W0, hW0⟩ : ∃ V, V = w.alloc (.cells (msC m (.slice ao n cap)) 26) := ⟨_, rfl⟩
  have g0 : GAt W0 w.heap.size m (.slice ao n cap) := by rw [hW0]; exact gat_new _ _ _
  have GG := Lib.hid g0
  have BB : Hid (Below w.heap.size w W0) := Lib.hid (by rw [hW0]; exact (Below.refl _ _).alloc (Nat.le_refl _) _)
  have HCE : Hid (∀ V, GAt V w.heap.size m (.slice ao n cap) → V.cell? ⟨w.heap.size, 0, none⟩ = some (.int .u8 m.kind) ∧ V.cell? ⟨w.heap.size, 1, none⟩ = some (.int .i64 m.c) ∧ V.cell? ⟨w.heap.size, 2, none⟩ = some (.int .i64 m.e) ∧ V.cell? ⟨w.heap.size, 3, none⟩ = some (.int .i64 m.q) ∧ V.cell? ⟨w.heap.size, 4, none⟩ = some (.int .i64 m.aud) ∧ V.cell? ⟨w.heap.size, 5, none⟩ = some (.slice ao n cap) ∧ V.cell? ⟨w.heap.size, 6, none⟩ = some (.string m.body) ∧ V.cell? ⟨w.heap.size, 7, none⟩ = some (.bool m.yes) ∧ V.cell? ⟨w.heap.size, 8, none⟩ = some (.string m.tag)) := Lib.hid (fun V h => h.cells)
  have HGB : Hid (∀ V V2, GAt V w.heap.size m (.slice ao n cap) → Below V.heap.size V V2 → GAt V2 w.heap.size m (.slice ao n cap)) := Lib.hid (fun V V2 h b => h.below b)
  have HW0 := Lib.hid hW0
  clear hW0 g0 hx
  generalize tb (txnT m.c m.e m.q) = tx at *
  generalize numT (bitP m.yes) = nb at *
  obtain ⟨k, c, e, q, aud, mem, body, yes, tag⟩ := m
  dsimp only [msC] at *
  cases yes with
  | false =>
    go_enter Tryz.func71, Tryz.ntmps71
    go_wp2_with (first | (go_at_call 74; rw [← HW0.out]; refine (HPD.out _).mono ?_; rintro e1 V ⟨⟨pv, rfl, ho⟩, b1⟩; have G1 := HGB.out _ _ GG.out b1; obtain ⟨x0, x1, x2, x3, x4, x5, x6, x7, x8⟩ := HCE.out _ G1; obtain ⟨po, pc, rfl, -⟩ := own_shape12 ho) | fail)
    go_ret
    exact ⟨⟨_, rfl, ownT_low ho BB.out.size⟩, below_step BB.out b1⟩
  | true =>
    go_enter Tryz.func71, Tryz.ntmps71
    go_wp2_with (first | (go_at_call 74; rw [← HW0.out]; refine (HPD.out _).mono ?_; rintro e1 V ⟨⟨pv, rfl, ho⟩, b1⟩; have G1 := HGB.out _ _ GG.out b1; obtain ⟨x0, x1, x2, x3, x4, x5, x6, x7, x8⟩ := HCE.out _ G1; have hsz := BB.out.size; have hsz2 := b1.size; obtain ⟨po, pc, rfl, -⟩ := own_shape12 ho) | (at_builtin; refine wpList_appT (B := w.heap.size) (l := [tx, nb]) (m := [tag]) (ao := some ⟨V.heap.size, 0, none⟩) (cap := 1) rfl _ _ rfl rfl rfl rfl (ownT_below (ownT_low ho hsz) ((Below.refl _ _).alloc (Nat.le_refl _) _)) (by rw [World.size_alloc]; omega) (txt_one V tag) (by intro e; cases e) (by simp) ?_; intro v' w' ho' hg'; have O6 := Lib.hid ho'; have B6 := Lib.hid (((below_step BB.out b1).alloc (by omega) (.cells #[.string tag] 9)).grown hg' (by rw [World.size_alloc]; omega) (ownT_blk (ownT_low ho hsz))); clear ho' hg') | fail)
    go_ret
    exact ⟨⟨_, rfl, O6.out⟩, B6.out⟩
end Go.Proofs.YthemopejebioaaaGreat.Pl

namespace Go.Proofs.YthemopejebioaaaGreat.Pl
open Go.RowKit

theorem own_msg {w : World} {B n : Nat} {v : Value} {d : ByteArray} {l : List ByteArray} (h : OwnT w B v ([d] ++ l)) (hl : l.length = n) : ∃ qo qc, v = .slice qo (n + 1) qc ∧ n + 1 ≤ qc ∧ TxtRow w qo (d :: l) := by
  obtain ⟨qo, qc, hv, hc, hr, -⟩ := own_shape12 h
  have e : ([d] ++ l).length = n + 1 := by rw [List.length_append, hl]; simp; omega
  rw [e] at hv hc
  exact ⟨qo, qc, hv, hc, hr⟩
set_option maxHeartbeats 8000000 in
set_option maxRecDepth 100000 in
theorem message_any (wd : ByteArray) (hwd : wd.size ≤ 1024) (l : List ByteArray) (po : Option Addr) (pc : Nat) (hl : l.length ≤ 100) (hx : ∀ x ∈ l, x.size ≤ 20000) (hp : po = none → pc = 0) (w : World) (hrow : TxtRow w po l) :
    Calls Tryz.prog 36 #[.string wd, .slice po l.length pc] w fun e w' => (if (rowP ((dataP (bl wd)).1 :: l.map bl)).2 = 0 then e = .returned (.string (tb (rowP ((dataP (bl wd)).1 :: l.map bl)).1)) else e = boom12 5) ∧ Below w.heap.size w w' := by
  have hd : dataP (bl wd) = ((dataP (bl wd)).1, 0) := Prod.ext rfl (by rw [(data_read (x := bl wd) (by rw [bl_length]; omega)).1])
  have HD := fun V => data6_any wd (by omega) V
  have hdsz : (tb (dataP (bl wd)).1).size ≤ 2000 := by
    rw [(data_read (x := bl wd) (by rw [bl_length]; omega)).1]
    unfold tb
    rw [size_lit, List.length_cons, txt_len, bl_length]
    have := enc_len wd.size
    omega
  rw [hd, show st2 ((dataP (bl wd)).1, 0) = .tuple #[.string (tb (dataP (bl wd)).1), .int .i64 0] from rfl] at HD
  have HR := fun bo bc V (hc : l.length + 1 ≤ bc) (hV : TxtRow V bo (tb (dataP (bl wd)).1 :: l)) => row6_any (tb (dataP (bl wd)).1 :: l) bo bc hc (by rw [List.length_cons]; omega) (fun x h => by
    rcases List.mem_cons.1 h with rfl | h
    · omega
    · have := hx x h; omega) V hV
  rw [List.map_cons, bl_tb] at HR
  generalize tb (dataP (bl wd)).1 = dt at *
  generalize hres : rowP ((dataP (bl wd)).1 :: l.map bl) = res at *
  have HD := Lib.hid HD
  have HROW := Lib.hid (fun V (hV : Below w.heap.size w V) => hrow.below hV)
  have HX := Lib.hid hl
  have HP := Lib.hid hp
  clear hd hdsz hx hrow hres hl hp
  obtain ⟨rt, re⟩ := res
  dsimp only
  generalize hn : l.length = n at *
  rw [List.length_cons, hn] at HR
  have HNN := Lib.hid hn
  clear hn
  by_cases h0 : re = 0
  · subst h0
    simp only [if_true]
    rw [show st2 (rt, 0) = .tuple #[.string (tb rt), .int .i64 0] from rfl] at HR
    have HR := Lib.hid HR
    go_enter Tryz.func36, Tryz.ntmps36
    go_wp2_with (first | (go_at_call 83; refine (HD.out _).mono ?_; rintro e1 V ⟨rfl, b1⟩; have hsz := b1.size) | (go_at_call 55; refine (made12_ok _ _).mono ?_; rintro e w2 ⟨rfl, hw⟩; rw [hw]; clear hw w2) | (at_builtin; refine wpList_appT (B := w.heap.size) (l := [dt]) (m := l) (ao := po) (cap := pc) rfl _ _ rfl rfl rfl (by rw [HNN.out]; rfl) (ownT_low (ownT_one V dt) hsz) (by rw [World.size_alloc]; omega) (HROW.out _ (b1.alloc hsz _)) HP.out (by have := HX.out; rw [List.length_cons, List.length_nil]; have := HNN.out; omega) ?_; intro v' w' ho' hg'; have O6 := Lib.hid ho'; have B6 := Lib.hid ((b1.alloc hsz (.cells #[.string dt] 9)).grown hg' (by rw [World.size_alloc]; omega) (fun k e => (ownT_blk (ownT_low (ownT_one V dt) hsz)) k e)); clear ho' hg'; obtain ⟨qo, qc, rfl, hqc, hqr⟩ := own_msg O6.out HNN.out; have HQR := Lib.hid hqr; clear hqr) | fail)
    refine (HR.out qo qc _ hqc HQR.out).mono ?_; rintro e7 V7 ⟨rfl, b7⟩
    go_wp2_with (first | (go_at_call 55; refine (made12_ok _ _).mono ?_; rintro e w2 ⟨rfl, hw⟩; rw [hw]; clear hw w2) | fail)
    go_ret
    exact ⟨rfl, below_step B6.out b7⟩
  · simp only [if_neg h0]
    rw [show st2 (rt, re) = .tuple #[.string (tb rt), .int .i64 re] from rfl] at HR
    have HR := Lib.hid HR
    go_enter Tryz.func36, Tryz.ntmps36
    go_wp2_with (first | (go_at_call 83; refine (HD.out _).mono ?_; rintro e1 V ⟨rfl, b1⟩; have hsz := b1.size) | (go_at_call 55; refine (made12_ok _ _).mono ?_; rintro e w2 ⟨rfl, hw⟩; rw [hw]; clear hw w2) | (at_builtin; refine wpList_appT (B := w.heap.size) (l := [dt]) (m := l) (ao := po) (cap := pc) rfl _ _ rfl rfl rfl (by rw [HNN.out]; rfl) (ownT_low (ownT_one V dt) hsz) (by rw [World.size_alloc]; omega) (HROW.out _ (b1.alloc hsz _)) HP.out (by have := HX.out; rw [List.length_cons, List.length_nil]; have := HNN.out; omega) ?_; intro v' w' ho' hg'; have O6 := Lib.hid ho'; have B6 := Lib.hid ((b1.alloc hsz (.cells #[.string dt] 9)).grown hg' (by rw [World.size_alloc]; omega) (fun k e => (ownT_blk (ownT_low (ownT_one V dt) hsz)) k e)); clear ho' hg'; obtain ⟨qo, qc, rfl, hqc, hqr⟩ := own_msg O6.out HNN.out; have HQR := Lib.hid hqr; clear hqr) | fail)
    refine (HR.out qo qc _ hqc HQR.out).mono ?_; rintro e7 V7 ⟨rfl, b7⟩
    go_wp2_with (first | (go_at_call 55; refine (made12_bad _ _ h0 _).mono ?_; rintro e w2 ⟨rfl, hw⟩; rw [hw]; clear hw w2) | fail)
    exact ⟨by first | rfl | trivial, rfl, below_step B6.out b7⟩
end Go.Proofs.YthemopejebioaaaGreat.Pl

namespace Go.Proofs.YthemopejebioaaaGreat.Pl
open Go.RowKit

def memT2 (m : Mb) : ByteArray := tb (memT m).1
theorem memT_err {m : Mb} (ho : orgP m.1 = true) (hc : checkP (bl m.2) = 0) : (memT m).2 = 0 ∨ memT m = ([], 5) := by
  have h := orgP_iff.1 ho
  refine row_err fun x hx => ?_
  simp only [List.mem_cons, List.not_mem_nil, or_false] at hx
  rcases hx with rfl | rfl
  · obtain ⟨s, e, h2, _⟩ := num_read (v := m.1) (by omega) (by omega)
    rw [e]; exact h2
  · exact hc
theorem memT_size (m : Mb) : (memT2 m).size ≤ 16384 := by
  unfold memT2 tb
  rw [size_lit]
  unfold memT rowP madeP
  split
  · split
    · rename_i h; exact check_len h
    · simp
  · simp
theorem rowP_size (l : List (List UInt8)) : (rowP l).1.length ≤ 16384 := by
  unfold rowP madeP
  split
  · split
    · rename_i h; exact check_len h
    · simp
  · simp
theorem membersT_no {l : List Mb} {m : Mb} (hm : m ∈ l) (h : (memT m).2 ≠ 0) : membersT l = ([], 5) := by
  unfold membersT
  rw [if_neg (fun k => h (k m hm))]
/-- What Members's closure leaves. -/
def RdMt (l : List Mb) (w : World) (s : Nat) (z : Nat) (V : World) : Prop := (z = if (membersT l).2 = 0 then 0 else 5) ∧ Boxed V s 9 (.string (if (membersT l).2 = 0 then tb (membersT l).1 else ⟨#[]⟩)) ∧ Below w.heap.size w V

set_option maxHeartbeats 8000000 in
set_option maxRecDepth 100000 in
theorem mt1_any (l : List Mb) (c : Int) (hl : mayL c l = true) (hsz : ∀ x ∈ l, x.2.size ≤ 30000) (ao : Option Addr) (cap : Nat) (lb s : Nat) (w0 W : World) (eb : Nat) (hlb : Boxed W lb 24 (.slice ao l.length cap)) (hrow : MemRow W ao l) (hs : Boxed W s 9 (.string ⟨#[]⟩)) (he : Boxed W eb 30 (.int .i64 0)) (hne : eb ≠ s) (hs0 : w0.heap.size ≤ s) (hB : Below w0.heap.size w0 W) :
    Calls Tryz.prog 54 #[ptr12 lb, ptr12 s] W (DonePost eb (RdMt l w0 s)) := by
  obtain ⟨hl1, hl6, hms⟩ := mayL_iff.1 hl
  have hall := mayMs_all hms
  have c0 := hlb.cell
  obtain ⟨B, hBB⟩ : ∃ B, B = W.heap.size := ⟨_, rfl⟩
  have HKEEP : Hid (∀ V, Below B W V → Boxed V s 9 (.string ⟨#[]⟩) ∧ Boxed V eb 30 (.int .i64 0) ∧ Below w0.heap.size w0 V) := Lib.hid (fun V h => by
    rw [hBB] at h
    exact ⟨(h.block _ (Array.getElem?_eq_some_iff.1 hs).1).trans hs, (h.block _ (Array.getElem?_eq_some_iff.1 he).1).trans he, below_step hB h⟩)
  have HROW := Lib.hid (fun V (hV : Below B W V) => hrow.below (by rw [hBB] at hV; exact hV))
  have HALL := Lib.hid hall
  have HSZM := Lib.hid hsz
  have HBZ : Hid (B = W.heap.size) := Lib.hid hBB
  have HSL : Hid (s < W.heap.size ∧ eb ≠ s ∧ w0.heap.size ≤ s) := Lib.hid ⟨(Array.getElem?_eq_some_iff.1 hs).1, hne, hs0⟩
  obtain ⟨n, hn⟩ : ∃ n, n = l.length := ⟨_, rfl⟩
  have hn6 : n ≤ 6 := by omega
  have HN6 := Lib.hid hn
  rw [← hn] at c0
  clear hl1 hl6 hms hall hlb hrow hs he hB hBB hn hsz hl
  go_enter Tryz.func54, Tryz.ntmps54
  go_wp2_with fail
  go_loopw [7, 2] (fun iv pv wr => ∃ j : Nat, iv = .int .i64 j ∧ j ≤ n ∧ Hid (OwnT wr B pv ((l.take j).map memT2)) ∧ Hid (∀ m ∈ l.take j, (memT m).2 = 0) ∧ Hid (Below B W wr)) (fun iv _ _ => n - (intOf iv).toNat)
  case atStart => exact ⟨0, rfl, Nat.zero_le _, Lib.hid (ownT_nil _ _), Lib.hid (fun m hm => by cases hm), Lib.hid (Below.refl _ _)⟩
  case round =>
    obtain ⟨j, rfl, hjn, hown, hok, hb⟩ := hrel
    by_cases hj : j < n
    · have hj' : (j : Int) < (n : Int) := by omega
      have hjl : j < l.length := by rw [← HN6.out]; exact hj
      rcases HROW.out _ hb.out with e | ⟨b, off, rfl, hlt, hcs⟩
      · exfalso
        rw [e] at hjl
        exact absurd hjl (Nat.not_lt_zero _)
      obtain ⟨y0, y1⟩ := hcs j hjl
      have hml := List.getElem_mem hjl
      obtain ⟨ho1, ho2, _⟩ := HALL.out _ hml
      have hod := HSZM.out _ hml
      have hio := orgP_iff.1 ho1
      have HN := Lib.hid (fun V => num12_any l[j].1 hio.1 (by omega) V)
      have herr := memT_err ho1 ho2
      have HRW : ∀ (bo : Option Addr) (V : World), TxtRow V bo [numT l[j].1, l[j].2] → Calls Tryz.prog 56 #[.slice bo 2 2] V fun e w' => e = .returned (st2 (memT l[j])) ∧ Below V.heap.size V w' := fun bo V hR => row6_any [numT l[j].1, l[j].2] bo 2 (by simp) (by simp) (fun x hx => by
        simp only [List.mem_cons, List.not_mem_nil, or_false] at hx
        rcases hx with rfl | rfl
        · have := numT_size hio.1 (show l[j].1 ≤ 2147483647 by omega); omega
        · omega) V hR
      have HTK : Hid ((l.take (j + 1)).map memT2 = (l.take j).map memT2 ++ [memT2 l[j]]) := Lib.hid (by rw [List.take_succ_eq_append_getElem hjl, List.map_append]; rfl)
      have HOK : Hid ((memT l[j]).2 = 0 → ∀ m ∈ l.take (j + 1), (memT m).2 = 0) := Lib.hid (fun h m hm => by
        rw [List.take_succ_eq_append_getElem hjl] at hm
        rcases List.mem_append.1 hm with hm | hm
        · exact hok.out m hm
        · rw [List.mem_singleton.1 hm]; exact h)
      have HNOT : Hid ((memT l[j]).2 ≠ 0 → membersT l = ([], 5)) := Lib.hid (fun h => membersT_no hml h)
      have HMT2 : Hid (memT2 l[j] = tb (memT l[j]).1) := Lib.hid rfl
      have HLN : Hid (((l.take j).map memT2).length ≤ 100) := Lib.hid (by rw [List.length_map, List.length_take]; omega)
      generalize numT l[j].1 = nt at *
      generalize memT2 l[j] = mt at *
      generalize memT l[j] = mr at *
      generalize l[j] = m at *
      obtain ⟨og, dg⟩ := m
      dsimp only at *
      generalize (l.take j).map memT2 = L at *
      obtain ⟨W2, hW2, n0, k2, b2, s2⟩ := row_box wr #[.int .i64 0, .string ⟨#[]⟩] #[.int .i64 og, .string dg] 81
      have MM : Hid (MAt W2.drew wr.heap.size og dg) := Lib.hid k2
      have BB := Lib.hid (below_step b2 (drew12 W2))
      have HMC : Hid (∀ V, MAt V wr.heap.size og dg → V.cell? ⟨wr.heap.size, 0, none⟩ = some (.int .i64 og) ∧ V.cell? ⟨wr.heap.size, 1, none⟩ = some (.string dg)) := Lib.hid (fun V h => ⟨h.cells.1, h.cells.2.1⟩)
      have KS := HMC.out _ MM.out
      have HOWN : Hid (∀ V, Below wr.heap.size wr V → OwnT V B u2 L) := Lib.hid (fun V hV => ownT_below hown.out hV)
      have HSZ : Hid (∀ V, Below wr.heap.size wr V → B ≤ V.heap.size) := Lib.hid (fun V hV => by have := hb.out.size; have := hV.size; have := HBZ.out; omega)
      have HBW : Hid (B ≤ wr.heap.size) := Lib.hid (by have := hb.out.size; have := HBZ.out; omega)
      have HNB : Hid (some wr.heap.size ≠ u2.ownBlock) := Lib.hid (fun e => by have := hown.out.lt _ e.symm; omega)
      have N0 := Lib.hid n0
      have HW2 := Lib.hid hW2
      have HBX := hb
      clear hcs hlt hml ho1 ho2 hod hio hjl n0 hW2 k2 b2 s2 hown hb
      rcases herr with h0 | h5
      · have e1 : st2 mr = .tuple #[.string mt, .int .i64 0] := by rw [HMT2.out, show mr = (mr.1, 0) from Prod.ext rfl h0]; rfl
        rw [e1] at HRW
        have HRW := Lib.hid HRW
        have HOK2 := Lib.hid (HOK.out h0)
        clear h0 e1 HOK HNOT HMT2
        go_wp2_with (first | (refine wpList_store_row rfl 81 _ _ rfl wr.heap.size #[.int .i64 og, .string dg] rfl rfl 81 #[.int .i64 0, .string ⟨#[]⟩] N0.out (mem_info _ _) rfl (mem_one _ _) ?_; rw [← HW2.out]) | fail)
        refine wp_region_held_drew (S := fun W => W.cell? ⟨wr.heap.size, 0, none⟩ = some (.int .i64 og) ∧ W.cell? ⟨wr.heap.size, 1, none⟩ = some (.string dg)) (by kernel_rfl) (by first | assumption | exact KS) (fun hHeld => ?_)
        generalize W2.drew = wz at *
        refine wpAnyH_take (i := 0) (oi := { dst := some 11, op := Op.move (Operand.tmp 2), type := 53, pos := "wire.go:138", after := #[], guard := none }) (v := ?_) rfl (by kernel_rfl) (by kernel_rfl) (by kernel_rfl) (fun _ _ _ h => h) (Or.inl ⟨by rfl, ?_⟩) (by assumption) ?_
        rotate_left 1
        · (intro w hSw; (try dsimp only at hSw); go_simp; try with_reducible rfl)
        (try simp only [Act.put, List.setIfInBounds_toArray, List.set_cons_zero, List.set_cons_succ])
        refine wpAnyH_take (i := 1) (oi := { dst := some 12, op := Op.fieldAddr 81 (Operand.tmp 4) 0, type := 0, pos := "wire.go:138", after := #[], guard := none }) (v := ?_) rfl (by kernel_rfl) (by kernel_rfl) (by kernel_rfl) (fun _ _ _ h => h) (Or.inl ⟨by rfl, ?_⟩) (by assumption) ?_
        rotate_left 1
        · (intro w hSw; (try dsimp only at hSw); go_simp; try with_reducible rfl)
        (try simp only [Act.put, List.setIfInBounds_toArray, List.set_cons_zero, List.set_cons_succ])
        refine wpAnyH_take (i := 2) (oi := { dst := some 13, op := Op.load 3 (Operand.tmp 12), type := 3, pos := "wire.go:138", after := #[{ on := 1, ground := Ground.data }], guard := none }) (v := ?_) rfl (by kernel_rfl) (by kernel_rfl) (by kernel_rfl) (fun _ _ _ h => h) (Or.inl ⟨by rfl, ?_⟩) (by assumption) ?_
        rotate_left 1
        · (intro w hSw; (try dsimp only at hSw); go_simp; try with_reducible rfl)
        (try simp only [Act.put, List.setIfInBounds_toArray, List.set_cons_zero, List.set_cons_succ])
        refine wpAnyH_take (i := 7) (oi := { dst := some 18, op := Op.fieldAddr 81 (Operand.tmp 4) 1, type := 0, pos := "wire.go:138", after := #[], guard := none }) (v := ?_) rfl (by kernel_rfl) (by kernel_rfl) (by kernel_rfl) (fun _ _ _ h => h) (Or.inl ⟨by rfl, ?_⟩) (by assumption) ?_
        rotate_left 1
        · (intro w hSw; (try dsimp only at hSw); go_simp; try with_reducible rfl)
        (try simp only [Act.put, List.setIfInBounds_toArray, List.set_cons_zero, List.set_cons_succ])
        refine wpAnyH_take (i := 8) (oi := { dst := some 19, op := Op.load 9 (Operand.tmp 18), type := 9, pos := "wire.go:138", after := #[{ on := 7, ground := Ground.data }], guard := none }) (v := ?_) rfl (by kernel_rfl) (by kernel_rfl) (by kernel_rfl) (fun _ _ _ h => h) (Or.inl ⟨by rfl, ?_⟩) (by assumption) ?_
        rotate_left 1
        · (intro w hSw; (try dsimp only at hSw); go_simp; try with_reducible rfl)
        (try simp only [Act.put, List.setIfInBounds_toArray, List.set_cons_zero, List.set_cons_succ])
        refine wpAnyH_ready (rs := [3]) (by kernel_rfl) (by simp) ?_
        refine AllReadyH.cons (o := { dst := some 14, op := Op.call { callee := Callee.value (Operand.func 57), args := #[Operand.tmp 13], argTypes := #[3] }, type := 31, pos := "wire.go:138", after := #[{ on := 2, ground := Ground.data }], guard := none }) rfl (fun K hK => ?_) AllReadyH.nil
        go_simp
        refine (HN.out _).mono ?_; rintro e w1 ⟨rfl, b1⟩
        have MM := Lib.hid (MM.out.below b1)
        have BB := Lib.hid (below_step BB.out b1)
        clear b1
        refine hK.out _ _ (HMC.out _ MM.out) (fun hHeld => ?_)
        clear hK K
        (try simp only [Act.put, List.setIfInBounds_toArray, List.set_cons_zero, List.set_cons_succ])
        refine wpAnyH_take (i := 4) (oi := { dst := some 15, op := Op.extract (Operand.tmp 14) 0, type := 9, pos := "wire.go:138", after := #[{ on := 3, ground := Ground.data }], guard := none }) (v := ?_) rfl (by kernel_rfl) (by kernel_rfl) (by kernel_rfl) (fun _ _ _ h => h) (Or.inl ⟨by rfl, ?_⟩) (by assumption) ?_
        rotate_left 1
        · (intro w hSw; (try dsimp only at hSw); go_simp; try with_reducible rfl)
        (try simp only [Act.put, List.setIfInBounds_toArray, List.set_cons_zero, List.set_cons_succ])
        refine wpAnyH_take (i := 5) (oi := { dst := some 16, op := Op.extract (Operand.tmp 14) 1, type := 30, pos := "wire.go:138", after := #[{ on := 3, ground := Ground.data }], guard := none }) (v := ?_) rfl (by kernel_rfl) (by kernel_rfl) (by kernel_rfl) (fun _ _ _ h => h) (Or.inl ⟨by rfl, ?_⟩) (by assumption) ?_
        rotate_left 1
        · (intro w hSw; (try dsimp only at hSw); go_simp; try with_reducible rfl)
        (try simp only [Act.put, List.setIfInBounds_toArray, List.set_cons_zero, List.set_cons_succ])
        refine wpAnyH_ready (rs := [6]) (by kernel_rfl) (by simp) ?_
        refine AllReadyH.cons (o := { dst := some 17, op := Op.call { callee := Callee.value (Operand.func 55), args := #[Operand.tmp 15, Operand.tmp 16], argTypes := #[9, 30] }, type := 9, pos := "wire.go:138", after := #[{ on := 4, ground := Ground.data }, { on := 5, ground := Ground.data }, { on := 3, ground := Ground.chain }], guard := none }) rfl (fun K hK => ?_) AllReadyH.nil
        go_simp
        refine (made12_ok _ _).mono ?_; rintro e w2 ⟨rfl, hw⟩; rw [hw]; clear hw w2
        refine hK.out _ _ (HMC.out _ MM.out) (fun hHeld => ?_)
        clear hK K
        (try simp only [Act.put, List.setIfInBounds_toArray, List.set_cons_zero, List.set_cons_succ])
        refine wpAnyH_ready (rs := [9]) (by kernel_rfl) (by simp) ?_
        refine AllReadyH.cons (o := { dst := some 20, op := Op.buildSlice 53 2 #[(0, Operand.tmp 17), (1, Operand.tmp 19)], type := 53, pos := "wire.go:138", after := #[{ on := 6, ground := Ground.data }, { on := 8, ground := Ground.data }], guard := none }) rfl (fun K hK => ?_) AllReadyH.nil
        go_simp
        obtain ⟨W4, hW4⟩ : ∃ V, V = w1.alloc (.cells #[.string nt, .string dg] 9) := ⟨_, rfl⟩
        have ba : Below w1.heap.size w1 W4 := by rw [hW4]; exact (Below.refl _ _).alloc (Nat.le_refl _) _
        have T2 := Lib.hid (show TxtRow W4 (some ⟨w1.heap.size, 0, none⟩) [nt, dg] from hW4 ▸ txt_two12 w1 nt dg)
        have MM := Lib.hid (MM.out.below ba)
        have BB := Lib.hid (below_step BB.out ba)
        rw [← hW4]
        clear ba hW4
        refine hK.out _ _ (HMC.out _ MM.out) (fun hHeld => ?_)
        clear hK K
        (try simp only [Act.put, List.setIfInBounds_toArray, List.set_cons_zero, List.set_cons_succ])
        refine wpAnyH_ready (rs := [10]) (by kernel_rfl) (by simp) ?_
        refine AllReadyH.cons (o := { dst := some 21, op := Op.call { callee := Callee.value (Operand.func 56), args := #[Operand.tmp 20], argTypes := #[53] }, type := 31, pos := "wire.go:138", after := #[{ on := 9, ground := Ground.data }, { on := 6, ground := Ground.chain }], guard := none }) rfl (fun K hK => ?_) AllReadyH.nil
        go_simp
        refine (HRW.out _ _ T2.out).mono ?_; rintro e w5 ⟨rfl, b5⟩
        have MM := Lib.hid (MM.out.below b5)
        have BB := Lib.hid (below_step BB.out b5)
        clear b5
        refine hK.out _ _ (HMC.out _ MM.out) (fun hHeld => ?_)
        clear hK K
        (try simp only [Act.put, List.setIfInBounds_toArray, List.set_cons_zero, List.set_cons_succ])
        refine wpAnyH_take (i := 11) (oi := { dst := some 22, op := Op.extract (Operand.tmp 21) 0, type := 9, pos := "wire.go:138", after := #[{ on := 10, ground := Ground.data }], guard := none }) (v := ?_) rfl (by kernel_rfl) (by kernel_rfl) (by kernel_rfl) (fun _ _ _ h => h) (Or.inl ⟨by rfl, ?_⟩) (by assumption) ?_
        rotate_left 1
        · (intro w hSw; (try dsimp only at hSw); go_simp; try with_reducible rfl)
        (try simp only [Act.put, List.setIfInBounds_toArray, List.set_cons_zero, List.set_cons_succ])
        refine wpAnyH_take (i := 12) (oi := { dst := some 23, op := Op.extract (Operand.tmp 21) 1, type := 30, pos := "wire.go:138", after := #[{ on := 10, ground := Ground.data }], guard := none }) (v := ?_) rfl (by kernel_rfl) (by kernel_rfl) (by kernel_rfl) (fun _ _ _ h => h) (Or.inl ⟨by rfl, ?_⟩) (by assumption) ?_
        rotate_left 1
        · (intro w hSw; (try dsimp only at hSw); go_simp; try with_reducible rfl)
        (try simp only [Act.put, List.setIfInBounds_toArray, List.set_cons_zero, List.set_cons_succ])
        refine wpAnyH_ready (rs := [13]) (by kernel_rfl) (by simp) ?_
        refine AllReadyH.cons (o := { dst := some 24, op := Op.call { callee := Callee.value (Operand.func 55), args := #[Operand.tmp 22, Operand.tmp 23], argTypes := #[9, 30] }, type := 9, pos := "wire.go:138", after := #[{ on := 11, ground := Ground.data }, { on := 12, ground := Ground.data }, { on := 10, ground := Ground.chain }], guard := none }) rfl (fun K hK => ?_) AllReadyH.nil
        go_simp
        refine (made12_ok _ _).mono ?_; rintro e w6 ⟨rfl, hw⟩; rw [hw]; clear hw w6
        refine hK.out _ _ (HMC.out _ MM.out) (fun hHeld => ?_)
        clear hK K
        (try simp only [Act.put, List.setIfInBounds_toArray, List.set_cons_zero, List.set_cons_succ])
        refine wpAnyH_ready (rs := [14]) (by kernel_rfl) (by simp) ?_
        refine AllReadyH.cons (o := { dst := some 25, op := Op.buildSlice 53 1 #[(0, Operand.tmp 24)], type := 53, pos := "wire.go:138", after := #[{ on := 13, ground := Ground.data }], guard := none }) rfl (fun K hK => ?_) AllReadyH.nil
        go_simp
        have M7 := Lib.hid (MM.out.below ((Below.refl w5.heap.size w5).alloc (Nat.le_refl _) (.cells #[.string mt] 9)))
        refine hK.out _ _ (HMC.out _ M7.out) (fun hHeld => ?_)
        clear hK K
        (try simp only [Act.put, List.setIfInBounds_toArray, List.set_cons_zero, List.set_cons_succ])
        refine wpAnyH_ready (rs := [15]) (by kernel_rfl) (by simp) ?_
        refine AllReadyH.cons (o := { dst := some 26, op := Op.call { callee := Callee.builtin Builtin.append, args := #[Operand.tmp 11, Operand.tmp 25], argTypes := #[53, 53] }, type := 53, pos := "wire.go:138", after := #[{ on := 0, ground := Ground.data }, { on := 14, ground := Ground.data }, { on := 13, ground := Ground.chain }], guard := none }) rfl (fun K hK => ?_) AllReadyH.nil
        have hO5 := HOWN.out _ BB.out
        have hs5 := HSZ.out _ BB.out
        refine wpOp_appT (by kernel_rfl) _ _ rfl rfl (B := B) (v := u2) (l := L) (m := [mt]) (ao := some ⟨w5.heap.size, 0, none⟩) (cap := 1) rfl rfl (ownT_below hO5 ((Below.refl w5.heap.size w5).alloc (Nat.le_refl _) _)) (by rw [World.size_alloc]; omega) (txt_one w5 mt) (by intro e; cases e) (by have := HLN.out; simp only [List.length_cons, List.length_nil]; omega) ?_
        intro v' w' ho' hg'
        have M8 := Lib.hid (show MAt w' wr.heap.size og dg from (hg'.block _ M7.out.lt HNB.out).trans M7.out)
        have O8 := Lib.hid ho'
        have B8 := Lib.hid (app_grown12 (B := B) (w := wr) (BB.out.mono HBW.out) hs5 hO5 hg')
        clear ho' hg' hO5
        refine hK.out _ _ (HMC.out _ M8.out) (fun hHeld => ?_)
        clear hK K
        (try simp only [Act.put, List.setIfInBounds_toArray, List.set_cons_zero, List.set_cons_succ])
        refine wpAnyH_take (i := 16) (oi := { dst := some 2, op := Op.assign (Operand.tmp 26), type := 53, pos := "wire.go:138", after := #[{ on := 15, ground := Ground.data }, { on := 15, ground := Ground.chain }, { on := 0, ground := Ground.phase }, { on := 1, ground := Ground.phase }, { on := 2, ground := Ground.phase }, { on := 3, ground := Ground.phase }, { on := 4, ground := Ground.phase }, { on := 5, ground := Ground.phase }, { on := 6, ground := Ground.phase }, { on := 7, ground := Ground.phase }, { on := 8, ground := Ground.phase }, { on := 9, ground := Ground.phase }, { on := 10, ground := Ground.phase }, { on := 11, ground := Ground.phase }, { on := 12, ground := Ground.phase }, { on := 13, ground := Ground.phase }, { on := 14, ground := Ground.phase }, { on := 15, ground := Ground.phase }], guard := none }) (v := ?_) rfl (by kernel_rfl) (by kernel_rfl) (by kernel_rfl) (fun _ _ _ h => h) (Or.inl ⟨by rfl, ?_⟩) (by assumption) ?_
        rotate_left 1
        · (intro w hSw; (try dsimp only at hSw); go_simp; try with_reducible rfl)
        (try simp only [Act.put, List.setIfInBounds_toArray, List.set_cons_zero, List.set_cons_succ])
        refine wpAnyH_done (by kernel_rfl) ?_ _
        go_wp2_with fail
        go_roundw
        case rel => exact ⟨j + 1, by go_num, by omega, Lib.hid (by rw [HTK.out]; exact O8.out), HOK2, Lib.hid ((HBX.out.trans B8.out))⟩
        case measure => simp [intOf]; omega
      · rw [h5, show st2 (([] : List UInt8), 5) = .tuple #[.string ⟨#[]⟩, .int .i64 5] from rfl] at HRW
        have HRW := Lib.hid HRW
        have hno := HNOT.out (by rw [h5]; decide)
        have HBAD : Hid (∀ V, Below wr.heap.size wr V → DonePost eb (RdMt l w0 s) (boom12 5) V) := Lib.hid (fun V hV => by
          obtain ⟨k1, k2, k3⟩ := HKEEP.out V (HBX.out.trans (hV.mono HBW.out))
          refine ⟨k2, .inr ⟨5, rfl, ?_, ?_, k3⟩⟩
          · rw [hno]; rfl
          · rw [hno]; exact k1)
        clear h5 HOK HNOT HMT2 hno
        go_wp2_with (first | (refine wpList_store_row rfl 81 _ _ rfl wr.heap.size #[.int .i64 og, .string dg] rfl rfl 81 #[.int .i64 0, .string ⟨#[]⟩] N0.out (mem_info _ _) rfl (mem_one _ _) ?_; rw [← HW2.out]) | fail)
        refine wp_region_held_drew (S := fun W => W.cell? ⟨wr.heap.size, 0, none⟩ = some (.int .i64 og) ∧ W.cell? ⟨wr.heap.size, 1, none⟩ = some (.string dg)) (by kernel_rfl) (by first | assumption | exact KS) (fun hHeld => ?_)
        generalize W2.drew = wz at *
        refine wpAnyH_take (i := 0) (oi := { dst := some 11, op := Op.move (Operand.tmp 2), type := 53, pos := "wire.go:138", after := #[], guard := none }) (v := ?_) rfl (by kernel_rfl) (by kernel_rfl) (by kernel_rfl) (fun _ _ _ h => h) (Or.inl ⟨by rfl, ?_⟩) (by assumption) ?_
        rotate_left 1
        · (intro w hSw; (try dsimp only at hSw); go_simp; try with_reducible rfl)
        (try simp only [Act.put, List.setIfInBounds_toArray, List.set_cons_zero, List.set_cons_succ])
        refine wpAnyH_take (i := 1) (oi := { dst := some 12, op := Op.fieldAddr 81 (Operand.tmp 4) 0, type := 0, pos := "wire.go:138", after := #[], guard := none }) (v := ?_) rfl (by kernel_rfl) (by kernel_rfl) (by kernel_rfl) (fun _ _ _ h => h) (Or.inl ⟨by rfl, ?_⟩) (by assumption) ?_
        rotate_left 1
        · (intro w hSw; (try dsimp only at hSw); go_simp; try with_reducible rfl)
        (try simp only [Act.put, List.setIfInBounds_toArray, List.set_cons_zero, List.set_cons_succ])
        refine wpAnyH_take (i := 2) (oi := { dst := some 13, op := Op.load 3 (Operand.tmp 12), type := 3, pos := "wire.go:138", after := #[{ on := 1, ground := Ground.data }], guard := none }) (v := ?_) rfl (by kernel_rfl) (by kernel_rfl) (by kernel_rfl) (fun _ _ _ h => h) (Or.inl ⟨by rfl, ?_⟩) (by assumption) ?_
        rotate_left 1
        · (intro w hSw; (try dsimp only at hSw); go_simp; try with_reducible rfl)
        (try simp only [Act.put, List.setIfInBounds_toArray, List.set_cons_zero, List.set_cons_succ])
        refine wpAnyH_take (i := 7) (oi := { dst := some 18, op := Op.fieldAddr 81 (Operand.tmp 4) 1, type := 0, pos := "wire.go:138", after := #[], guard := none }) (v := ?_) rfl (by kernel_rfl) (by kernel_rfl) (by kernel_rfl) (fun _ _ _ h => h) (Or.inl ⟨by rfl, ?_⟩) (by assumption) ?_
        rotate_left 1
        · (intro w hSw; (try dsimp only at hSw); go_simp; try with_reducible rfl)
        (try simp only [Act.put, List.setIfInBounds_toArray, List.set_cons_zero, List.set_cons_succ])
        refine wpAnyH_take (i := 8) (oi := { dst := some 19, op := Op.load 9 (Operand.tmp 18), type := 9, pos := "wire.go:138", after := #[{ on := 7, ground := Ground.data }], guard := none }) (v := ?_) rfl (by kernel_rfl) (by kernel_rfl) (by kernel_rfl) (fun _ _ _ h => h) (Or.inl ⟨by rfl, ?_⟩) (by assumption) ?_
        rotate_left 1
        · (intro w hSw; (try dsimp only at hSw); go_simp; try with_reducible rfl)
        (try simp only [Act.put, List.setIfInBounds_toArray, List.set_cons_zero, List.set_cons_succ])
        refine wpAnyH_ready (rs := [3]) (by kernel_rfl) (by simp) ?_
        refine AllReadyH.cons (o := { dst := some 14, op := Op.call { callee := Callee.value (Operand.func 57), args := #[Operand.tmp 13], argTypes := #[3] }, type := 31, pos := "wire.go:138", after := #[{ on := 2, ground := Ground.data }], guard := none }) rfl (fun K hK => ?_) AllReadyH.nil
        go_simp
        refine (HN.out _).mono ?_; rintro e w1 ⟨rfl, b1⟩
        have MM := Lib.hid (MM.out.below b1)
        have BB := Lib.hid (below_step BB.out b1)
        clear b1
        refine hK.out _ _ (HMC.out _ MM.out) (fun hHeld => ?_)
        clear hK K
        (try simp only [Act.put, List.setIfInBounds_toArray, List.set_cons_zero, List.set_cons_succ])
        refine wpAnyH_take (i := 4) (oi := { dst := some 15, op := Op.extract (Operand.tmp 14) 0, type := 9, pos := "wire.go:138", after := #[{ on := 3, ground := Ground.data }], guard := none }) (v := ?_) rfl (by kernel_rfl) (by kernel_rfl) (by kernel_rfl) (fun _ _ _ h => h) (Or.inl ⟨by rfl, ?_⟩) (by assumption) ?_
        rotate_left 1
        · (intro w hSw; (try dsimp only at hSw); go_simp; try with_reducible rfl)
        (try simp only [Act.put, List.setIfInBounds_toArray, List.set_cons_zero, List.set_cons_succ])
        refine wpAnyH_take (i := 5) (oi := { dst := some 16, op := Op.extract (Operand.tmp 14) 1, type := 30, pos := "wire.go:138", after := #[{ on := 3, ground := Ground.data }], guard := none }) (v := ?_) rfl (by kernel_rfl) (by kernel_rfl) (by kernel_rfl) (fun _ _ _ h => h) (Or.inl ⟨by rfl, ?_⟩) (by assumption) ?_
        rotate_left 1
        · (intro w hSw; (try dsimp only at hSw); go_simp; try with_reducible rfl)
        (try simp only [Act.put, List.setIfInBounds_toArray, List.set_cons_zero, List.set_cons_succ])
        refine wpAnyH_ready (rs := [6]) (by kernel_rfl) (by simp) ?_
        refine AllReadyH.cons (o := { dst := some 17, op := Op.call { callee := Callee.value (Operand.func 55), args := #[Operand.tmp 15, Operand.tmp 16], argTypes := #[9, 30] }, type := 9, pos := "wire.go:138", after := #[{ on := 4, ground := Ground.data }, { on := 5, ground := Ground.data }, { on := 3, ground := Ground.chain }], guard := none }) rfl (fun K hK => ?_) AllReadyH.nil
        go_simp
        refine (made12_ok _ _).mono ?_; rintro e w2 ⟨rfl, hw⟩; rw [hw]; clear hw w2
        refine hK.out _ _ (HMC.out _ MM.out) (fun hHeld => ?_)
        clear hK K
        (try simp only [Act.put, List.setIfInBounds_toArray, List.set_cons_zero, List.set_cons_succ])
        refine wpAnyH_ready (rs := [9]) (by kernel_rfl) (by simp) ?_
        refine AllReadyH.cons (o := { dst := some 20, op := Op.buildSlice 53 2 #[(0, Operand.tmp 17), (1, Operand.tmp 19)], type := 53, pos := "wire.go:138", after := #[{ on := 6, ground := Ground.data }, { on := 8, ground := Ground.data }], guard := none }) rfl (fun K hK => ?_) AllReadyH.nil
        go_simp
        obtain ⟨W4, hW4⟩ : ∃ V, V = w1.alloc (.cells #[.string nt, .string dg] 9) := ⟨_, rfl⟩
        have ba : Below w1.heap.size w1 W4 := by rw [hW4]; exact (Below.refl _ _).alloc (Nat.le_refl _) _
        have T2 := Lib.hid (show TxtRow W4 (some ⟨w1.heap.size, 0, none⟩) [nt, dg] from hW4 ▸ txt_two12 w1 nt dg)
        have MM := Lib.hid (MM.out.below ba)
        have BB := Lib.hid (below_step BB.out ba)
        rw [← hW4]
        clear ba hW4
        refine hK.out _ _ (HMC.out _ MM.out) (fun hHeld => ?_)
        clear hK K
        (try simp only [Act.put, List.setIfInBounds_toArray, List.set_cons_zero, List.set_cons_succ])
        refine wpAnyH_ready (rs := [10]) (by kernel_rfl) (by simp) ?_
        refine AllReadyH.cons (o := { dst := some 21, op := Op.call { callee := Callee.value (Operand.func 56), args := #[Operand.tmp 20], argTypes := #[53] }, type := 31, pos := "wire.go:138", after := #[{ on := 9, ground := Ground.data }, { on := 6, ground := Ground.chain }], guard := none }) rfl (fun K hK => ?_) AllReadyH.nil
        go_simp
        refine (HRW.out _ _ T2.out).mono ?_; rintro e w5 ⟨rfl, b5⟩
        have MM := Lib.hid (MM.out.below b5)
        have BB := Lib.hid (below_step BB.out b5)
        clear b5
        refine hK.out _ _ (HMC.out _ MM.out) (fun hHeld => ?_)
        clear hK K
        (try simp only [Act.put, List.setIfInBounds_toArray, List.set_cons_zero, List.set_cons_succ])
        refine wpAnyH_take (i := 11) (oi := { dst := some 22, op := Op.extract (Operand.tmp 21) 0, type := 9, pos := "wire.go:138", after := #[{ on := 10, ground := Ground.data }], guard := none }) (v := ?_) rfl (by kernel_rfl) (by kernel_rfl) (by kernel_rfl) (fun _ _ _ h => h) (Or.inl ⟨by rfl, ?_⟩) (by assumption) ?_
        rotate_left 1
        · (intro w hSw; (try dsimp only at hSw); go_simp; try with_reducible rfl)
        (try simp only [Act.put, List.setIfInBounds_toArray, List.set_cons_zero, List.set_cons_succ])
        refine wpAnyH_take (i := 12) (oi := { dst := some 23, op := Op.extract (Operand.tmp 21) 1, type := 30, pos := "wire.go:138", after := #[{ on := 10, ground := Ground.data }], guard := none }) (v := ?_) rfl (by kernel_rfl) (by kernel_rfl) (by kernel_rfl) (fun _ _ _ h => h) (Or.inl ⟨by rfl, ?_⟩) (by assumption) ?_
        rotate_left 1
        · (intro w hSw; (try dsimp only at hSw); go_simp; try with_reducible rfl)
        (try simp only [Act.put, List.setIfInBounds_toArray, List.set_cons_zero, List.set_cons_succ])
        refine wpAnyH_ready (rs := [13]) (by kernel_rfl) (by simp) ?_
        refine AllReadyH.cons (o := { dst := some 24, op := Op.call { callee := Callee.value (Operand.func 55), args := #[Operand.tmp 22, Operand.tmp 23], argTypes := #[9, 30] }, type := 9, pos := "wire.go:138", after := #[{ on := 11, ground := Ground.data }, { on := 12, ground := Ground.data }, { on := 10, ground := Ground.chain }], guard := none }) rfl (fun K hK => ?_) AllReadyH.nil
        go_simp
        refine (made12_bad _ 5 (by decide) _).mono ?_; rintro e w6 ⟨rfl, hw⟩; rw [hw]; clear hw w6
        have HB5 := Lib.hid (HBAD.out _ BB.out)
        clear hK
        go_wp2_with fail
        exact ⟨by first | rfl | trivial, HB5.out⟩
    · obtain rfl : j = n := by omega
      have hall2 : ∀ m ∈ l, (memT m).2 = 0 := by have := hok.out; rwa [HN6.out, List.take_length] at this
      have hm : membersT l = rowP (l.map fun m => (memT m).1) := by unfold membersT; rw [if_pos hall2]
      have hown2 := hown.out
      rw [HN6.out, List.take_length] at hown2
      obtain ⟨bo, bcap, rfl, hc, hr, _⟩ := own_shape12 hown2
      have HRW := fun V (hV : TxtRow V bo (l.map memT2)) => row6_any (l.map memT2) bo bcap hc (by rw [List.length_map]; have := HN6.out; omega) (fun x hx => by
        obtain ⟨y, hy, rfl⟩ := List.mem_map.1 hx
        have := memT_size y; omega) V hV
      have e1 : (l.map memT2).map bl = l.map fun m => (memT m).1 := by rw [List.map_map]; rfl
      rw [e1, ← hm] at HRW
      have herr : (membersT l).2 = 0 ∨ membersT l = ([], 5) := by
        rw [hm]
        refine row_err fun x hx => ?_
        obtain ⟨y, hy, rfl⟩ := List.mem_map.1 hx
        exact (row_read (by simp) (row_ok (hall2 y hy) : rowP [(numP y.1).1, bl y.2] = ((memT y).1, 0))).2.2
      rw [List.length_map] at HRW ⊢
      have HR2 := Lib.hid hr
      have HRM : Hid (∀ z V, RdMt l w0 s z V ↔ (z = if (membersT l).2 = 0 then 0 else 5) ∧ Boxed V s 9 (.string (if (membersT l).2 = 0 then tb (membersT l).1 else ⟨#[]⟩)) ∧ Below w0.heap.size w0 V) := Lib.hid (fun _ _ => Iff.rfl)
      obtain ⟨k1, k2, k3⟩ := HKEEP.out _ hb.out
      have K1 := Lib.hid k1
      have K2 := Lib.hid k2
      have K3 := Lib.hid k3
      have SLT : Hid (s < wr.heap.size ∧ eb < wr.heap.size) := Lib.hid ⟨(Array.getElem?_eq_some_iff.1 k1).1, (Array.getElem?_eq_some_iff.1 k2).1⟩
      clear hown hok hown2 hc hr hall2 hm e1 k1 k2 k3
      generalize hmm : membersT l = mr at *
      generalize l.length = n2 at *
      rcases herr with h0 | h5
      · obtain ⟨rt, re⟩ := mr
        dsimp only at h0
        subst h0
        rw [show st2 (rt, 0) = .tuple #[.string (tb rt), .int .i64 0] from rfl] at HRW
        have HRW := Lib.hid HRW
        go_wp2_with (first | (go_at_call 56; refine (HRW.out _ HR2.out).mono ?_; rintro e7 V7 ⟨rfl, b7⟩; have q1 : Boxed V7 s 9 (.string ⟨#[]⟩) := (b7.block _ SLT.out.1).trans K1.out; have q2 := q1.cell; have q3 := q1.frozen) | (go_at_call 55; refine (made12_ok _ _).mono ?_; rintro e w2 ⟨rfl, hw⟩; rw [hw]; clear hw w2) | fail)
        go_end0
        have tr := turn_cell V7 s 0 (.string (tb rt))
        have hsl := HSL.out
        have hlt := b7.size
        have hse := SLT.out
        exact ⟨(tr.block _ (by omega) (by omega)).trans ((b7.block _ SLT.out.2).trans K2.out), .inl ⟨rfl, (HRM.out _ _).2 ⟨rfl, q1.set _, (below_step K3.out b7).trans (turn_to tr (fun b e => by omega) (by have := K3.out.size; omega))⟩⟩⟩
      · subst h5
        rw [show st2 (([] : List UInt8), 5) = .tuple #[.string ⟨#[]⟩, .int .i64 5] from rfl] at HRW
        have HRW := Lib.hid HRW
        go_wp2_with (first | (go_at_call 56; refine (HRW.out _ HR2.out).mono ?_; rintro e7 V7 ⟨rfl, b7⟩) | (go_at_call 55; refine (made12_bad _ 5 (by decide) _).mono ?_; rintro e w2 ⟨rfl, hw⟩; rw [hw]; clear hw w2) | fail)
        exact ⟨by first | rfl | trivial, (b7.block _ SLT.out.2).trans K2.out, .inr ⟨5, rfl, (HRM.out _ _).2 ⟨rfl, (b7.block _ SLT.out.1).trans K1.out, below_step K3.out b7⟩⟩⟩
end Go.Proofs.YthemopejebioaaaGreat.Pl

namespace Go.Proofs.YthemopejebioaaaGreat.Pl
open Go.RowKit

/-- The members' term, or why there is none. -/
def mtP (c : Int) (l : List Mb) : List UInt8 × Nat := if mayL c l = true then (if (membersT l).2 = 0 then ((membersT l).1, 0) else ([], 5)) else ([], 2)
theorem call_mt1 (args : Array Value) (V : World) : (callFunc 54 args).run Tryz.prog V = .ok (.enter 54 args) V := by kernel_rfl
theorem results_str_tmp {P : Program} {fn : Func} {p u : Tmp} {ty : TypeId} (h : fn.results = #[.cell p ty, .tmp u]) (tmps : Array Value) (w : World) (g : Nat) (v : Value)
    (hp : tmps.getD p undef = ptr12 g) (hl : (loadVar ty ⟨g, 0, none⟩).run P w = .ok v w) :
    (results fn tmps).run P w = .ok (.tuple #[v, tmps.getD u undef]) w := by
  rw [results_cell_tmp h, hp]
  simp [asAddr, hl, Result.andThen]
set_option maxHeartbeats 8000000 in
set_option maxRecDepth 100000 in
theorem members12x_any (c e q : Int) (l : List Mb) (ao : Option Addr) (cap : Nat) (hsz : ∀ x ∈ l, x.2.size ≤ 30000) (hlen : l.length ≤ 9223372036854775807) (w : World) (hrow : MemRow w ao l) :
    Calls Tryz.prog 21 #[.agg #[.int .i64 c, .int .i64 e, .int .i64 q], .slice ao l.length cap] w fun x w' => x = .returned (st2 (mtP c l)) ∧ Below w.heap.size w w' := by
  obtain ⟨W0, hW0⟩ : ∃ V, V = ((w.alloc (.cells #[.int .i64 c, .int .i64 e, .int .i64 q] 23)).alloc (.cells #[.slice ao l.length cap] 24)).alloc (.cells #[.string ⟨#[]⟩] 9) := ⟨_, rfl⟩
  have sz : W0.heap.size = w.heap.size + 3 := by rw [hW0]; simp
  have h0 : XAt W0 w.heap.size c e q := by
    rw [hW0]
    exact (xat_new w c e q).below (((Below.refl _ _).alloc (Nat.le_refl _) _).alloc (by simp) _)
  have h1 : Boxed W0 (w.heap.size + 1) 24 (.slice ao l.length cap) := by rw [hW0]; have h := (Boxed.new (w.alloc (.cells #[.int .i64 c, .int .i64 e, .int .i64 q] 23)) 24 (.slice ao l.length cap)).alloc (.cells #[.string ⟨#[]⟩] 9); simpa using h
  have h2 : Boxed W0 (w.heap.size + 2) 9 (.string ⟨#[]⟩) := by rw [hW0]; have h := Boxed.new ((w.alloc (.cells #[.int .i64 c, .int .i64 e, .int .i64 q] 23)).alloc (.cells #[.slice ao l.length cap] 24)) 9 (.string ⟨#[]⟩); simpa using h
  have B0 : Below w.heap.size w W0 := by rw [hW0]; exact (((Below.refl _ w).alloc (Nat.le_refl _) _).alloc (by simp) _).alloc (by simp; omega) _
  obtain ⟨x0, x1, x2, -⟩ := h0.cells
  have c1 := h1.cell
  have c2 := h2.cell
  rw [hW0] at x0 x1 x2 c1
  have HM := Lib.hid (fun V (hV : Below w.heap.size w V) => maymems_any c e q l ao cap (fun x hx => by have := hsz x hx; omega) hlen V (hrow.below hV))
  have HB0 := Lib.hid B0
  have HW0 := Lib.hid hW0
  have H1 := Lib.hid h1
  have H2 := Lib.hid h2
  have HSZ := Lib.hid sz
  have HROW := Lib.hid (fun V (hV : Below w.heap.size w V) => hrow.below hV)
  have HLL := Lib.hid hsz
  unfold mtP
  cases hm : mayL c l with
  | false =>
    rw [hm] at HM
    simp only [Bool.false_eq_true, if_false]
    rw [show st2 (([] : List UInt8), 2) = .tuple #[.string ⟨#[]⟩, .int .i64 2] from rfl]
    clear hW0 sz h0 h1 h2 B0 c2 hsz hrow hm
    generalize l.length = n at *
    go_enter Tryz.func21, Tryz.ntmps21
    go_wp2_with (first | (go_at_call 25; rw [← HW0.out]; refine (HM.out _ HB0.out).mono ?_; rintro e1 V ⟨rfl, b1⟩; have q1 : Boxed V (w.heap.size + 1 + 1) 9 (.string ⟨#[]⟩) := (b1.block _ (by rw [HSZ.out]; omega)).trans H2.out; have q2 := q1.cell; have q3 := q1.frozen) | fail)
    have q4 := (q1.set (.string ⟨#[]⟩)).cell
    refine bodyPost_ret (results_str_tmp (fn := Tryz.f21) (p := 4) (u := 5) (ty := 9) rfl _ _ (w.heap.size + 1 + 1) (.string ⟨#[]⟩) rfl (by simp [go_sem, q4])) rfl ?_
    exact ⟨rfl, (below_step HB0.out b1).trans (turn_to (turn_cell V (w.heap.size + 1 + 1) 0 _) (fun b e => by omega) (below_step HB0.out b1).size)⟩
  | true =>
    rw [hm] at HM
    simp only [if_true]
    have HC := fun V (hV : Below W0.heap.size W0 V) => caught_any 54 #[ptr12 (w.heap.size + 1), ptr12 (w.heap.size + 2)] call_mt1 V (RdMt l w (w.heap.size + 2)) (by
      have ba := (Below.refl V.heap.size V).alloc (Nat.le_refl _) (.cells #[.int .i64 0] 30)
      have hVs := hV.size
      have bB := below_step B0 hV
      exact mt1_any l c hm hsz ao cap (w.heap.size + 1) (w.heap.size + 2) w _ V.heap.size ((ba.block _ (by omega)).trans ((hV.block _ (by omega)).trans h1)) (HROW.out _ (below_step bB ba)) ((ba.block _ (by omega)).trans ((hV.block _ (by omega)).trans h2)) (Boxed.new _ _ _) (by omega) (by omega) (below_step bB ba))
    have HC2 : Hid (∀ V, Below W0.heap.size W0 V → Calls Tryz.prog 34 #[.func (.func 54) #[] #[ptr12 (w.heap.size + 1), ptr12 (w.heap.size + 1 + 1)]] V (fun x V2 => x = .returned (.int .i64 ((if (membersT l).2 = 0 then 0 else 5 : Nat) : Int)) ∧ Boxed V2 (w.heap.size + 1 + 1) 9 (.string (if (membersT l).2 = 0 then tb (membersT l).1 else ⟨#[]⟩)) ∧ Below w.heap.size w V2)) := Lib.hid (fun V hV => by
      refine (HC V hV).mono ?_
      rintro e V2 ⟨z, V1, rfl, ⟨rfl, q1, bV⟩, rfl⟩
      have tc := turn_cell V1 V.heap.size 0 (.int .i64 ((if (membersT l).2 = 0 then 0 else 5 : Nat) : Int))
      have hVs := hV.size
      exact ⟨rfl, (tc.block _ (Array.getElem?_eq_some_iff.1 q1).1 (by omega)).trans q1, bV.trans (turn_to tc (fun b e => by omega) bV.size)⟩)
    have hres : st2 (if (membersT l).2 = 0 then ((membersT l).1, 0) else ([], 5)) = .tuple #[.string (if (membersT l).2 = 0 then tb (membersT l).1 else ⟨#[]⟩), .int .i64 ((if (membersT l).2 = 0 then 0 else 5 : Nat) : Int)] := by
      by_cases h : (membersT l).2 = 0
      · simp only [h, if_true]; rfl
      · simp only [h, if_false]; rfl
    rw [hres]
    clear hW0 sz h0 h1 h2 B0 c2 hsz hrow hm HC hres
    generalize (if (membersT l).2 = 0 then 0 else 5 : Nat) = z at *
    generalize (if (membersT l).2 = 0 then tb (membersT l).1 else ⟨#[]⟩) = res at *
    generalize l.length = n at *
    go_enter Tryz.func21, Tryz.ntmps21
    go_wp2_with (first | (go_at_call 25; rw [← HW0.out]; refine (HM.out _ HB0.out).mono ?_; rintro e1 V ⟨rfl, b1⟩) | (go_at_call 34; refine (HC2.out _ b1).mono ?_; rintro e2 V2 ⟨rfl, q1, bV⟩; have q2 := q1.cell; have q3 := q1.frozen) | fail)
    have q4 := (q1.set (.string res)).cell
    refine bodyPost_ret (results_str_tmp (fn := Tryz.f21) (p := 4) (u := 5) (ty := 9) rfl _ _ (w.heap.size + 1 + 1) (.string res) rfl (by simp [go_sem, q4])) rfl ?_
    exact ⟨rfl, bV.trans (turn_to (turn_cell V2 (w.heap.size + 1 + 1) 0 _) (fun b e => by omega) bV.size)⟩
end Go.Proofs.YthemopejebioaaaGreat.Pl
