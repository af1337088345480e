/- A row's front and its rest as slices; a row appended to one that the call owns. -/
import Derived.Test.YtkebfabmcajbmaaKnowRefE
import Derived.Laws.OwnMore
import Derived.Laws.Slices
namespace Go.Proofs.Ytkebfabmcajbmaa.Pl
open Go.RowKit

theorem sz10 (V : World) : (sizeOf (Try.prog.elem 22)).run Try.prog V = .ok 1 V := by kernel_rfl
theorem elem10 : Try.prog.underlying 22 = some (.slice (Try.prog.elem 22)) := by kernel_rfl
/-- What a slice that is owned looks like. -/
def OwnS (oo : Option Addr) (cap : Nat) : Prop := (oo = none ∧ cap = 0) ∨ ∃ g, oo = some ⟨g, 0, none⟩
theorem own_shape {W : World} {B : Nat} {v : Value} {O : List ByteArray} (h : OwnT W B v O) : ∃ oo cap, v = .slice oo O.length cap ∧ OwnS oo cap ∧ O.length ≤ cap ∧ TxtRow W oo O := by
  obtain ⟨a, c, e, hr⟩ := ownT_row h
  rcases h.2 with ⟨rfl, h0⟩ | ⟨g, cap, cur, rfl, _, _, hc, _⟩
  · injection e with e1 e2 e3
    exact ⟨a, c, by rw [← e1, ← e2, ← e3], .inl ⟨e1.symm, e3.symm⟩, by omega, hr⟩
  · injection e with e1 e2 e3
    exact ⟨a, c, by rw [← e1, ← e3], .inr ⟨g, e1.symm⟩, by omega, hr⟩
theorem cut_front (oo : Option Addr) (z cap j : Nat) (ho : OwnS oo cap) (hj : j ≤ cap) (V : World) : (Instr.sliceAt 22 (.slice oo z cap) none (some (.int .i64 (j : Int))) none).run Try.prog V = .ok (.slice oo j cap) V := by
  rw [run_sliceAt_slice _ _ _ _ _ _ elem10, run_slice_h _ _ _ _ _ elem10 _ _ (by omega) (by omega), sz10]
  simp only [Result.andThen_ok, sliced, Int.toNat_natCast, Nat.sub_zero, Nat.zero_mul]
  rcases ho with ⟨rfl, rfl⟩ | ⟨g, rfl⟩
  · simp
  · split
    · rfl
    · simp [Addr.add]
theorem cut_rest (oo : Option Addr) (z cap j : Nat) (hj : j ≤ z) (V : World) : (Instr.sliceAt 22 (.slice oo z cap) (some (.int .i64 (j : Int))) none none).run Try.prog V = .ok (.slice (if cap = j then oo else oo.map (·.add j)) (z - j) (cap - j)) V := by
  rw [run_sliceAt_slice _ _ _ _ _ _ elem10, run_slice_l _ _ _ _ _ elem10 _ _ (by omega) (by omega), sz10]
  simp only [Result.andThen_ok, sliced, Int.toNat_natCast, Nat.mul_one]
theorem front_row {W : World} {oo : Option Addr} {O : List ByteArray} (h : TxtRow W oo O) (j : Nat) : TxtRow W oo (O.take j) := by
  rcases h with h | ⟨b, off, e, hlt, hc⟩
  · subst h; exact .inl (by simp)
  · refine .inr ⟨b, off, e, hlt, fun i hi => ?_⟩
    rw [List.length_take] at hi
    rw [hc i (by omega)]
    simp [List.getD_eq_getElem?_getD, show i < j by omega]
theorem rest_row {W : World} {oo : Option Addr} {cap : Nat} {O : List ByteArray} (h : TxtRow W oo O) (ho : OwnS oo cap) (hc : O.length ≤ cap) (j : Nat) : TxtRow W (if cap = j then oo else oo.map (·.add j)) (O.drop j) := by
  by_cases h0 : O.drop j = []
  · exact .inl h0
  · have hj : j < O.length := by
      apply Classical.byContradiction
      intro e
      exact h0 (List.drop_eq_nil_of_le (by omega))
    rw [if_neg (by omega)]
    rcases h with h | ⟨b, off, e, hlt, hcell⟩
    · subst h; simp at hj
    · rcases ho with ⟨rfl, _⟩ | ⟨g, rfl⟩
      · cases e
      · cases e
        refine .inr ⟨b, j, by
          simp only [Option.map_some, Addr.add]
          split <;> simp_all, hlt, fun i hi => ?_⟩
        rw [List.length_drop] at hi
        have := hcell (j + i) (by omega)
        rw [Nat.zero_add] at this
        rw [this]
        simp [List.getD_eq_getElem?_getD, List.getElem?_drop]
theorem rest_none {oo : Option Addr} {cap j : Nat} (ho : OwnS oo cap) : (if cap = j then oo else oo.map (·.add j)) = none → cap - j = 0 := by
  rcases ho with ⟨rfl, rfl⟩ | ⟨g, rfl⟩
  · intro _; omega
  · intro h
    split at h <;> cases h
/-- The same of any row. -/
theorem cut_front2 (ao : Option Addr) (z cap j : Nat) (hj : j ≤ cap) (V : World) : (Instr.sliceAt 22 (.slice ao z cap) none (some (.int .i64 (j : Int))) none).run Try.prog V = .ok (.slice (if cap = 0 then ao else ao.map (·.add 0)) j cap) V := by
  rw [run_sliceAt_slice _ _ _ _ _ _ elem10, run_slice_h _ _ _ _ _ elem10 _ _ (by omega) (by omega), sz10]
  simp only [Result.andThen_ok, sliced, Int.toNat_natCast, Nat.sub_zero, Nat.zero_mul]
theorem add0 (b off : Nat) : (⟨b, off, none⟩ : Addr).add 0 = ⟨b, off, none⟩ := by unfold Addr.add; simp
theorem front_row2 {W : World} {ao : Option Addr} {cap : Nat} {l : List ByteArray} (h : TxtRow W ao l) (j : Nat) : TxtRow W (if cap = 0 then ao else ao.map (·.add 0)) (l.take j) := by
  by_cases h0 : l = []
  · subst h0; exact .inl (by simp)
  · have hr := front_row h j
    rcases h with h | ⟨b, off, rfl, _⟩
    · exact absurd h h0
    · split
      · exact hr
      · rw [Option.map_some, add0]; exact hr
theorem front_none {ao : Option Addr} {cap : Nat} (hp : ao = none → cap = 0) : (if cap = 0 then ao else ao.map (·.add 0)) = none → cap = 0 := by
  intro h
  split at h
  · assumption
  · cases ao with
    | none => exact hp rfl
    | some a => cases h
theorem rest_row2 {W : World} {ao : Option Addr} {cap : Nat} {l : List ByteArray} (h : TxtRow W ao l) (hc : l.length ≤ cap) (j : Nat) : TxtRow W (if cap = j then ao else ao.map (·.add j)) (l.drop j) := by
  by_cases h0 : l.drop j = []
  · exact .inl h0
  · have hj : j < l.length := by
      apply Classical.byContradiction
      intro e
      exact h0 (List.drop_eq_nil_of_le (by omega))
    rw [if_neg (by omega)]
    rcases h with h | ⟨b, off, rfl, hlt, hcell⟩
    · subst h; simp at hj
    · refine .inr ⟨b, off + j, by
        simp only [Option.map_some, Addr.add]
        split <;> simp_all, hlt, fun i hi => ?_⟩
      rw [List.length_drop] at hi
      have := hcell (j + i) (by omega)
      rw [← Nat.add_assoc] at this
      rw [this]
      simp [List.getD_eq_getElem?_getD, List.getElem?_drop]
theorem rest_none2 {ao : Option Addr} {cap j : Nat} (hp : ao = none → cap = 0) : (if cap = j then ao else ao.map (·.add j)) = none → cap - j = 0 := by
  intro h
  cases ao with
  | none => have := hp rfl; omega
  | some a => split at h <;> cases h
/-- append(v, l...) of a row to one that is owned. -/
theorem appT_run {W : World} {B : Nat} {v : Value} {l m : List ByteArray} {ao : Option Addr} {cap : Nat} (hown : OwnT W B v l) (hB : B ≤ W.heap.size) (hrow : TxtRow W ao m) (hp : ao = none → cap = 0) (hl : l.length + m.length ≤ 1000000000) :
    ∃ v' w', (Builtin.append_ #[22, 22] 22 #[v, .slice ao m.length cap]).run Try.prog W = .ok v' w' ∧ OwnT w' B v' (l ++ m) ∧ Below B W w' ∧ W.grownBy w' v.ownBlock := by
  obtain ⟨i0, hi, hz0, hz1, hz2⟩ := info_parts infoStr
  cases ao with
  | none =>
    have h0 : m = [] := by
      rcases hrow with h0 | ⟨b, off, hb, _⟩
      · exact h0
      · cases hb
    subst h0
    obtain rfl := hp rfl
    have hr := run_append_owned_none (P := Try.prog) (w := W) B 22 22 9 i0 1 Try.underlying22 hi v l.length (txts l) hown
    exact ⟨v, W, hr, by rw [List.append_nil]; exact hown, Below.refl _ _, ⟨rfl, rfl, rfl, Nat.le_refl _, fun _ _ _ => rfl⟩⟩
  | some ad =>
    obtain ⟨v', w', hr, h1, h2, _⟩ := run_append_own (P := Try.prog) W B 22 22 9 i0 (.string ⟨#[]⟩) 1 16 Try.underlying22 hi hz0 hz1 hz2 rfl (by decide) v l.length (txts l) hown ad m.length cap (txts m) (by rw [txts_length, Nat.mul_one])
      (by
        intro j u hu
        have hj := (List.getElem?_eq_some_iff.1 hu).1
        rw [txts_length] at hj
        rcases hrow with h0 | ⟨b, off, hb, hlt, hc⟩
        · subst h0; simp at hj
        · cases hb
          rw [txts_at m j hj] at hu
          have e : u = .string (m.getD j ByteArray.empty) := (Option.some.inj hu).symm
          rw [e, show (⟨b, off, none⟩ : Addr).add j = ⟨b, off + j, none⟩ from by unfold Addr.add; split <;> simp_all]
          exact hc j hj)
      (by
        intro u hu
        obtain ⟨y, _, rfl⟩ := List.mem_map.1 hu
        rfl) (by unfold maxLen; omega) (by omega) hB
    refine ⟨v', w', hr, ?_, (Below.refl B W).grown h2 hB (fun j hj => own_low hown hj), h2⟩
    unfold OwnT
    rw [List.length_append, show txts (l ++ m) = txts l ++ txts m by simp [txts]]
    exact h1
/-- The operation, in a region that draws. -/
theorem wp_appT {o : Oper} {a : Act} {K : Act → World → Prop} {Q : Exit → Act → World → Prop} {W : World} (s x : Operand)
    (ho : o.op = .call { callee := .builtin .append, args := #[s, x], argTypes := #[22, 22] }) (hty : o.type = 22) {v u v' : Value} {w' : World} (hs : a.eval s = v) (hx : a.eval x = u)
    (hr : (Builtin.append_ #[22, 22] 22 #[v, u]).run Try.prog W = .ok v' w') (hK : K (a.put o.dst v') w') : o.wp Try.prog a W K Q := by
  unfold Oper.wp execOp
  simp only [ho, hty, resolve, invoke, builtin, Sem.run_bind, Sem.run_pure, Result.andThen_ok, List.map_toArray, List.map_cons, List.map_nil, hs, hx, hr]
  exact hK
end Go.Proofs.Ytkebfabmcajbmaa.Pl
