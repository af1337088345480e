/- The map of what is listed: block m holds just these texts, each with its lock. -/
import Derived.Test.YtkebfabmcajbmaaKnowOwnP
import Derived.Test.YtkebfabmcajbmaaKnowRefE
import Derived.Maps.RangeWalk
import Derived.Maps.OwnSet
import Derived.StringKeys
import Derived.Sort.KeysCollected
namespace Go.Proofs.Ytkebfabmcajbmaa.Pl
open Go.RowKit Go.Maps
open Go.WideElems (rg)

theorem keyed10 : Keyed Try.prog 9 := Maps.string_keyed Try.underlying9
theorem key10 (y : ByteArray) (h : y.size ≤ 281474976710656) : keyOf Try.prog 9 (.string y) = some (.string (bl y)) := WideMaps.keyOf_string_mk Try.underlying9 (by unfold maxLen; omega)
theorem zero10 (w : World) : (zeroValue 60).run Try.prog w = .ok (.agg #[.string ⟨#[]⟩, .string ⟨#[]⟩]) w := by kernel_rfl
/-- How a lock reads. -/
def lockE : Value → Option (DataW Nat × List MemPlace)
  | .agg cs => match cs.toList with
    | [.string a, .string b] => some (.agg [.lit (.string (bl a)), .lit (.string (bl b))], [])
    | _ => none
  | _ => none
abbrev mkLock (c : ByteArray × ByteArray) : Value := .agg #[.string c.1, .string c.2]
theorem lockE_mk (a b : ByteArray) : lockE (.agg #[.string a, .string b]) = some (.agg [.lit (.string (bl a)), .lit (.string (bl b))], []) := rfl
theorem lockE_inv {v : Value} {y : DataW Nat × List MemPlace} (h : lockE v = some y) : ∃ c : ByteArray × ByteArray, v = mkLock c ∧ y = (.agg [.lit (.string (bl c.1)), .lit (.string (bl c.2))], []) := by
  unfold lockE at h
  split at h
  · rename_i cs
    split at h
    · rename_i a b e
      refine ⟨(a, b), ?_, (Option.some.inj h).symm⟩
      rw [show cs = #[.string a, .string b] from Array.ext' (by rw [e])]
    · cases h
  · cases h
noncomputable def lockD (s : List UInt8) : DataW Nat := .agg [.lit (.string (lockP s).1), .lit (.string (lockP s).2)]
def tb10 (l : List UInt8) : ByteArray := ⟨l.toArray⟩
theorem bl_tb10 (l : List UInt8) : bl (tb10 l) = l := rfl
theorem lock_is {c : ByteArray × ByteArray} {s : List UInt8} (h : (.agg [.lit (.string (bl c.1)), .lit (.string (bl c.2))] : DataW Nat) = lockD s) : c = (tb10 (lockP s).1, tb10 (lockP s).2) := by
  unfold lockD at h
  injection h with h
  injection h with h1 h
  injection h with h2 h
  injection h1 with h1
  injection h1 with h1
  injection h2 with h2
  injection h2 with h2
  obtain ⟨a, b⟩ := c
  have e1 : a = tb10 (lockP s).1 := bl_inj h1
  have e2 : b = tb10 (lockP s).2 := bl_inj h2
  rw [e1, e2]
/-- Block m is a map of just these texts, each with its lock. -/
def MapD (X : List (List UInt8)) (D : DataW Nat) : Prop := Maps.size D = X.length ∧ (∀ s, Maps.has D (.string s) = decide (s ∈ X)) ∧ ∀ s ∈ X, ∀ z, D.atKey (.string s) z = lockD s
def MapK (w : World) (m : Nat) (X : List (List UInt8)) : Prop := ∃ D : DataW Nat, w.ownsMap Try.prog 9 lockE m X.length D ∧ MapD X D
theorem MapK.of_block {w w' : World} {m : Nat} {X : List (List UInt8)} (h : MapK w m X) (hb : w'.heap[m]? = w.heap[m]?) : MapK w' m X := by
  obtain ⟨D, ⟨es, clock, h1, h2⟩, h3⟩ := h
  exact ⟨D, ⟨es, clock, hb.trans h1, h2⟩, h3⟩
theorem MapK.lt {w : World} {m : Nat} {X : List (List UInt8)} (h : MapK w m X) : m < w.heap.size := by
  obtain ⟨D, h1, _⟩ := h
  exact h1.lt
theorem MapK.below {w w' : World} {m : Nat} {X : List (List UInt8)} (h : MapK w m X) (hb : Below w.heap.size w w') : MapK w' m X := h.of_block (hb.block m h.lt)
theorem MapK.ex {w : World} {m : Nat} {X : List (List UInt8)} (h : MapK w m X) : ∃ es clock, w.heap[m]? = some (.map es clock) := by
  obtain ⟨D, ⟨es, clock, h1, _⟩, _⟩ := h
  exact ⟨es, clock, h1⟩
theorem mapD_empty : MapD [] (.map []) := ⟨rfl, fun s => by simp [Maps.has], fun s h => by cases h⟩
theorem mapK_new (w : World) : MapK (w.alloc (.map #[] 0)) w.heap.size [] := ⟨.map [], World.ownsMap_made w _ _ _, mapD_empty⟩
theorem tight10 {w : World} {m n : Nat} {D : DataW Nat} (h : w.ownsMap Try.prog 9 lockE m n D) : w.ownsMap Try.prog 9 lockE m (Maps.size D) D := by
  obtain ⟨es, clock, hb, F, _, rfl⟩ := h
  exact ⟨es, clock, hb, F, by simp [Maps.size, length_sorted], rfl⟩
theorem isKeyS (s : List UInt8) : WideAt.IsKeyLit (.string s) := trivial
theorem strS_ne {a b : List UInt8} (h : a ≠ b) : Lit.string a ≠ Lit.string b := fun e => h (by injection e)
/-- A new one. -/
theorem MapK.store {w : World} {m : Nat} {X : List (List UInt8)} (h : MapK w m X) (hX : X.length ≤ 1000000000) (s : ByteArray) (hs : s.size ≤ 281474976710656) (hn : bl s ∉ X) :
    ∃ w', (Instr.mapUpdate 44 (.map (some m)) (.string s) (mkLock (tb10 (lockP (bl s)).1, tb10 (lockP (bl s)).2))).run Try.prog w = .ok () w' ∧ MapK w' m (X ++ [bl s]) ∧ w.mapTurned w' m := by
  obtain ⟨D, h1, h2, h3, h4⟩ := h
  obtain ⟨w', r1, r2, r3⟩ := h1.store keyed10 Try.underlying44 (by unfold maxLen; omega) (key10 s hs) (lockE_mk _ _)
  have hD : Maps.size (D.put (.string (bl s)) (lockD (bl s))) = (X ++ [bl s]).length := by
    rw [size_put (h1.tidy keyed10), h3, decide_eq_false hn, h2, List.length_append]
    rfl
  refine ⟨w', r1, ⟨_, ?_, hD, fun u => ?_, fun u hu z => ?_⟩, r3⟩
  · rw [← hD]
    exact tight10 r2
  · by_cases e : u = bl s
    · subst e
      rw [has_put_same h1.isMap (isKeyS _)]
      simp
    · rw [has_put_other (strS_ne e), h3]
      simp [e]
  · by_cases e : u = bl s
    · subst e
      exact atKey_put_same h1.isMap (isKeyS _) _ _
    · rw [atKey_put_other (strS_ne e)]
      rcases List.mem_append.1 hu with hu | hu
      · exact h4 u hu z
      · exact absurd (List.mem_singleton.1 hu) e
/-- One less. -/
theorem MapK.drop {w : World} {m : Nat} {X Y : List (List UInt8)} (s : ByteArray) (h : MapK w m (X ++ bl s :: Y)) (hs : s.size ≤ 281474976710656) (hn : (X ++ bl s :: Y).Nodup) (ty : TypeId) :
    ∃ w', (Builtin.delete_ #[44, 9] ty #[.map (some m), .string s]).run Try.prog w = .ok (.tuple #[]) w' ∧ MapK w' m (X ++ Y) ∧ w.mapTurned w' m := by
  obtain ⟨D, h1, h2, h3, h4⟩ := h
  obtain ⟨w', r1, r2, r3⟩ := h1.drop keyed10 Try.underlying44 (key10 s hs) ty
  have hin : ∀ u, u ∈ X ++ Y ↔ u ∈ X ++ bl s :: Y ∧ u ≠ bl s := by
    intro u
    rw [List.nodup_append] at hn
    obtain ⟨n1, n2, n3⟩ := hn
    have n4 := List.nodup_cons.1 n2
    simp only [List.mem_append, List.mem_cons]
    constructor
    · rintro (h | h)
      · exact ⟨.inl h, n3 u h (bl s) (by simp)⟩
      · exact ⟨.inr (.inr h), fun e => n4.1 (e ▸ h)⟩
    · rintro ⟨h | h | h, hne⟩
      · exact .inl h
      · exact absurd h hne
      · exact .inr h
  have hD : Maps.size (D.del (.string (bl s))) = (X ++ Y).length := by
    have := size_del (h1.tidy keyed10) (k := .string (bl s))
    rw [h3, h2, decide_eq_true (show bl s ∈ X ++ bl s :: Y by simp)] at this
    simp only [List.length_append, List.length_cons, if_true] at this ⊢
    omega
  refine ⟨w', r1, ⟨_, ?_, hD, fun u => ?_, fun u hu z => ?_⟩, r3⟩
  · rw [← hD]
    exact tight10 r2
  · by_cases e : u = bl s
    · subst e
      rw [has_del_same]
      exact (decide_eq_false (fun k => ((hin _).1 k).2 rfl)).symm
    · rw [has_del_other (strS_ne e), h3]
      exact decide_eq_decide.2 ⟨fun k => (hin u).2 ⟨k, e⟩, fun k => ((hin u).1 k).1⟩
  · have k := (hin u).1 hu
    rw [atKey_del_other (strS_ne k.2)]
    exact h4 u k.1 z
theorem MapK.same {w : World} {m : Nat} {X : List (List UInt8)} (h : MapK w m X) : ∃ D : DataW Nat, w.ownsMap Try.prog 9 lockE m X.length D ∧ MapD X D := h
theorem turned_turn {w w' : World} {m : Nat} (h : w.mapTurned w' m) {F : Nat → Prop} (hF : F m) : Turn F w w' := turn_grown h.grown hF

/-! ### At the operation -/
section
variable {ops : Array Oper} {rest : List Oper} {o : Oper} {a : Act} {Q : Exit → Act → World → Prop} {w : World}
theorem wpList_look10 (hg : o.guard = none) (mo xo : Operand) (hop : o.op = Op.lookup 44 mo xo true) (m : Nat) (X : List (List UInt8)) (s : ByteArray) (r : Bool) (hm : a.eval mo = .map (some m)) (hx : a.eval xo = .string s)
    (h : MapK w m X) (hs : s.size ≤ 281474976710656) (hr : decide (bl s ∈ X) = r)
    (hK : ∀ k y, wpList Try.prog ops Q rest (a.put o.dst (.tuple #[.agg #[.string k, .string y], .bool r])) w) : wpList Try.prog ops Q (o :: rest) a w := by
  obtain ⟨D, h1, h2, h3, h4⟩ := h
  refine wpList_lookup_own_ok w hg mo xo 44 hop 9 60 keyed10 Try.underlying44 lockE (zero10 w) _ [] (lockE_mk _ _) m X.length D hm h1 (.string s) (.string (bl s)) hx (key10 s hs) ?_
  intro v ps hv
  obtain ⟨c, rfl, _⟩ := lockE_inv hv
  rw [h3, hr]
  exact hK c.1 c.2
theorem wpList_len10 (hg : o.guard = none) (mo : Operand) (hop : o.op = Op.call { callee := Callee.builtin Builtin.len, args := #[mo], argTypes := #[44] }) (m : Nat) (X : List (List UInt8)) (z : Nat) (hz : X.length = z) (hm : a.eval mo = .map (some m))
    (h : MapK w m X) (hK : wpList Try.prog ops Q rest (a.put o.dst (.int .i64 z)) w) : wpList Try.prog ops Q (o :: rest) a w := by
  obtain ⟨D, h1, h2, _⟩ := h
  refine wpList_len_own w hg mo 44 hop 9 60 Try.underlying44 lockE m X.length D hm h1 ?_
  rw [h2, hz]
  exact hK
theorem wpList_drop10 (hg : o.guard = none) (mo xo : Operand) (hop : o.op = Op.call { callee := Callee.builtin Builtin.delete, args := #[mo, xo], argTypes := #[44, 9] }) (m : Nat) (X Y : List (List UInt8)) (s : ByteArray)
    (hm : a.eval mo = .map (some m)) (hx : a.eval xo = .string s) (h : MapK w m (X ++ bl s :: Y)) (hs : s.size ≤ 281474976710656) (hn : (X ++ bl s :: Y).Nodup)
    (hK : ∀ w', MapK w' m (X ++ Y) → w.mapTurned w' m → wpList Try.prog ops Q rest (a.put o.dst (.tuple #[])) w') : wpList Try.prog ops Q (o :: rest) a w := by
  refine wpList_plain hg fun K' hK' => ?_
  obtain ⟨w', hrun, r1, r2⟩ := h.drop s hs hn o.type
  unfold Oper.wp
  simp [execOp, hop, resolve, invoke, builtin, hm, hx, hrun, Result.andThen]
  exact hK' _ _ (hK w' r1 r2)
/-- Ranging over it begins. -/
theorem wpList_range10 (hg : o.guard = none) (mo : Operand) (hop : o.op = Op.range 44 mo) (m : Nat) (X : List (List UInt8)) (hm : a.eval mo = .map (some m)) (h : MapK w m X)
    (hK : ∀ w' D, MapD X D → w'.ranges Try.prog 9 lockE m w.heap.size X.length D (Maps.has D) X.length → w.grownBy w' none → w'.heap.size = w.heap.size + 1 → wpList Try.prog ops Q rest (a.put o.dst (.pointer (some ⟨w.heap.size, 0, none⟩))) w') : wpList Try.prog ops Q (o :: rest) a w := by
  obtain ⟨D, h1, hD⟩ := h
  refine wpList_range_own w hg mo 44 hop 9 60 keyed10 Try.underlying44 lockE m X.length D hm h1 ?_
  intro w' k1 k2 k3
  rw [hD.1] at k1
  exact hK w' D hD k1 k2 k3
/-- Its step. -/
theorem wpList_next10 (hg : o.guard = none) (it : Operand) (hop : o.op = Op.next it false) (m r : Nat) (X ss : List (List UInt8)) (D : DataW Nat) (left : Lit → Bool) (cnt : Nat) (hit : a.eval it = .pointer (some ⟨r, 0, none⟩))
    (h : w.ranges Try.prog 9 lockE m r X.length D left cnt) (hD : MapD X D) (hC : Collected D left ss)
    (hDone : ss.Nodup → (∀ s, s ∈ ss ↔ s ∈ X) → wpList Try.prog ops Q rest (a.put o.dst (.tuple #[.bool false])) w)
    (hMore : ∀ (x : List UInt8) (left' : Lit → Bool) (w' : World) (cnt' : Nat), x ∈ X → x ∉ ss → Collected D left' (ss ++ [x]) → w'.ranges Try.prog 9 lockE m r X.length D left' cnt' → cnt' < cnt → w.grownBy w' (some r) → w'.heap.size = w.heap.size →
      (Instr.entry (.pointer (some ⟨r, 0, none⟩))).run Try.prog w' = .ok (.tuple #[.string (tb10 x), mkLock (tb10 (lockP x).1, tb10 (lockP x).2)]) w' → wpList Try.prog ops Q rest (a.put o.dst (.tuple #[.bool true, .string (tb10 x), mkLock (tb10 (lockP x).1, tb10 (lockP x).2)])) w') :
    wpList Try.prog ops Q (o :: rest) a w := by
  refine wpList_next_ranges w hg it hop 9 keyed10 lockE encStr mkLock (fun key kl hk => by obtain ⟨x, hx, _⟩ := Maps.keyOf_str Try.underlying9 hk; exact ⟨x, hx⟩) (fun v y hv => by obtain ⟨c, e, _⟩ := lockE_inv hv; exact ⟨c, e⟩) m r X.length D left cnt hit h ?_ ?_
  · intro _ hl
    refine hDone hC.1 fun s => ?_
    rw [hC.2 s, hD.2.1]
    simp [hl]
  · intro x c kl y w' cnt' hkey hlk hv hat hrg hlt hgr hsz hen
    obtain ⟨x', ex, rfl, _⟩ := Maps.keyOf_str Try.underlying9 hkey
    obtain rfl : x = x' := encStr_inj ex
    obtain ⟨c', ec, rfl⟩ := lockE_inv hv
    obtain rfl : c = c' := by
      have : mkLock c = mkLock c' := ec
      obtain ⟨a, b⟩ := c
      obtain ⟨a', b'⟩ := c'
      simpa [mkLock] using this
    have hhas := Maps.has_true_of_atKey hat
    have hin : x ∈ X := by
      rw [hD.2.1] at hhas
      exact of_decide_eq_true hhas
    have hc := lock_is ((hat (.nil)).symm.trans (hD.2.2 x hin .nil))
    have hns : x ∉ ss := fun e => by
      have := ((hC.2 x).1 e).2
      rw [hlk] at this
      cases this
    subst hc
    exact hMore x _ w' cnt' hin hns (hC.step hlk hat) hrg hlt hgr hsz hen
end
end Go.Proofs.Ytkebfabmcajbmaa.Pl
