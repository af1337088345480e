/- The map of what is listed: block m holds just these texts, each with its lock. What steps come to, over lists of bytes, and that all of it can be made of what was seen; plain mathematics alone. How a row of steps that came in reads. What the document's functions of layer 11 answer: which fields are named, what was seen. Whether more steps were given than a statement of layer 11 goes through. append of a row of steps to a row of steps that the call owns. A map whose values are kept as they are: what it holds; looked up, and stored to. How the program's own How finds steps: what is made, what is closed up still, and that it ends with all that can be made; plain mathematics alone. -/
import Derived.Test.YtpajcalfjfkogaaForgeF3
import Derived.Maps.RangeWalk
import Derived.Maps.OwnSet
import Derived.StringKeys
import Derived.Sort.KeysCollected
import Derived.Test.YtpajcalfjfkogaaForgeF1
import Derived.ChangeSlices
import Derived.Deep.Slices
namespace Go.Proofs.Ytpajcalfjfkogaa.Pl
open Go.RowKit Go.Maps
open Go.WideElems (rg)

theorem keyed10 : Keyed Try.prog 9 := Maps.string_keyed Try.underlying9
theorem key10 (y : ByteArray) (h : y.size ≤ 281474976710656) : keyOf Try.prog 9 (.string y) = some (.string (bl y)) := WideMaps.keyOf_string_mk Try.underlying9 (by unfold maxLen; omega)
theorem zero10 (w : World) : (zeroValue 93).run Try.prog w = .ok (.agg #[.string ⟨#[]⟩, .string ⟨#[]⟩]) w := by kernel_rfl
/-- How a lock reads. -/
def lockE : Value → Option (DataW Nat × List MemPlace)
  | .agg cs => match cs.toList with
    | [.string a, .string b] => some (.agg [.lit (.string (bl a)), .lit (.string (bl b))], [])
    | _ => none
  | _ => none
abbrev mkLock (c : ByteArray × ByteArray) : Value := .agg #[.string c.1, .string c.2]
theorem lockE_mk (a b : ByteArray) : lockE (.agg #[.string a, .string b]) = some (.agg [.lit (.string (bl a)), .lit (.string (bl b))], []) := rfl
theorem lockE_inv {v : Value} {y : DataW Nat × List MemPlace} (h : lockE v = some y) : ∃ c : ByteArray × ByteArray, v = mkLock c ∧ y = (.agg [.lit (.string (bl c.1)), .lit (.string (bl c.2))], []) := by
  unfold lockE at h
  split at h
  · rename_i cs
    split at h
    · rename_i a b e
      refine ⟨(a, b), ?_, (Option.some.inj h).symm⟩
      rw [show cs = #[.string a, .string b] from Array.ext' (by rw [e])]
    · cases h
  · cases h
noncomputable def lockD (s : List UInt8) : DataW Nat := .agg [.lit (.string (lockP s).1), .lit (.string (lockP s).2)]
def tb10 (l : List UInt8) : ByteArray := ⟨l.toArray⟩
theorem lock_is {c : ByteArray × ByteArray} {s : List UInt8} (h : (.agg [.lit (.string (bl c.1)), .lit (.string (bl c.2))] : DataW Nat) = lockD s) : c = (tb10 (lockP s).1, tb10 (lockP s).2) := by
  unfold lockD at h
  injection h with h
  injection h with h1 h
  injection h with h2 h
  injection h1 with h1
  injection h1 with h1
  injection h2 with h2
  injection h2 with h2
  obtain ⟨a, b⟩ := c
  have e1 : a = tb10 (lockP s).1 := bl_inj h1
  have e2 : b = tb10 (lockP s).2 := bl_inj h2
  rw [e1, e2]
/-- Block m is a map of just these texts, each with its lock. -/
def MapD (X : List (List UInt8)) (D : DataW Nat) : Prop := Maps.size D = X.length ∧ (∀ s, Maps.has D (.string s) = decide (s ∈ X)) ∧ ∀ s ∈ X, ∀ z, D.atKey (.string s) z = lockD s
def MapK (w : World) (m : Nat) (X : List (List UInt8)) : Prop := ∃ D : DataW Nat, w.ownsMap Try.prog 9 lockE m X.length D ∧ MapD X D
theorem MapK.of_block {w w' : World} {m : Nat} {X : List (List UInt8)} (h : MapK w m X) (hb : w'.heap[m]? = w.heap[m]?) : MapK w' m X := by
  obtain ⟨D, ⟨es, clock, h1, h2⟩, h3⟩ := h
  exact ⟨D, ⟨es, clock, hb.trans h1, h2⟩, h3⟩
theorem MapK.lt {w : World} {m : Nat} {X : List (List UInt8)} (h : MapK w m X) : m < w.heap.size := by
  obtain ⟨D, h1, _⟩ := h
  exact h1.lt
theorem MapK.below {w w' : World} {m : Nat} {X : List (List UInt8)} (h : MapK w m X) (hb : Below w.heap.size w w') : MapK w' m X := h.of_block (hb.block m h.lt)
theorem MapK.ex {w : World} {m : Nat} {X : List (List UInt8)} (h : MapK w m X) : ∃ es clock, w.heap[m]? = some (.map es clock) := by
  obtain ⟨D, ⟨es, clock, h1, _⟩, _⟩ := h
  exact ⟨es, clock, h1⟩
theorem mapD_empty : MapD [] (.map []) := ⟨rfl, fun s => by simp [Maps.has], fun s h => by cases h⟩
theorem mapK_new (w : World) : MapK (w.alloc (.map #[] 0)) w.heap.size [] := ⟨.map [], World.ownsMap_made w _ _ _, mapD_empty⟩
theorem tight10 {w : World} {m n : Nat} {D : DataW Nat} (h : w.ownsMap Try.prog 9 lockE m n D) : w.ownsMap Try.prog 9 lockE m (Maps.size D) D := by
  obtain ⟨es, clock, hb, F, _, rfl⟩ := h
  exact ⟨es, clock, hb, F, by simp [Maps.size, length_sorted], rfl⟩
theorem isKeyS (s : List UInt8) : WideAt.IsKeyLit (.string s) := trivial
theorem strS_ne {a b : List UInt8} (h : a ≠ b) : Lit.string a ≠ Lit.string b := fun e => h (by injection e)
/-- A new one. -/
theorem MapK.store {w : World} {m : Nat} {X : List (List UInt8)} (h : MapK w m X) (hX : X.length ≤ 1000000000) (s : ByteArray) (hs : s.size ≤ 281474976710656) (hn : bl s ∉ X) :
    ∃ w', (Instr.mapUpdate 86 (.map (some m)) (.string s) (mkLock (tb10 (lockP (bl s)).1, tb10 (lockP (bl s)).2))).run Try.prog w = .ok () w' ∧ MapK w' m (X ++ [bl s]) ∧ w.mapTurned w' m := by
  obtain ⟨D, h1, h2, h3, h4⟩ := h
  obtain ⟨w', r1, r2, r3⟩ := h1.store keyed10 Try.underlying86 (by unfold maxLen; omega) (key10 s hs) (lockE_mk _ _)
  have hD : Maps.size (D.put (.string (bl s)) (lockD (bl s))) = (X ++ [bl s]).length := by
    rw [size_put (h1.tidy keyed10), h3, decide_eq_false hn, h2, List.length_append]
    rfl
  refine ⟨w', r1, ⟨_, ?_, hD, fun u => ?_, fun u hu z => ?_⟩, r3⟩
  · rw [← hD]
    exact tight10 r2
  · by_cases e : u = bl s
    · subst e
      rw [has_put_same h1.isMap (isKeyS _)]
      simp
    · rw [has_put_other (strS_ne e), h3]
      simp [e]
  · by_cases e : u = bl s
    · subst e
      exact atKey_put_same h1.isMap (isKeyS _) _ _
    · rw [atKey_put_other (strS_ne e)]
      rcases List.mem_append.1 hu with hu | hu
      · exact h4 u hu z
      · exact absurd (List.mem_singleton.1 hu) e
/-- One less. -/
theorem MapK.drop {w : World} {m : Nat} {X Y : List (List UInt8)} (s : ByteArray) (h : MapK w m (X ++ bl s :: Y)) (hs : s.size ≤ 281474976710656) (hn : (X ++ bl s :: Y).Nodup) (ty : TypeId) :
    ∃ w', (Builtin.delete_ #[86, 9] ty #[.map (some m), .string s]).run Try.prog w = .ok (.tuple #[]) w' ∧ MapK w' m (X ++ Y) ∧ w.mapTurned w' m := by
  obtain ⟨D, h1, h2, h3, h4⟩ := h
  obtain ⟨w', r1, r2, r3⟩ := h1.drop keyed10 Try.underlying86 (key10 s hs) ty
  have hin : ∀ u, u ∈ X ++ Y ↔ u ∈ X ++ bl s :: Y ∧ u ≠ bl s := by
    intro u
    rw [List.nodup_append] at hn
    obtain ⟨n1, n2, n3⟩ := hn
    have n4 := List.nodup_cons.1 n2
    simp only [List.mem_append, List.mem_cons]
    constructor
    · rintro (h | h)
      · exact ⟨.inl h, n3 u h (bl s) (by simp)⟩
      · exact ⟨.inr (.inr h), fun e => n4.1 (e ▸ h)⟩
    · rintro ⟨h | h | h, hne⟩
      · exact .inl h
      · exact absurd h hne
      · exact .inr h
  have hD : Maps.size (D.del (.string (bl s))) = (X ++ Y).length := by
    have := size_del (h1.tidy keyed10) (k := .string (bl s))
    rw [h3, h2, decide_eq_true (show bl s ∈ X ++ bl s :: Y by simp)] at this
    simp only [List.length_append, List.length_cons, if_true] at this ⊢
    omega
  refine ⟨w', r1, ⟨_, ?_, hD, fun u => ?_, fun u hu z => ?_⟩, r3⟩
  · rw [← hD]
    exact tight10 r2
  · by_cases e : u = bl s
    · subst e
      rw [has_del_same]
      exact (decide_eq_false (fun k => ((hin _).1 k).2 rfl)).symm
    · rw [has_del_other (strS_ne e), h3]
      exact decide_eq_decide.2 ⟨fun k => (hin u).2 ⟨k, e⟩, fun k => ((hin u).1 k).1⟩
  · have k := (hin u).1 hu
    rw [atKey_del_other (strS_ne k.2)]
    exact h4 u k.1 z
theorem MapK.same {w : World} {m : Nat} {X : List (List UInt8)} (h : MapK w m X) : ∃ D : DataW Nat, w.ownsMap Try.prog 9 lockE m X.length D ∧ MapD X D := h
theorem turned_turn {w w' : World} {m : Nat} (h : w.mapTurned w' m) {F : Nat → Prop} (hF : F m) : Turn F w w' := turn_grown h.grown hF

/-! ### At the operation -/
section
variable {ops : Array Oper} {rest : List Oper} {o : Oper} {a : Act} {Q : Exit → Act → World → Prop} {w : World}
theorem wpList_look10 (hg : o.guard = none) (mo xo : Operand) (hop : o.op = Op.lookup 86 mo xo true) (m : Nat) (X : List (List UInt8)) (s : ByteArray) (r : Bool) (hm : a.eval mo = .map (some m)) (hx : a.eval xo = .string s)
    (h : MapK w m X) (hs : s.size ≤ 281474976710656) (hr : decide (bl s ∈ X) = r)
    (hK : ∀ k y, wpList Try.prog ops Q rest (a.put o.dst (.tuple #[.agg #[.string k, .string y], .bool r])) w) : wpList Try.prog ops Q (o :: rest) a w := by
  obtain ⟨D, h1, h2, h3, h4⟩ := h
  refine wpList_lookup_own_ok w hg mo xo 86 hop 9 93 keyed10 Try.underlying86 lockE (zero10 w) _ [] (lockE_mk _ _) m X.length D hm h1 (.string s) (.string (bl s)) hx (key10 s hs) ?_
  intro v ps hv
  obtain ⟨c, rfl, _⟩ := lockE_inv hv
  rw [h3, hr]
  exact hK c.1 c.2
theorem wpList_len10 (hg : o.guard = none) (mo : Operand) (hop : o.op = Op.call { callee := Callee.builtin Builtin.len, args := #[mo], argTypes := #[86] }) (m : Nat) (X : List (List UInt8)) (z : Nat) (hz : X.length = z) (hm : a.eval mo = .map (some m))
    (h : MapK w m X) (hK : wpList Try.prog ops Q rest (a.put o.dst (.int .i64 z)) w) : wpList Try.prog ops Q (o :: rest) a w := by
  obtain ⟨D, h1, h2, _⟩ := h
  refine wpList_len_own w hg mo 86 hop 9 93 Try.underlying86 lockE m X.length D hm h1 ?_
  rw [h2, hz]
  exact hK
theorem wpList_drop10 (hg : o.guard = none) (mo xo : Operand) (hop : o.op = Op.call { callee := Callee.builtin Builtin.delete, args := #[mo, xo], argTypes := #[86, 9] }) (m : Nat) (X Y : List (List UInt8)) (s : ByteArray)
    (hm : a.eval mo = .map (some m)) (hx : a.eval xo = .string s) (h : MapK w m (X ++ bl s :: Y)) (hs : s.size ≤ 281474976710656) (hn : (X ++ bl s :: Y).Nodup)
    (hK : ∀ w', MapK w' m (X ++ Y) → w.mapTurned w' m → wpList Try.prog ops Q rest (a.put o.dst (.tuple #[])) w') : wpList Try.prog ops Q (o :: rest) a w := by
  refine wpList_plain hg fun K' hK' => ?_
  obtain ⟨w', hrun, r1, r2⟩ := h.drop s hs hn o.type
  unfold Oper.wp
  simp [execOp, hop, resolve, invoke, builtin, hm, hx, hrun, Result.andThen]
  exact hK' _ _ (hK w' r1 r2)
/-- Ranging over it begins. -/
theorem wpList_range10 (hg : o.guard = none) (mo : Operand) (hop : o.op = Op.range 86 mo) (m : Nat) (X : List (List UInt8)) (hm : a.eval mo = .map (some m)) (h : MapK w m X)
    (hK : ∀ w' D, MapD X D → w'.ranges Try.prog 9 lockE m w.heap.size X.length D (Maps.has D) X.length → w.grownBy w' none → w'.heap.size = w.heap.size + 1 → wpList Try.prog ops Q rest (a.put o.dst (.pointer (some ⟨w.heap.size, 0, none⟩))) w') : wpList Try.prog ops Q (o :: rest) a w := by
  obtain ⟨D, h1, hD⟩ := h
  refine wpList_range_own w hg mo 86 hop 9 93 keyed10 Try.underlying86 lockE m X.length D hm h1 ?_
  intro w' k1 k2 k3
  rw [hD.1] at k1
  exact hK w' D hD k1 k2 k3
/-- Its step. -/
theorem wpList_next10 (hg : o.guard = none) (it : Operand) (hop : o.op = Op.next it false) (m r : Nat) (X ss : List (List UInt8)) (D : DataW Nat) (left : Lit → Bool) (cnt : Nat) (hit : a.eval it = .pointer (some ⟨r, 0, none⟩))
    (h : w.ranges Try.prog 9 lockE m r X.length D left cnt) (hD : MapD X D) (hC : Collected D left ss)
    (hDone : ss.Nodup → (∀ s, s ∈ ss ↔ s ∈ X) → wpList Try.prog ops Q rest (a.put o.dst (.tuple #[.bool false])) w)
    (hMore : ∀ (x : List UInt8) (left' : Lit → Bool) (w' : World) (cnt' : Nat), x ∈ X → x ∉ ss → Collected D left' (ss ++ [x]) → w'.ranges Try.prog 9 lockE m r X.length D left' cnt' → cnt' < cnt → w.grownBy w' (some r) → w'.heap.size = w.heap.size →
      (Instr.entry (.pointer (some ⟨r, 0, none⟩))).run Try.prog w' = .ok (.tuple #[.string (tb10 x), mkLock (tb10 (lockP x).1, tb10 (lockP x).2)]) w' → wpList Try.prog ops Q rest (a.put o.dst (.tuple #[.bool true, .string (tb10 x), mkLock (tb10 (lockP x).1, tb10 (lockP x).2)])) w') :
    wpList Try.prog ops Q (o :: rest) a w := by
  refine wpList_next_ranges w hg it hop 9 keyed10 lockE encStr mkLock (fun key kl hk => by obtain ⟨x, hx, _⟩ := Maps.keyOf_str Try.underlying9 hk; exact ⟨x, hx⟩) (fun v y hv => by obtain ⟨c, e, _⟩ := lockE_inv hv; exact ⟨c, e⟩) m r X.length D left cnt hit h ?_ ?_
  · intro _ hl
    refine hDone hC.1 fun s => ?_
    rw [hC.2 s, hD.2.1]
    simp [hl]
  · intro x c kl y w' cnt' hkey hlk hv hat hrg hlt hgr hsz hen
    obtain ⟨x', ex, rfl, _⟩ := Maps.keyOf_str Try.underlying9 hkey
    obtain rfl : x = x' := encStr_inj ex
    obtain ⟨c', ec, rfl⟩ := lockE_inv hv
    obtain rfl : c = c' := by
      have : mkLock c = mkLock c' := ec
      obtain ⟨a, b⟩ := c
      obtain ⟨a', b'⟩ := c'
      simpa [mkLock] using this
    have hhas := Maps.has_true_of_atKey hat
    have hin : x ∈ X := by
      rw [hD.2.1] at hhas
      exact of_decide_eq_true hhas
    have hc := lock_is ((hat (.nil)).symm.trans (hD.2.2 x hin .nil))
    have hns : x ∉ ss := fun e => by
      have := ((hC.2 x).1 e).2
      rw [hlk] at this
      cases this
    subst hc
    exact hMore x _ w' cnt' hin hns (hC.step hlk hat) hrg hlt hgr hsz hen
end
end Go.Proofs.Ytpajcalfjfkogaa.Pl

namespace Go.Proofs.Ytpajcalfjfkogaa.Pl

/-- A step. -/
structure Stp where
  fn : Nat
  a : Int
  b : Int
  c : Int
  n : Int
  text : ByteArray
  list : List Int
/-- Which fields a step of a kind names. -/
def namesA (f : Nat) : Bool := f == 3 || f == 4 || f == 5 || f == 7 || f == 8 || f == 9
def namesB (f : Nat) : Bool := f == 5 || f == 8 || f == 9
def namesC (f : Nat) : Bool := f == 9
def namesN (f : Nat) : Bool := f == 1 || f == 3
def namesT (f : Nat) : Bool := f == 2
def namesL (f : Nat) : Bool := f == 6
def namesK (f : Nat) : Bool := decide (1 ≤ f) && decide (f ≤ 9)
def namedP (is : Bool) (v : Int) (k : Nat) : Bool := if is then decide (0 ≤ v) && decide (v < k) else decide (v = 0)
/-- May a step's fields be, with so many steps ahead? -/
def maySt (s : Stp) (k : Nat) : Bool :=
  namesK s.fn && namedP (namesA s.fn) s.a k && namedP (namesB s.fn) s.b k && namedP (namesC s.fn) s.c k &&
  (namesN s.fn || decide (s.n = 0)) && (namesT s.fn || decide (s.text.size = 0)) && (namesL s.fn || s.list.isEmpty) && s.list.all fun v => decide (0 ≤ v) && decide (v < k)
/-- The term of an earlier step. -/
def termAt (l : List (List UInt8)) (v : Int) : List UInt8 := l.getD v.toNat []
/-- What a step makes whose fields may be. -/
noncomputable def stepP (was l : List (List UInt8)) (s : Stp) : List UInt8 × Nat :=
  if s.fn = 1 then (if 0 ≤ s.n ∧ s.n < was.length then (if checkP (termAt was s.n) = 0 then (termAt was s.n, 0) else ([], 2)) else ([], 3)) else
  if s.fn = 2 then dataP (bl s.text) else
  if s.fn = 6 then rowP ((s.list.take 33).map (termAt l)) else
  if s.fn = 7 then madeP [104] [termAt l s.a] else
  if s.fn = 8 then madeP [109] [termAt l s.a, termAt l s.b] else
  if s.fn = 9 then madeP [115] [termAt l s.a, termAt l s.b, termAt l s.c] else
  if s.fn = 3 then (if kindP (termAt l s.a) = 3 then (if 0 ≤ s.n ∧ s.n < (partsP (termAt l s.a)).1.length then ((partsP (termAt l s.a)).1.getD s.n.toNat [], 0) else ([], 3)) else ([], 8)) else
  if kindP (termAt l s.a) = 6 then (if s.fn = 4 then ((partsP (termAt l s.a)).1.getD 1 [], 0) else
    if (partsP (termAt l s.a)).1.getD 0 [] = termAt l s.b then ((partsP (termAt l s.a)).1.getD 2 [], 0) else ([], 80)) else ([], 8)
/-- One step behind others. -/
noncomputable def oneP (was l : List (List UInt8)) (s : Stp) : List UInt8 × Nat := if maySt s l.length = true then stepP was l s else ([], 2)
/-- Some steps behind others: the terms, or which can't be, and why. -/
noncomputable def stepsP (was : List (List UInt8)) : List Stp → List (List UInt8) → List (List UInt8) × Nat × Nat
  | [], l => (l, 0, 0)
  | s :: r, l => if (oneP was l s).2 = 0 then stepsP was r (l ++ [(oneP was l s).1]) else ([], l.length, (oneP was l s).2)
noncomputable def termsP (was : List (List UInt8)) (ss : List Stp) : List (List UInt8) × Nat × Nat :=
  if ss.length = 0 then ([], 0, 3) else if 32768 < ss.length then ([], 0, 5) else stepsP was ss []

theorem steps_len (was : List (List UInt8)) : ∀ (ss : List Stp) (l r : List (List UInt8)) (k : Nat), stepsP was ss l = (r, k, 0) → r.length = l.length + ss.length ∧ l <+: r ∧ k = 0
  | [], l, r, k, h => by
    simp only [stepsP, Prod.mk.injEq] at h
    obtain ⟨rfl, rfl, _⟩ := h
    simp
  | s :: ss, l, r, k, h => by
    rw [stepsP] at h
    split at h
    · obtain ⟨h1, h2, h3⟩ := steps_len was ss _ r k h
      refine ⟨?_, (List.prefix_append l _).trans h2, h3⟩
      rw [h1]
      simp only [List.length_append, List.length_cons, List.length_nil]
      omega
    · rename_i hz
      injection h with h1 h
      injection h with h2 h
      exact absurd h hz
/-- Whoever fails tells nothing. -/
theorem steps_none (was : List (List UInt8)) : ∀ (ss : List Stp) (l : List (List UInt8)), (stepsP was ss l).2.2 ≠ 0 → (stepsP was ss l).1 = []
  | [], l, h => by simp [stepsP] at h
  | s :: ss, l, h => by
    rw [stepsP] at h ⊢
    split
    · rename_i hz
      rw [if_pos hz] at h
      exact steps_none was ss _ h
    · rfl
theorem getD_in {l : List (List UInt8)} {k : Nat} (h : k < l.length) : l.getD k [] ∈ l := by
  rw [List.getD_eq_getElem?_getD, List.getElem?_eq_getElem h]
  exact List.getElem_mem h
theorem named_at {v : Int} {k : Nat} (h : namedP true v k = true) : v.toNat < k := by
  simp only [namedP, if_true, Bool.and_eq_true, decide_eq_true_eq] at h
  omega

/-! ### What can be made -/
/-- Nobody knows a datum, or a row: what is known is listed. -/
def Listed (L : Tm → Prop) : Prop := ∀ h l, L (.node h l) → h.head? ≠ some 100 ∧ h.head? ≠ some 114
theorem cl_listed (S : Tm → Prop) : Listed (Cl S) := fun h l hy => by
  have := cl_least (S := S) (L := fun y => Cl S y ∧ ∀ h l, y = .node h l → h.head? ≠ some 100 ∧ h.head? ≠ some 114)
    (fun k n x hs => ⟨fun y hy => ⟨(cl_sat S k n x hs.1).1 y hy, fun h l e => by
      obtain ⟨h', l', e', k1, k2⟩ := take_kind n y hy
      rw [e] at e'
      injection e' with e1 e2
      subst e1
      exact ⟨k1, k2⟩⟩, fun hk y hy => ⟨(cl_sat S k n x hs.1).2 (can_mono (fun z hz => hz.1) k hk) y hy, fun h l e => by
      obtain ⟨h', l', e', k1, k2⟩ := take_kind x y hy
      rw [e] at e'
      injection e' with e1 e2
      subst e1
      exact ⟨k1, k2⟩⟩⟩)
    (fun t ht z hz => ⟨cl_take ht z hz, fun h l e => by
      obtain ⟨h', l', e', k1, k2⟩ := take_kind t z hz
      rw [e] at e'
      injection e' with e1 e2
      subst e1
      exact ⟨k1, k2⟩⟩) _ hy
  exact this.2 h l rfl
theorem can_row {L : Tm → Prop} (hL : Listed L) {h : List UInt8} {l : List Tm} (e : h.head? = some 114) (hc : can L (.node h l)) : ∀ t ∈ l, can L t := by
  rw [can] at hc
  rcases hc with h1 | h1 | ⟨_, h2⟩
  · rw [e] at h1
    injection h1 with h1
    exact absurd h1 (by decide)
  · exact absurd e (hL _ _ h1).2
  · exact cans_all.1 h2
theorem can_seal {L : Tm → Prop} (hS : Sat L) {k n x : Tm} (hc : can L (sealT k n x)) : can L n ∧ (can L k → can L x) := by
  rw [can] at hc
  rcases hc with h1 | h1 | ⟨_, h2⟩
  · exact absurd h1 (by decide)
  · exact ⟨can_take _ (hS k n x h1).1, fun hk => can_take _ ((hS k n x h1).2 hk)⟩
  · exact ⟨cans_all.1 h2 _ (by simp), fun _ => cans_all.1 h2 _ (by simp)⟩
theorem can_node {L : Tm → Prop} {h : List UInt8} {l : List Tm} (e : h.head? ≠ some 97) (hl : ∀ t ∈ l, can L t) : can L (.node h l) := by
  rw [can]
  exact .inr (.inr ⟨e, cans_all.2 hl⟩)

/-! ### The same over bytes -/
theorem can_made {H : List (List UInt8)} {front : List UInt8} {l : List (List UInt8)} {r : List UInt8} (hh : HeadOK front l.length) (h97 : front.head? ≠ some 97) (h : madeP front l = (r, 0)) (hl : ∀ x ∈ l, canP H x) : canP H r := by
  obtain ⟨m, h1, h2, h3⟩ := made_parts hh h
  refine ⟨_, h1, h2, can_node h97 fun t ht => ?_⟩
  have := hl t.enc (by rw [← h3]; exact List.mem_map_of_mem ht)
  exact (can_cl (node_valid_parts h1 t ht)).1 this
theorem can_rowP {H : List (List UInt8)} {l : List (List UInt8)} {r : List UInt8} (h8 : l.length < 256 ^ 8) (h : rowP l = (r, 0)) (hl : ∀ x ∈ l, canP H x) : canP H r := by
  obtain ⟨m, h1, h2, h3⟩ := row_parts h8 h
  refine ⟨_, h1, h2, can_node (by simp) fun t ht => ?_⟩
  have := hl t.enc (by rw [← h3]; exact List.mem_map_of_mem ht)
  exact (can_cl (node_valid_parts h1 t ht)).1 this
theorem can_data {H : List (List UInt8)} {s r : List UInt8} (h : dataP s = (r, 0)) : canP H r := by
  unfold dataP at h
  split at h
  · injection h with _ h
    cases h
  · rename_i hs
    injection h with h _
    have hv : (Tm.node (100 :: txt s) []).valid := by
      refine ⟨?_, ?_, ?_⟩
      · simp only [Tm.good]
        exact ⟨data_head (by omega), trivial⟩
      · simp [Tm.deep, deeps]
      · rw [Tm.enc_node]
        simp only [encs, List.append_nil, List.length_cons, txt_len]
        have := (enc_len s.length).2
        omega
    refine ⟨_, hv, by rw [Tm.enc_node]; simpa [encs] using h, ?_⟩
    rw [can]
    exact .inl rfl
theorem can_kind {H : List (List UInt8)} {s : List UInt8} (h : canP H s) : ∃ hd l c, (Tm.node hd l).valid ∧ (Tm.node hd l).enc = s ∧ Kd hd l.length c ∧ kindP s = c ∧ partsP s = (l.map Tm.enc, true) ∧ can (Cl (SH H)) (.node hd l) := by
  obtain ⟨⟨hd, l⟩, hv, rfl, hc⟩ := h
  obtain ⟨c, hk, e⟩ := kd_node hv
  exact ⟨hd, l, c, hv, rfl, hk, e, parts_node hv, hc⟩
theorem can_part {H : List (List UInt8)} {s : List UInt8} (h : canP H s) (hk : kindP s = 3) : ∀ x ∈ (partsP s).1, canP H x := by
  obtain ⟨hd, l, c, hv, rfl, k1, k2, k3, hc⟩ := can_kind h
  rw [k3]
  intro x hx
  obtain ⟨t, ht, rfl⟩ := List.mem_map.1 hx
  rw [hk] at k2
  exact ⟨t, node_valid_parts hv t ht, rfl, can_row (cl_listed _) ((kd_first k1).2.2.1.1 k2.symm) hc t ht⟩
theorem can_seal3 {H : List (List UInt8)} {s : List UInt8} (h : canP H s) (hk : kindP s = 6) : ∃ k n x, (partsP s).1 = [k, n, x] ∧ canP H n ∧ (canP H k → canP H x) := by
  obtain ⟨hd, l, c, hv, rfl, k1, k2, k3, hc⟩ := can_kind h
  rw [hk] at k2
  subst k2
  obtain rfl := (kd_first k1).2.2.2.1 rfl
  have hl : l.length = 3 := by
    have hg := hv.1
    simp only [Tm.good] at hg
    have q := (seal_head []).symm.trans (hg.1 [])
    exact (Prod.mk.inj (Prod.mk.inj q).2).1.symm
  match l, hl with
  | [k, n, x], _ =>
    have hvs := node_valid_parts hv
    obtain ⟨h1, h2⟩ := can_seal (cl_sat _) hc
    refine ⟨k.enc, n.enc, x.enc, by rw [k3]; rfl, ⟨n, hvs n (by simp), rfl, h1⟩, fun hk => ⟨x, hvs x (by simp), rfl, h2 ((can_cl (hvs k (by simp))).1 hk)⟩⟩

theorem may_st {s : Stp} {k : Nat} (h : maySt s k = true) : (1 ≤ s.fn ∧ s.fn ≤ 9) ∧ (namesA s.fn = true → s.a.toNat < k) ∧ (namesB s.fn = true → s.b.toNat < k) ∧ (namesC s.fn = true → s.c.toNat < k) ∧ ∀ v ∈ s.list, v.toNat < k := by
  unfold maySt at h
  simp only [Bool.and_eq_true] at h
  obtain ⟨⟨⟨⟨⟨⟨⟨mk, ma⟩, mb⟩, mc⟩, _⟩, _⟩, _⟩, ml⟩ := h
  refine ⟨?_, fun e => ?_, fun e => ?_, fun e => ?_, fun v hv => ?_⟩
  · simpa only [namesK, Bool.and_eq_true, decide_eq_true_eq] using mk
  · rw [e] at ma; exact named_at ma
  · rw [e] at mb; exact named_at mb
  · rw [e] at mc; exact named_at mc
  · have h1 := List.all_eq_true.1 ml v hv
    simp only [Bool.and_eq_true, decide_eq_true_eq] at h1
    omega
theorem step1 (was l : List (List UInt8)) {s : Stp} (e : s.fn = 1) : stepP was l s = if 0 ≤ s.n ∧ s.n < was.length then (if checkP (termAt was s.n) = 0 then (termAt was s.n, 0) else ([], 2)) else ([], 3) := by
  rw [stepP, if_pos e]
theorem step2 (was l : List (List UInt8)) {s : Stp} (e : s.fn = 2) : stepP was l s = dataP (bl s.text) := by
  rw [stepP, if_neg (by omega), if_pos e]
theorem step6 (was l : List (List UInt8)) {s : Stp} (e : s.fn = 6) : stepP was l s = rowP ((s.list.take 33).map (termAt l)) := by
  rw [stepP, if_neg (by omega), if_neg (by omega), if_pos e]
theorem step7 (was l : List (List UInt8)) {s : Stp} (e : s.fn = 7) : stepP was l s = madeP [104] [termAt l s.a] := by
  rw [stepP, if_neg (by omega), if_neg (by omega), if_neg (by omega), if_pos e]
theorem step8 (was l : List (List UInt8)) {s : Stp} (e : s.fn = 8) : stepP was l s = madeP [109] [termAt l s.a, termAt l s.b] := by
  rw [stepP, if_neg (by omega), if_neg (by omega), if_neg (by omega), if_neg (by omega), if_pos e]
theorem step9 (was l : List (List UInt8)) {s : Stp} (e : s.fn = 9) : stepP was l s = madeP [115] [termAt l s.a, termAt l s.b, termAt l s.c] := by
  rw [stepP, if_neg (by omega), if_neg (by omega), if_neg (by omega), if_neg (by omega), if_neg (by omega), if_pos e]
theorem step3 (was l : List (List UInt8)) {s : Stp} (e : s.fn = 3) : stepP was l s = if kindP (termAt l s.a) = 3 then (if 0 ≤ s.n ∧ s.n < (partsP (termAt l s.a)).1.length then ((partsP (termAt l s.a)).1.getD s.n.toNat [], 0) else ([], 3)) else ([], 8) := by
  rw [stepP, if_neg (by omega), if_neg (by omega), if_neg (by omega), if_neg (by omega), if_neg (by omega), if_neg (by omega), if_pos e]
theorem step4 (was l : List (List UInt8)) {s : Stp} (e : s.fn = 4) : stepP was l s = if kindP (termAt l s.a) = 6 then ((partsP (termAt l s.a)).1.getD 1 [], 0) else ([], 8) := by
  rw [stepP, if_neg (by omega), if_neg (by omega), if_neg (by omega), if_neg (by omega), if_neg (by omega), if_neg (by omega), if_neg (by omega), if_pos e]
theorem step5 (was l : List (List UInt8)) {s : Stp} (e : s.fn = 5) : stepP was l s = if kindP (termAt l s.a) = 6 then (if (partsP (termAt l s.a)).1.getD 0 [] = termAt l s.b then ((partsP (termAt l s.a)).1.getD 2 [], 0) else ([], 80)) else ([], 8) := by
  rw [stepP, if_neg (by omega), if_neg (by omega), if_neg (by omega), if_neg (by omega), if_neg (by omega), if_neg (by omega), if_neg (by omega), if_neg (show ¬ s.fn = 4 by omega)]
theorem pair_no {t : List UInt8} {c : Nat} (h : (([], c) : List UInt8 × Nat) = (t, 0)) (hc : c ≠ 0) {p : Prop} : p := absurd (Prod.mk.inj h).2 hc
/-- P11.4, forth: what a step makes can be made. -/
theorem one_can {H was l : List (List UInt8)} {s : Stp} {t : List UInt8} (hw : ∀ x ∈ was, checkP x = 0 → x ∈ H) (hl : ∀ x ∈ l, canP H x) (h : oneP was l s = (t, 0)) : canP H t := by
  by_cases hm : maySt s l.length = true
  case neg =>
    rw [oneP, if_neg hm] at h
    exact pair_no h (by decide)
  rw [oneP, if_pos hm] at h
  obtain ⟨hk, ma, mb, mc, ml⟩ := may_st hm
  have atA : namesA s.fn = true → canP H (termAt l s.a) := fun e => hl _ (getD_in (ma e))
  have atB : namesB s.fn = true → canP H (termAt l s.b) := fun e => hl _ (getD_in (mb e))
  have atC : namesC s.fn = true → canP H (termAt l s.c) := fun e => hl _ (getD_in (mc e))
  have hf : s.fn = 1 ∨ s.fn = 2 ∨ s.fn = 3 ∨ s.fn = 4 ∨ s.fn = 5 ∨ s.fn = 6 ∨ s.fn = 7 ∨ s.fn = 8 ∨ s.fn = 9 := by omega
  rcases hf with e | e | e | e | e | e | e | e | e
  · rw [step1 was l e] at h
    by_cases hn : 0 ≤ s.n ∧ s.n < was.length
    case neg => rw [if_neg hn] at h; exact pair_no h (by decide)
    rw [if_pos hn] at h
    by_cases hc : checkP (termAt was s.n) = 0
    case neg => rw [if_neg hc] at h; exact pair_no h (by decide)
    rw [if_pos hc] at h
    rw [← (Prod.mk.inj h).1]
    exact seen_can (hw _ (getD_in (by omega)) hc) hc
  · rw [step2 was l e] at h
    exact can_data h
  · rw [step3 was l e] at h
    by_cases hk3 : kindP (termAt l s.a) = 3
    case neg => rw [if_neg hk3] at h; exact pair_no h (by decide)
    rw [if_pos hk3] at h
    by_cases hn : 0 ≤ s.n ∧ s.n < (partsP (termAt l s.a)).1.length
    case neg => rw [if_neg hn] at h; exact pair_no h (by decide)
    rw [if_pos hn] at h
    rw [← (Prod.mk.inj h).1]
    exact can_part (atA (by rw [e]; rfl)) hk3 _ (getD_in (by omega))
  · rw [step4 was l e] at h
    by_cases hk6 : kindP (termAt l s.a) = 6
    case neg => rw [if_neg hk6] at h; exact pair_no h (by decide)
    rw [if_pos hk6] at h
    obtain ⟨k, n, x, e1, e2, e3⟩ := can_seal3 (atA (by rw [e]; rfl)) hk6
    rw [e1] at h
    rw [← (Prod.mk.inj h).1]
    exact e2
  · rw [step5 was l e] at h
    by_cases hk6 : kindP (termAt l s.a) = 6
    case neg => rw [if_neg hk6] at h; exact pair_no h (by decide)
    rw [if_pos hk6] at h
    obtain ⟨k, n, x, e1, e2, e3⟩ := can_seal3 (atA (by rw [e]; rfl)) hk6
    rw [e1] at h
    by_cases hb : ([k, n, x] : List (List UInt8)).getD 0 [] = termAt l s.b
    case neg => rw [if_neg hb] at h; exact pair_no h (by decide)
    rw [if_pos hb] at h
    rw [← (Prod.mk.inj h).1]
    have hB := atB (by rw [e]; rfl)
    rw [← hb] at hB
    exact e3 hB
  · rw [step6 was l e] at h
    have h33 : ((s.list.take 33).map (termAt l)).length ≤ 33 := by rw [List.length_map, List.length_take]; omega
    refine can_rowP (Nat.lt_of_le_of_lt h33 (by omega)) h fun x hx => ?_
    obtain ⟨v, hv, rfl⟩ := List.mem_map.1 hx
    exact hl _ (getD_in (ml v (List.mem_of_mem_take hv)))
  · rw [step7 was l e] at h
    refine can_made hash_head (by decide) h fun x hx => ?_
    rw [List.mem_singleton.1 hx]
    exact atA (by rw [e]; rfl)
  · rw [step8 was l e] at h
    refine can_made mac_head (by decide) h fun x hx => ?_
    simp only [List.mem_cons, List.not_mem_nil, or_false] at hx
    rcases hx with rfl | rfl
    · exact atA (by rw [e]; rfl)
    · exact atB (by rw [e]; rfl)
  · rw [step9 was l e] at h
    refine can_made seal_head (by decide) h fun x hx => ?_
    simp only [List.mem_cons, List.not_mem_nil, or_false] at hx
    rcases hx with rfl | rfl | rfl
    · exact atA (by rw [e]; rfl)
    · exact atB (by rw [e]; rfl)
    · exact atC (by rw [e]; rfl)
/-- P11.4, forth: what steps come to can be made, each of their terms. -/
theorem steps_can {H was : List (List UInt8)} (hw : ∀ x ∈ was, checkP x = 0 → x ∈ H) : ∀ (ss : List Stp) (l r : List (List UInt8)) (k : Nat), (∀ x ∈ l, canP H x) → stepsP was ss l = (r, k, 0) → ∀ x ∈ r, canP H x
  | [], l, r, k, hl, h => by
    simp only [stepsP, Prod.mk.injEq] at h
    rw [← h.1]
    exact hl
  | s :: ss, l, r, k, hl, h => by
    rw [stepsP] at h
    split at h
    · rename_i hz
      refine steps_can hw ss _ r k ?_ h
      intro x hx
      rcases List.mem_append.1 hx with hx | hx
      · exact hl x hx
      · rw [List.mem_singleton.1 hx]
        exact one_can hw hl (Prod.ext rfl hz)
    · rename_i hz
      injection h with h1 h
      injection h with h2 h
      exact absurd h hz

/-! ### Going on -/
/-- Whatever else was seen behind, a step comes to the same. -/
theorem one_more {was more l : List (List UInt8)} {s : Stp} {t : List UInt8} (h : oneP was l s = (t, 0)) : oneP (was ++ more) l s = (t, 0) := by
  unfold oneP at h ⊢
  split
  · rename_i hm
    rw [if_pos hm] at h
    unfold stepP at h ⊢
    split
    · rename_i e
      rw [if_pos e] at h
      split at h
      · rename_i hn
        have ht : termAt (was ++ more) s.n = termAt was s.n := by
          unfold termAt
          rw [List.getD_eq_getElem?_getD, List.getD_eq_getElem?_getD, List.getElem?_append_left (by omega)]
        rw [if_pos (by rw [List.length_append]; omega), ht]
        exact h
      · injection h with _ h; cases h
    · rename_i e
      rw [if_neg e] at h
      exact h
  · rename_i hm
    rw [if_neg hm] at h
    exact h
theorem steps_more {was more : List (List UInt8)} : ∀ (ss : List Stp) (l r : List (List UInt8)) (k : Nat), stepsP was ss l = (r, k, 0) → stepsP (was ++ more) ss l = (r, k, 0)
  | [], l, r, k, h => h
  | s :: ss, l, r, k, h => by
    rw [stepsP] at h
    split at h
    · rename_i hz
      have h1 := one_more (more := more) (was := was) (l := l) (s := s) (t := (oneP was l s).1) (Prod.ext rfl hz)
      rw [stepsP, h1, if_pos rfl]
      exact steps_more ss _ r k h
    · rename_i hz
      injection h with h1 h
      injection h with h2 h
      exact absurd h hz
/-- More steps behind leave the terms as they were. -/
theorem steps_then {was : List (List UInt8)} : ∀ (ss then_ : List Stp) (l r : List (List UInt8)) (k : Nat), stepsP was ss l = (r, k, 0) → stepsP was (ss ++ then_) l = stepsP was then_ r
  | [], then_, l, r, k, h => by
    simp only [stepsP, Prod.mk.injEq] at h
    rw [← h.1]
    rfl
  | s :: ss, then_, l, r, k, h => by
    rw [stepsP] at h
    split at h
    · rename_i hz
      rw [List.cons_append, stepsP, if_pos hz]
      exact steps_then ss then_ _ r k h
    · rename_i hz
      injection h with h1 h
      injection h with h2 h
      exact absurd h hz
end Go.Proofs.Ytpajcalfjfkogaa.Pl

namespace Go.Proofs.Ytpajcalfjfkogaa.Pl
open Go.RowKit Go.ChangeShapes Go.WideShapes

/-- A row of numbers in memory. -/
def IntRow (w : World) (ao : Option Addr) (l : List Int) : Prop := l = [] ∨ ∃ b off, ao = some ⟨b, off, none⟩ ∧ b < w.heap.size ∧ ∀ j, (hj : j < l.length) → w.cell? ⟨b, off + j, none⟩ = some (.int .i64 l[j])
theorem IntRow.below {w w' : World} {ao : Option Addr} {l : List Int} (h : IntRow w ao l) (hb : Below w.heap.size w w') : IntRow w' ao l := by
  rcases h with h | ⟨b, off, e, hlt, hc⟩
  · exact .inl h
  · exact .inr ⟨b, off, e, Nat.lt_of_lt_of_le hlt hb.size, fun j hj => (hb.cell (p := ⟨b, off + j, none⟩) hlt).trans (hc j hj)⟩
/-- A number that fits. -/
def I64 (v : Int) : Prop := -9223372036854775808 ≤ v ∧ v ≤ 9223372036854775807
/-- What a step's fields may be in memory. -/
def Stp.Fit (s : Stp) : Prop := s.fn ≤ 255 ∧ I64 s.a ∧ I64 s.b ∧ I64 s.c ∧ I64 s.n ∧ s.text.size ≤ 9223372036854775807 ∧ s.list.length ≤ 9223372036854775807 ∧ ∀ v ∈ s.list, I64 v
/-- A step's cells, its row of numbers at lo. -/
def stpCells (s : Stp) (lo : Option Addr) (lc : Nat) : List Value := [.int .u8 s.fn, .int .i64 s.a, .int .i64 s.b, .int .i64 s.c, .int .i64 s.n, .string s.text, .slice lo s.list.length lc]
/-- A step in memory. -/
def StpAt (w : World) (b off : Nat) (s : Stp) : Prop := ∃ lo lc, (∀ k, (hk : k < 7) → w.cell? ⟨b, off + k, none⟩ = some ((stpCells s lo lc)[k]'hk)) ∧ IntRow w lo s.list ∧ (lo = none → lc = 0)
theorem StpAt.below {w w' : World} {b off : Nat} {s : Stp} (h : StpAt w b off s) (hlt : b < w.heap.size) (hb : Below w.heap.size w w') : StpAt w' b off s := by
  obtain ⟨lo, lc, h1, h2, h3⟩ := h
  exact ⟨lo, lc, fun k hk => (hb.cell (p := ⟨b, off + k, none⟩) hlt).trans (h1 k hk), h2.below hb, h3⟩
/-- A row of steps in memory. -/
def StpRow (w : World) (ao : Option Addr) (l : List Stp) : Prop := l = [] ∨ ∃ b off, ao = some ⟨b, off, none⟩ ∧ b < w.heap.size ∧ ∀ j, (hj : j < l.length) → StpAt w b (off + 7 * j) l[j] ∧ l[j].Fit
theorem StpRow.below {w w' : World} {ao : Option Addr} {l : List Stp} (h : StpRow w ao l) (hb : Below w.heap.size w w') : StpRow w' ao l := by
  rcases h with h | ⟨b, off, e, hlt, hc⟩
  · exact .inl h
  · exact .inr ⟨b, off, e, Nat.lt_of_lt_of_le hlt hb.size, fun j hj => ⟨(hc j hj).1.below hlt hb, (hc j hj).2⟩⟩

theorem cells_step : Try.prog.cellsOf 46 = 7 := by kernel_rfl
theorem cells_int : Try.prog.cellsOf 3 = 1 := by kernel_rfl
theorem cells_byte : Try.prog.cellsOf 5 = 1 := by kernel_rfl
theorem cells_ints : Try.prog.cellsOf 44 = 1 := by kernel_rfl
theorem spot_none {w : World} {a : Addr} {v : Value} (h : w.cell? a = some v) : a.spot = none ∧ a.block < w.heap.size := by
  obtain ⟨b, off, sp⟩ := a
  unfold World.cell? at h
  cases sp with
  | none =>
    refine ⟨rfl, ?_⟩
    rcases Nat.lt_or_ge b w.heap.size with h1 | h1
    · exact h1
    · simp [Array.getElem?_eq_none h1] at h
  | some x =>
    exfalso
    simp only at h
    split at h
    · simp at h
    · cases h
theorem addr_add {b off k : Nat} : (⟨b, off, none⟩ : Addr).add k = ⟨b, off + k, none⟩ := by simp [Addr.add]
theorem int_fit {n : Int} (h : (Lit.int .i64 n).wf = true) : I64 n := by
  have : -9223372036854775808 ≤ n ∧ n ≤ 9223372036854775807 := by simpa [Lit.wf, IntKind.min, IntKind.max, IntKind.signed, IntKind.bits] using h
  exact this
set_option maxRecDepth 100000 in
theorem open_step {H : Type} {enc : TypeId × Value → H} {w : World} {base fuel : Nat} {b off : Nat} {cs : List Value} {x : DataW H × List MemPlace}
    (hc : w.cells? base ⟨b, off, none⟩ 7 = some cs) (hd : DataW.trod enc Try.prog w base (fun _ => true) true fuel 46 cs = some x) : ∃ s : Stp, StpAt w b off s ∧ s.Fit := by
  obtain ⟨xs, n, _, _, hl, hlen, hf⟩ := DataW.trod_struct Try.underlying46 hd
  rw [cells_step] at hl
  match cs, hl with
  | [c0, c1, c2, c3, c4, c5, c6], _ =>
    match xs, hlen with
    | [x0, x1, x2, x3, x4, x5, x6], _ =>
      have f0 : DataW.trod enc Try.prog w base (fun _ => true) true n 5 [c0] = some x0 := by
        have h := hf 0 ⟨_, _, _, _, _, _, _⟩ rfl
        simp only [cells_byte, List.drop_zero, List.take_succ_cons, List.take_zero] at h
        exact h
      have f1 : DataW.trod enc Try.prog w base (fun _ => true) true n 3 [c1] = some x1 := by
        have h := hf 1 ⟨_, _, _, _, _, _, _⟩ rfl
        simp only [cells_int, List.drop_zero, List.drop_succ_cons, List.take_succ_cons, List.take_zero] at h
        exact h
      have f2 : DataW.trod enc Try.prog w base (fun _ => true) true n 3 [c2] = some x2 := by
        have h := hf 2 ⟨_, _, _, _, _, _, _⟩ rfl
        simp only [cells_int, List.drop_zero, List.drop_succ_cons, List.take_succ_cons, List.take_zero] at h
        exact h
      have f3 : DataW.trod enc Try.prog w base (fun _ => true) true n 3 [c3] = some x3 := by
        have h := hf 3 ⟨_, _, _, _, _, _, _⟩ rfl
        simp only [cells_int, List.drop_zero, List.drop_succ_cons, List.take_succ_cons, List.take_zero] at h
        exact h
      have f4 : DataW.trod enc Try.prog w base (fun _ => true) true n 3 [c4] = some x4 := by
        have h := hf 4 ⟨_, _, _, _, _, _, _⟩ rfl
        simp only [cells_int, List.drop_zero, List.drop_succ_cons, List.take_succ_cons, List.take_zero] at h
        exact h
      have f5 : DataW.trod enc Try.prog w base (fun _ => true) true n 9 [c5] = some x5 := by
        have h := hf 5 ⟨_, _, _, _, _, _, _⟩ rfl
        simp only [cells_string6, List.drop_zero, List.drop_succ_cons, List.take_succ_cons, List.take_zero] at h
        exact h
      have f6 : DataW.trod enc Try.prog w base (fun _ => true) true n 44 [c6] = some x6 := by
        have h := hf 6 ⟨_, _, _, _, _, _, _⟩ rfl
        simp only [cells_ints, List.drop_zero, List.drop_succ_cons, List.take_succ_cons, List.take_zero] at h
        exact h
      obtain ⟨n0, e0, _, w0⟩ := DataW.trod_int Try.underlying5 f0
      obtain ⟨n1, e1, _, w1⟩ := DataW.trod_int Try.underlying3 f1
      obtain ⟨n2, e2, _, w2⟩ := DataW.trod_int Try.underlying3 f2
      obtain ⟨n3, e3, _, w3⟩ := DataW.trod_int Try.underlying3 f3
      obtain ⟨n4, e4, _, w4⟩ := DataW.trod_int Try.underlying3 f4
      obtain ⟨t5, e5, _, w5⟩ := DataW.trod_string Try.underlying9 f5
      injection e0 with e0 _
      injection e1 with e1 _
      injection e2 with e2 _
      injection e3 with e3 _
      injection e4 with e4 _
      injection e5 with e5 _
      subst e0 e1 e2 e3 e4 e5
      have r0 : 0 ≤ n0 ∧ n0 ≤ 255 := by simpa [Lit.wf, IntKind.min, IntKind.max, IntKind.signed, IntKind.bits] using w0
      obtain ⟨m0, rfl⟩ := Int.eq_ofNat_of_zero_le r0.1
      unfold maxLen at w5
      obtain ⟨_, _, hcell⟩ := World.cells?_some hc
      have row : ∃ lo zs lc, c6 = .slice lo (List.length zs) lc ∧ IntRow w lo zs ∧ (lo = none → lc = 0) ∧ (List.length zs ≤ 9223372036854775807) ∧ ∀ v ∈ zs, I64 v := by
        rcases open_ints Try.underlying44 Try.underlying3 cells_int f6 with ⟨e6, _⟩ | ⟨a, len, cap, zs, e6, _, hle, hm, hz, _, hcz, hwf⟩
        · injection e6 with e6 _
          exact ⟨none, [], 0, e6, .inl rfl, fun _ => rfl, Nat.zero_le _, by simp⟩
        · injection e6 with e6 _
          unfold maxLen at hm
          simp only [if_true] at hz
          have hlen : (zs.take len).length = len := by rw [List.length_take]; omega
          refine ⟨some a, zs.take len, cap, by rw [hlen]; exact e6, ?_, (fun h => by cases h), by omega, fun v hv => int_fit (hwf v (List.mem_of_mem_take hv))⟩
          by_cases h0 : len = 0
          · exact .inl (List.length_eq_zero_iff.1 (by omega))
          · right
            obtain ⟨g, go, gs⟩ := a
            have h1 := hcz 0 (by omega)
            obtain ⟨k1, k2⟩ := spot_none h1
            have k1' : gs = none := k1
            subst k1'
            refine ⟨g, go, rfl, k2, fun j hj => ?_⟩
            have h2 := hcz j (by omega)
            rw [addr_add] at h2
            rw [h2, List.getElem_take, List.getD_eq_getElem?_getD, List.getElem?_eq_getElem (by omega)]
            rfl
      obtain ⟨lo, zs, lc, rfl, hrow, hnone, hzl, hzf⟩ := row
      refine ⟨⟨m0, n1, n2, n3, n4, t5, zs⟩, ⟨lo, lc, fun k hk => ?_, hrow, hnone⟩, ⟨show m0 ≤ 255 by omega, int_fit w1, int_fit w2, int_fit w3, int_fit w4, w5, hzl, hzf⟩⟩
      have h := hcell k hk
      rw [addr_add] at h
      rw [h]
      match k, hk with
      | 0, _ => rfl
      | 1, _ => rfl
      | 2, _ => rfl
      | 3, _ => rfl
      | 4, _ => rfl
      | 5, _ => rfl
      | 6, _ => rfl
set_option maxRecDepth 100000 in
theorem open_steps {H : Type} {enc : TypeId × Value → H} {w : World} {r : Reach} {b0 base : Nat} {v : Value} {d : DataW H} {ps : List MemPlace}
    (hval : Value.okWide Try.prog w r b0 23 v) (hd : DataW.Trod enc Try.prog w base (fun _ => true) true 23 v d ps) :
    ∃ ao l cap, v = .slice ao (List.length l) cap ∧ StpRow w ao l ∧ List.length l ≤ cap ∧ List.length l ≤ 9223372036854775807 ∧ (ao = none → cap = 0) := by
  obtain ⟨a, len, cap, rfl⟩ := okWide_slice Try.underlying23 hval
  obtain ⟨fuel, hf⟩ := hd
  rcases Go.Deep.open_slice Try.underlying23 hf with ⟨hcs, _⟩ | ⟨a', len', cap', m, n, D, P, hcs, _, hl, hm, hz, _, hcell⟩
  · simp [Value.cells] at hcs
    obtain ⟨rfl, rfl, rfl⟩ := hcs
    exact ⟨none, [], 0, rfl, .inl rfl, Nat.le_refl _, Nat.zero_le _, fun _ => rfl⟩
  · simp [Value.cells] at hcs
    obtain ⟨rfl, rfl, rfl⟩ := hcs
    unfold maxLen at hm
    simp only [if_true] at hz
    rw [cells_step] at hcell
    by_cases h0 : len = 0
    · subst h0
      exact ⟨some a', [], cap, rfl, .inl rfl, Nat.zero_le _, Nat.zero_le _, fun h => by cases h⟩
    obtain ⟨g, go, gs⟩ := a'
    have hsp : gs = none ∧ g < w.heap.size := by
      obtain ⟨cs, h1, _⟩ := hcell 0 (by omega)
      obtain ⟨_, h2, h3⟩ := World.cells?_some h1
      have h4 := h3 0 (by omega)
      rw [List.getElem?_eq_getElem (by omega)] at h4
      exact spot_none h4
    obtain ⟨rfl, hlt⟩ := hsp
    have each : ∀ j, j < len → ∃ s : Stp, StpAt w g (go + 7 * j) s ∧ s.Fit := fun j hj => by
      obtain ⟨cs, h1, h2⟩ := hcell j (by omega)
      rw [addr_add, Nat.mul_comm] at h1
      exact open_step h1 h2
    have ex : ∀ k, k ≤ len → ∃ l : List Stp, l.length = k ∧ ∀ j, (hj : j < l.length) → StpAt w g (go + 7 * j) l[j] ∧ l[j].Fit := by
      intro k
      induction k with
      | zero => exact fun _ => ⟨[], rfl, fun j hj => absurd hj (Nat.not_lt_zero _)⟩
      | succ k ih =>
        intro hk
        obtain ⟨l, e, h⟩ := ih (by omega)
        obtain ⟨s, h1, h2⟩ := each k (by omega)
        refine ⟨l ++ [s], by simp [e], fun j hj => ?_⟩
        by_cases hj2 : j < l.length
        · rw [List.getElem_append_left hj2]
          exact h j hj2
        · have hjk : j = l.length := by simp at hj; omega
          subst hjk
          rw [List.getElem_append_right (Nat.le_refl _)]
          simp only [Nat.sub_self, List.getElem_cons_zero]
          rw [e]
          exact ⟨h1, h2⟩
    obtain ⟨l, e, h⟩ := ex len (Nat.le_refl _)
    exact ⟨some ⟨g, go, none⟩, l, cap, by rw [e], .inr ⟨g, go, rfl, hlt, h⟩, by omega, by omega, fun h => by cases h⟩
end Go.Proofs.Ytpajcalfjfkogaa.Pl

namespace Go.Proofs.Ytpajcalfjfkogaa.Pl
open Go.RowKit

theorem results_tmp7 {fn : Func} {a b c d e f g : Tmp} (h : fn.results = #[.tmp a, .tmp b, .tmp c, .tmp d, .tmp e, .tmp f, .tmp g]) (tmps : Array Value) (P : Program) (w : World) :
    (results fn tmps).run P w = .ok (.tuple #[tmps.getD a undef, tmps.getD b undef, tmps.getD c undef, tmps.getD d undef, tmps.getD e undef, tmps.getD f undef, tmps.getD g undef]) w := by
  simp [results, h]
def namesV (f : Nat) : Value := .tuple #[.bool (namesA f), .bool (namesB f), .bool (namesC f), .bool (namesN f), .bool (namesT f), .bool (namesL f), .bool (namesK f)]
theorem names_one (w : World) : ∀ f : Nat, (1 ≤ f ∧ f ≤ 9) →
    Calls Try.prog 42 #[.int .u8 f] w fun e w' => e = .returned (namesV f) ∧ w' = w := by
  intro f hf
  have h : f = 1 ∨ f = 2 ∨ f = 3 ∨ f = 4 ∨ f = 5 ∨ f = 6 ∨ f = 7 ∨ f = 8 ∨ f = 9 := by omega
  rcases h with rfl | rfl | rfl | rfl | rfl | rfl | rfl | rfl | rfl
  all_goals
    go_enter Try.func42, Try.ntmps42
    go_wp2_with fail
    (try simp only [Exit.inBlock, Exit.then])
    refine bodyPost_ret (results_tmp7 rfl _ _ _) rfl ?_
    exact ⟨rfl, rfl⟩
theorem names_other (w : World) (f : Nat) (hf : f = 0 ∨ 10 ≤ f) :
    Calls Try.prog 42 #[.int .u8 f] w fun e w' => e = .returned (namesV f) ∧ w' = w := by
  have hv : namesV f = .tuple #[.bool false, .bool false, .bool false, .bool false, .bool false, .bool false, .bool false] := by
    have n1 : (f == 1) = false := by rw [beq_eq_false_iff_ne]; omega
    have n2 : (f == 2) = false := by rw [beq_eq_false_iff_ne]; omega
    have n3 : (f == 3) = false := by rw [beq_eq_false_iff_ne]; omega
    have n4 : (f == 4) = false := by rw [beq_eq_false_iff_ne]; omega
    have n5 : (f == 5) = false := by rw [beq_eq_false_iff_ne]; omega
    have n6 : (f == 6) = false := by rw [beq_eq_false_iff_ne]; omega
    have n7 : (f == 7) = false := by rw [beq_eq_false_iff_ne]; omega
    have n8 : (f == 8) = false := by rw [beq_eq_false_iff_ne]; omega
    have n9 : (f == 9) = false := by rw [beq_eq_false_iff_ne]; omega
    have nk : namesK f = false := by
      unfold namesK
      rcases hf with rfl | h
      · rfl
      · rw [decide_eq_false (show ¬ f ≤ 9 by omega), Bool.and_false]
    rw [namesV, nk]
    simp only [namesA, namesB, namesC, namesN, namesT, namesL, n1, n2, n3, n4, n5, n6, n7, n8, n9, Bool.or_false]
  rw [hv]
  have n1 : ¬ f = 1 := by omega
  have n2 : ¬ f = 2 := by omega
  have n3 : ¬ f = 3 := by omega
  have n4 : ¬ f = 4 := by omega
  have n5 : ¬ f = 5 := by omega
  have n6 : ¬ f = 6 := by omega
  have n7 : ¬ f = 7 := by omega
  have n8 : ¬ f = 8 := by omega
  have n9 : ¬ f = 9 := by omega
  have e1 : ((f : Int) == 1) = false := by rw [beq_eq_false_iff_ne]; omega
  have e2 : ((f : Int) == 2) = false := by rw [beq_eq_false_iff_ne]; omega
  have e3 : ((f : Int) == 3) = false := by rw [beq_eq_false_iff_ne]; omega
  have e4 : ((f : Int) == 4) = false := by rw [beq_eq_false_iff_ne]; omega
  have e5 : ((f : Int) == 5) = false := by rw [beq_eq_false_iff_ne]; omega
  have e6 : ((f : Int) == 6) = false := by rw [beq_eq_false_iff_ne]; omega
  have e7 : ((f : Int) == 7) = false := by rw [beq_eq_false_iff_ne]; omega
  have e8 : ((f : Int) == 8) = false := by rw [beq_eq_false_iff_ne]; omega
  have e9 : ((f : Int) == 9) = false := by rw [beq_eq_false_iff_ne]; omega
  clear hv hf
  go_enter Try.func42, Try.ntmps42
  go_wp2_with fail
  (try simp only [Exit.inBlock, Exit.then])
  refine bodyPost_ret (results_tmp7 rfl _ _ _) rfl ?_
  exact ⟨rfl, rfl⟩
theorem rnames11_any (f : Nat) (w : World) :
    Calls Try.prog 42 #[.int .u8 f] w fun e w' => e = .returned (namesV f) ∧ w' = w := by
  by_cases h : 1 ≤ f ∧ f ≤ 9
  · exact names_one w f h
  · exact names_other w f (by omega)
theorem rnamed11_any (is : Bool) (v : Int) (k : Nat) (w : World) :
    Calls Try.prog 43 #[.bool is, .int .i64 v, .int .i64 k] w fun e w' => e = .returned (.bool (namedP is v k)) ∧ w' = w := by
  cases is with
  | false =>
    have hz : namedP false v k = (v == 0) := rfl
    rw [hz]
    go_enter Try.func43, Try.ntmps43
    go_wp2_with fail
    go_ret
    exact ⟨rfl, rfl⟩
  | true =>
    by_cases h0 : 0 ≤ v
    · by_cases h1 : v < (k : Int)
      · have hz : namedP true v k = true := by simp only [namedP, if_true, decide_eq_true h0, decide_eq_true h1, Bool.and_true]
        rw [hz]
        go_enter Try.func43, Try.ntmps43
        go_wp2_with fail
        go_ret
        exact ⟨rfl, rfl⟩
      · have hz : namedP true v k = false := by simp only [namedP, if_true, decide_eq_false h1, Bool.and_false]
        rw [hz]
        go_enter Try.func43, Try.ntmps43
        go_wp2_with fail
        go_ret
        exact ⟨rfl, rfl⟩
    · have hz : namedP true v k = false := by simp only [namedP, if_true, decide_eq_false h0, Bool.false_and]
      rw [hz]
      go_enter Try.func43, Try.ntmps43
      go_wp2_with fail
      go_ret
      exact ⟨rfl, rfl⟩
theorem termAt_map (l : List ByteArray) (v : Int) : termAt (l.map bl) v = bl (l.getD v.toNat ByteArray.empty) := by
  unfold termAt
  rw [List.getD_eq_getElem?_getD, List.getElem?_map, List.getD_eq_getElem?_getD]
  cases l[v.toNat]? <;> rfl
/-- What a step of the first kind makes. -/
noncomputable def seenP (was : List (List UInt8)) (n : Int) : List UInt8 × Nat := if 0 ≤ n ∧ n < was.length then (if checkP (termAt was n) = 0 then (termAt was n, 0) else ([], 2)) else ([], 3)
theorem rseen11_any (l : List ByteArray) (ao : Option Addr) (cap : Nat) (n : Int) (hx : ∀ x ∈ l, x.size ≤ 281474976710656) (w : World) (hrow : TxtRow w ao l) :
    Calls Try.prog 44 #[.slice ao l.length cap, .int .i64 n] w fun e w' => e = .returned (st2 (seenP (l.map bl) n)) ∧ Below w.heap.size w w' := by
  obtain ⟨m, hm⟩ : ∃ m, m = l.length := ⟨_, rfl⟩
  by_cases h0 : 0 ≤ n
  case neg =>
    have hz : st2 (seenP (l.map bl) n) = .tuple #[.string ⟨#[]⟩, .int .i64 3] := by rw [seenP, if_neg (fun h => h0 h.1)]; rfl
    rw [hz]
    clear hz hrow hx
    rw [← hm]
    go_enter Try.func44, Try.ntmps44
    go_wp2_with fail
    go_ret2
    exact ⟨rfl, Below.refl _ _⟩
  obtain ⟨k, rfl⟩ := Int.eq_ofNat_of_zero_le h0
  by_cases h1 : k < m
  case neg =>
    have hz : st2 (seenP (l.map bl) k) = .tuple #[.string ⟨#[]⟩, .int .i64 3] := by rw [seenP, if_neg (fun h => by have := h.2; rw [List.length_map] at this; omega)]; rfl
    rw [hz]
    have h1' : ¬ (k : Int) < (m : Int) := by omega
    clear hz hrow hx
    rw [← hm]
    go_enter Try.func44, Try.ntmps44
    go_wp2_with fail
    go_ret2
    exact ⟨rfl, Below.refl _ _⟩
  have h1' : (k : Int) < (m : Int) := by omega
  rcases hrow with e | ⟨b, off, rfl, hlt, hc⟩
  · exfalso
    rw [e] at hm
    simp at hm
    omega
  have ck := hc k (by omega)
  have hmem := getD_mem6 l k (by omega)
  have HM := Lib.hid (fun V => rmay_any (l.getD k ByteArray.empty) (hx _ hmem) V)
  have ha : termAt (l.map bl) (k : Int) = bl (l.getD k ByteArray.empty) := by rw [termAt_map]; rfl
  have hz : seenP (l.map bl) k = if checkP (bl (l.getD k ByteArray.empty)) = 0 then (bl (l.getD k ByteArray.empty), 0) else ([], 2) := by
    rw [seenP, if_pos ⟨by omega, by rw [List.length_map]; omega⟩, ha]
  rw [hz, ← hm]
  generalize l.getD k ByteArray.empty = t at *
  clear hz ha hc hx hmem hm
  have HCK : Hid (∀ V, Below w.heap.size w V → V.cell? ⟨b, off + k, none⟩ = some (.string t)) := Lib.hid (fun V hV => (hV.cell (p := ⟨b, off + k, none⟩) hlt).trans ck)
  clear hlt
  by_cases hq : checkP (bl t) = 0
  · rw [may_yes hq] at HM
    rw [if_pos hq, show st2 (bl t, 0) = .tuple #[.string t, .int .i64 0] from rfl]
    go_enter Try.func44, Try.ntmps44
    go_wp2_with fail
    refine (HM.out _).mono ?_; rintro e w1 ⟨rfl, b1⟩
    have c1 := HCK.out w1 b1
    have B1 := Lib.hid b1
    clear ck b1 HM
    go_wp2_with fail
    go_ret2
    exact ⟨rfl, B1.out⟩
  · rw [may_no hq] at HM
    rw [if_neg hq, show st2 (([] : List UInt8), 2) = .tuple #[.string ⟨#[]⟩, .int .i64 2] from rfl]
    go_enter Try.func44, Try.ntmps44
    go_wp2_with fail
    refine (HM.out _).mono ?_; rintro e w1 ⟨rfl, b1⟩
    have B1 := Lib.hid b1
    clear b1 HM
    go_wp2_with fail
    go_ret2
    exact ⟨rfl, B1.out⟩
end Go.Proofs.Ytpajcalfjfkogaa.Pl

namespace Go.Proofs.Ytpajcalfjfkogaa.Pl
open Go.RowKit

def heavyS (s : Stp) : Bool := decide (40 < s.list.length) || decide (2000 < s.text.size)
def heavyB (l : List Stp) : Bool := (l.take 200).any heavyS || decide (100 < l.length)
theorem heavy_no {l : List Stp} (h : heavyB l = false) : l.length ≤ 100 ∧ ∀ s ∈ l, s.list.length ≤ 40 ∧ s.text.size ≤ 2000 := by
  unfold heavyB at h
  rw [Bool.or_eq_false_iff, decide_eq_false_iff_not] at h
  obtain ⟨h1, h2⟩ := h
  refine ⟨by omega, fun s hs => ?_⟩
  rw [List.take_of_length_le (by omega), List.any_eq_false] at h1
  have h3 := h1 s hs
  unfold heavyS at h3
  simp only [Bool.or_eq_true, decide_eq_true_eq] at h3
  omega
set_option maxHeartbeats 2000000 in
set_option maxRecDepth 100000 in
theorem heavy11_any (l : List Stp) (ao : Option Addr) (cap : Nat) (w : World) (hrow : StpRow w ao l) :
    Calls Try.prog 8 #[.slice ao l.length cap] w fun e w' => e = .returned (.bool (heavyB l)) ∧ w' = w := by
  have HR := Lib.hid hrow
  obtain ⟨n, hn⟩ : ∃ n, n = l.length := ⟨_, rfl⟩
  have HN := Lib.hid hn
  obtain ⟨Z, hZ⟩ : ∃ Z, Z = heavyB l := ⟨_, rfl⟩
  have HZ := Lib.hid hZ
  rw [← hn, ← hZ]
  clear hrow hn hZ
  go_enter Try.func8, Try.ntmps8
  go_wp2_with fail
  go_loop [3] (fun iv => ∃ k : Nat, iv = .int .i64 k ∧ k ≤ n ∧ k ≤ 200 ∧ Hid ((l.take k).any heavyS = false)) (fun iv => 200 - (intOf iv).toNat)
  case atStart => exact ⟨0, rfl, Nat.zero_le _, Nat.zero_le _, Lib.hid rfl⟩
  case round =>
    obtain ⟨k, rfl, hkn, hk2, hg⟩ := hrel
    by_cases hk : k < n ∧ k < 200
    · obtain ⟨h1, h2⟩ := hk
      have q1 : (k : Int) < (n : Int) := by omega
      have q2 : (k : Int) < 200 := by omega
      have hkl : k < l.length := by rw [← HN.out]; exact h1
      rcases HR.out with e | ⟨g, off, rfl, hlt, hc⟩
      · exfalso
        rw [e] at hkl
        exact absurd hkl (Nat.not_lt_zero _)
      obtain ⟨⟨lo, lc, hcs, _, _⟩, hfit⟩ := hc k hkl
      rw [Nat.mul_comm 7 k] at hcs
      have k5 := hcs 5 (by decide)
      have k6 := hcs 6 (by decide)
      simp only [stpCells, List.getElem_cons_zero, List.getElem_cons_succ] at k5 k6
      have HG2 : Hid ((l.take (k + 1)).any heavyS = heavyS l[k]) := Lib.hid (by
        rw [List.take_succ_eq_append_getElem hkl, List.any_append, hg.out, Bool.false_or]
        simp)
      have HBAD : Hid (heavyS l[k] = true → Z = true) := Lib.hid (fun e => by
        have h3 : (l.take 200).any heavyS = true := by
          rw [List.any_eq_true]
          refine ⟨l[k], ?_, e⟩
          rw [List.mem_take_iff_getElem]
          exact ⟨k, by omega, rfl⟩
        rw [HZ.out, heavyB, h3, Bool.true_or])
      have HS : Hid (heavyS l[k] = (decide (40 < l[k].list.length) || decide (2000 < l[k].text.size))) := Lib.hid rfl
      have htl := hfit.2.2.2.2.2.1
      generalize l[k] = s at *
      obtain ⟨f, sa, sb, sd, sn, tx, li⟩ := s
      dsimp only at k5 k6 HS htl
      generalize hm : li.length = m at *
      clear hc hlt hcs hfit hkl
      by_cases h40 : 40 < m
      · have q3 : (40 : Int) < (m : Int) := by omega
        have HQ := Lib.hid (HBAD.out (by rw [HS.out, decide_eq_true h40, Bool.true_or]))
        clear HBAD HS HG2
        go_wp2_with fail
        go_ret
        exact ⟨by rw [HQ.out]; rfl, rfl⟩
      · have q3 : ¬ (40 : Int) < (m : Int) := by omega
        by_cases h2k : 2000 < tx.size
        · have q4 : (2000 : Int) < (tx.size : Int) := by omega
          have HQ := Lib.hid (HBAD.out (by rw [HS.out, decide_eq_true h2k, Bool.or_true]))
          clear HBAD HS HG2
          go_wp2_with fail
          go_ret
          exact ⟨by rw [HQ.out]; rfl, rfl⟩
        · have q4 : ¬ (2000 : Int) < (tx.size : Int) := by omega
          have HQ : Hid ((l.take (k + 1)).any heavyS = false) := Lib.hid (by rw [HG2.out, HS.out, decide_eq_false h40, decide_eq_false h2k]; rfl)
          clear HBAD HS HG2
          go_wp2_with fail
          go_round
          case rel => exact ⟨k + 1, by go_num, by omega, by omega, HQ⟩
          case measure => simp [intOf]; omega
    · have hEQ : l.take 200 = l.take k := by
        by_cases h1 : k = 200
        · rw [h1]
        · have : k = n := by omega
          rw [List.take_of_length_le (by rw [← HN.out]; omega), List.take_of_length_le (by rw [← HN.out]; omega)]
      have HE : Hid (Z = decide ((100 : Int) < (n : Int))) := Lib.hid (by
        rw [HZ.out, heavyB, hEQ, hg.out, Bool.false_or, ← HN.out]
        exact decide_eq_decide.2 (by omega))
      by_cases hkn2 : k < n
      · have q1 : (k : Int) < (n : Int) := by omega
        have q2 : ¬ (k : Int) < 200 := by omega
        clear hk hEQ
        go_wp2_with fail
        go_ret
        exact ⟨by rw [HE.out]; rfl, rfl⟩
      · have q1 : ¬ (k : Int) < (n : Int) := by omega
        clear hk hEQ
        go_wp2_with fail
        go_ret
        exact ⟨by rw [HE.out]; rfl, rfl⟩
end Go.Proofs.Ytpajcalfjfkogaa.Pl

namespace Go.Proofs.Ytpajcalfjfkogaa.Pl
open Go.RowKit

/-- The cells of a row of steps. -/
def flatS (w : World) : List Value → List Stp → Prop
  | cs, [] => cs = []
  | cs, s :: r => ∃ lo lc cs', cs = stpCells s lo lc ++ cs' ∧ IntRow w lo s.list ∧ (lo = none → lc = 0) ∧ s.Fit ∧ flatS w cs' r
theorem flat_len {w : World} : ∀ {l : List Stp} {cs : List Value}, flatS w cs l → cs.length = l.length * 7
  | [], cs, h => by
    have : cs = [] := h
    rw [this]
    rfl
  | s :: r, cs, h => by
    obtain ⟨lo, lc, cs', rfl, _, _, _, h5⟩ := h
    have := flat_len h5
    simp only [List.length_append, stpCells, List.length_cons, List.length_nil, this]
    omega
theorem flat_app {w : World} {ds : List Value} {m : List Stp} (hd : flatS w ds m) : ∀ {l : List Stp} {cs : List Value}, flatS w cs l → flatS w (cs ++ ds) (l ++ m)
  | [], cs, h => by
    have : cs = [] := h
    rw [this]
    exact hd
  | s :: r, cs, h => by
    obtain ⟨lo, lc, cs', rfl, h2, h3, h4, h5⟩ := h
    exact ⟨lo, lc, cs' ++ ds, by rw [List.append_assoc], h2, h3, h4, flat_app hd h5⟩
theorem flat_mono {w w' : World} (hi : ∀ lo li, IntRow w lo li → IntRow w' lo li) : ∀ {l : List Stp} {cs : List Value}, flatS w cs l → flatS w' cs l
  | [], _, h => h
  | s :: r, cs, h => by
    obtain ⟨lo, lc, cs', rfl, h2, h3, h4, h5⟩ := h
    exact ⟨lo, lc, cs', rfl, hi _ _ h2, h3, h4, flat_mono hi h5⟩
theorem flat_at {w : World} : ∀ {l : List Stp} {cs : List Value}, flatS w cs l → ∀ j, (hj : j < l.length) → (∃ lo lc, IntRow w lo l[j].list ∧ (lo = none → lc = 0) ∧ ∀ k, (hk : k < 7) → cs[7 * j + k]? = some ((stpCells l[j] lo lc)[k]'hk)) ∧ l[j].Fit
  | [], _, _, j, hj => absurd hj (Nat.not_lt_zero _)
  | s :: r, cs, h, j, hj => by
    obtain ⟨lo, lc, cs', rfl, h2, h3, h4, h5⟩ := h
    cases j with
    | zero =>
      refine ⟨⟨lo, lc, h2, h3, fun k hk => ?_⟩, h4⟩
      rw [List.getElem?_append_left (by simp [stpCells]; omega), Nat.mul_zero, Nat.zero_add]
      exact List.getElem?_eq_getElem (by simpa [stpCells] using hk)
    | succ j =>
      obtain ⟨⟨lo', lc', g1, g2, g3⟩, g4⟩ := flat_at h5 j (by simpa using hj)
      refine ⟨⟨lo', lc', g1, g2, fun k hk => ?_⟩, g4⟩
      rw [List.getElem?_append_right (by simp [stpCells]; omega)]
      have := g3 k hk
      simp only [stpCells, List.length_cons, List.length_nil]
      rw [show 7 * (j + 1) + k - (0 + 1 + 1 + 1 + 1 + 1 + 1 + 1) = 7 * j + k by omega]
      exact this
theorem flat_row {w : World} {b : Nat} : ∀ (l : List Stp) (off : Nat), (∀ j, (hj : j < l.length) → StpAt w b (off + 7 * j) l[j] ∧ l[j].Fit) → ∃ cs, flatS w cs l ∧ ∀ j u, cs[j]? = some u → w.cell? ⟨b, off + j, none⟩ = some u
  | [], _, _ => ⟨[], rfl, fun j u h => by simp at h⟩
  | s :: r, off, h => by
    obtain ⟨⟨lo, lc, h1, h2, h3⟩, h4⟩ := h 0 (by simp)
    obtain ⟨cs', g1, g2⟩ := flat_row r (off + 7) (fun j hj => by
      have := h (j + 1) (by simpa using hj)
      rw [show off + 7 * (j + 1) = off + 7 + 7 * j by omega] at this
      exact this)
    refine ⟨stpCells s lo lc ++ cs', ⟨lo, lc, cs', rfl, h2, h3, h4, g1⟩, fun j u hu => ?_⟩
    by_cases hj : j < 7
    · rw [List.getElem?_append_left (by simp [stpCells]; omega), List.getElem?_eq_getElem (by simpa [stpCells] using hj)] at hu
      have := h1 j hj
      rw [Nat.mul_zero, Nat.add_zero] at this
      rw [this]
      exact hu
    · rw [List.getElem?_append_right (by simp [stpCells]; omega)] at hu
      simp only [stpCells, List.length_cons, List.length_nil] at hu
      have := g2 _ _ hu
      rw [show off + 7 + (j - (0 + 1 + 1 + 1 + 1 + 1 + 1 + 1)) = off + j by omega] at this
      exact this
theorem infoStp : (Try.prog.info? 46).map (fun i => (i.zero, i.size, i.bytes)) = some (some (.agg #[.int .u8 0, .int .i64 0, .int .i64 0, .int .i64 0, .int .i64 0, .string ⟨#[]⟩, .slice none 0 0]), 7, 80) := by kernel_rfl
theorem one_cells (s : Stp) (lo : Option Addr) (lc k : Nat) (hk : k < 7) : ((stpCells s lo lc)[k]'hk).oneCell' = true := by
  match k, hk with
  | 0, _ => rfl
  | 1, _ => rfl
  | 2, _ => rfl
  | 3, _ => rfl
  | 4, _ => rfl
  | 5, _ => rfl
  | 6, _ => rfl
/-- A row of steps that the call owns, their rows of numbers as they were in its first world. -/
def OwnSt (W0 w : World) (v : Value) (l : List Stp) : Prop := ∃ cs, w.ownsRow W0.heap.size 46 7 v l.length cs ∧ flatS W0 cs l
theorem ownSt_nil (W0 w : World) : OwnSt W0 w (.slice none 0 0) [] := ⟨[], World.ownsRow_nil _ _ _ _, rfl⟩
theorem ownSt_below {W0 w w' : World} {v : Value} {l : List Stp} (h : OwnSt W0 w v l) (hb : Below w.heap.size w w') : OwnSt W0 w' v l := by
  obtain ⟨cs, h1, h2⟩ := h
  refine ⟨cs, ⟨h1.1, ?_⟩, h2⟩
  rcases h1.2 with h | ⟨g, cap, cur, e1, e2, e3, e4⟩
  · exact .inl h
  · exact .inr ⟨g, cap, cur, e1, e2, (hb.block g (Array.getElem?_eq_some_iff.1 e3).1).trans e3, e4⟩
theorem ownSt_row {W0 w : World} {v : Value} {l : List Stp} (h : OwnSt W0 w v l) (hb : Below W0.heap.size W0 w) : ∃ ao cap, v = .slice ao l.length cap ∧ StpRow w ao l ∧ (ao = none → cap = 0) := by
  obtain ⟨cs, h1, h2⟩ := h
  have h1' := h1
  rcases h1.2 with ⟨rfl, hn⟩ | ⟨g, cap, cur, rfl, _, hg, _, _, _, _⟩
  · exact ⟨none, 0, by rw [hn], .inl (List.length_eq_zero_iff.1 hn), fun _ => rfl⟩
  · refine ⟨some ⟨g, 0, none⟩, cap, rfl, .inr ⟨g, 0, rfl, (Array.getElem?_eq_some_iff.1 hg).1, fun j hj => ?_⟩, fun h => by cases h⟩
    obtain ⟨⟨lo, lc, g1, g2, g3⟩, g4⟩ := flat_at h2 j hj
    refine ⟨⟨lo, lc, fun k hk => ?_, g1.below hb, g2⟩, g4⟩
    have := h1'.cells (g := g) rfl _ _ (g3 k hk)
    rw [addr_add] at this
    rw [← this]
    congr 2
    omega
theorem appS_run {W0 W : World} {v : Value} {l m : List Stp} {ao : Option Addr} {cap : Nat} (hb0 : Below W0.heap.size W0 W) (hown : OwnSt W0 W v l) (hrow : StpRow W0 ao m) (hp : ao = none → cap = 0) (hl : l.length + m.length ≤ 1000000) :
    ∃ v' w', (Builtin.append_ #[23, 23] 23 #[v, .slice ao m.length cap]).run Try.prog W = .ok v' w' ∧ OwnSt W0 w' v' (l ++ m) ∧ Below W0.heap.size W w' ∧ W.grownBy w' v.ownBlock := by
  obtain ⟨i0, hi, hz0, hz1, hz2⟩ := info_parts infoStp
  obtain ⟨xs, hx, hf⟩ := hown
  cases ao with
  | none =>
    have h0 : m = [] := by
      rcases hrow with h0 | ⟨b, off, hb, _⟩
      · exact h0
      · cases hb
    subst h0
    obtain rfl := hp rfl
    have hr := run_append_owned_none (P := Try.prog) (w := W) W0.heap.size 23 23 46 i0 7 Try.underlying23 hi v l.length xs hx
    exact ⟨v, W, hr, by rw [List.append_nil]; exact ⟨xs, hx, hf⟩, Below.refl _ _, ⟨rfl, rfl, rfl, Nat.le_refl _, fun _ _ _ => rfl⟩⟩
  | some ad =>
    have hex : ∃ ds, flatS W0 ds m ∧ ∀ j u, ds[j]? = some u → W.cell? (ad.add j) = some u := by
      rcases hrow with h0 | ⟨b, off, hb, hlt, hc⟩
      · subst h0
        exact ⟨[], rfl, fun j u h => by simp at h⟩
      · cases hb
        obtain ⟨ds, h1, h2⟩ := flat_row m off hc
        exact ⟨ds, h1, fun j u h => by rw [addr_add]; exact (hb0.cell (p := ⟨b, off + j, none⟩) hlt).trans (h2 j u h)⟩
    obtain ⟨ds, h1, h2⟩ := hex
    obtain ⟨v', w', hr, g1, g2, _⟩ := run_append_own (P := Try.prog) W W0.heap.size 23 23 46 i0 (.agg #[.int .u8 0, .int .i64 0, .int .i64 0, .int .i64 0, .int .i64 0, .string ⟨#[]⟩, .slice none 0 0]) 7 80 Try.underlying23 hi hz0 hz1 hz2 (by rfl) (by decide) v l.length xs hx ad m.length cap ds (flat_len h1) h2
      (by
        intro u hu
        obtain ⟨j, hj, rfl⟩ := List.getElem_of_mem hu
        have hjl := flat_len h1
        have hj7 : j / 7 < m.length := by omega
        obtain ⟨⟨lo, lc, _, _, q⟩, _⟩ := flat_at h1 (j / 7) hj7
        have hq := q (j % 7) (Nat.mod_lt _ (by decide))
        rw [show 7 * (j / 7) + j % 7 = j by omega, List.getElem?_eq_getElem hj] at hq
        rw [Option.some.inj hq]
        exact one_cells _ _ _ _ (Nat.mod_lt _ (by decide))) (by unfold maxLen; omega) (by omega) hb0.size
    refine ⟨v', w', hr, ⟨xs ++ ds, by rw [List.length_append]; exact g1, flat_app h1 hf⟩, (Below.refl _ W).grown g2 hb0.size (fun j hj => ?_), g2⟩
    rcases hx.2 with ⟨rfl, _⟩ | ⟨g, cap', cur, rfl, hb, _⟩
    · cases hj
    · obtain rfl : g = j := Option.some.inj hj
      exact hb
end Go.Proofs.Ytpajcalfjfkogaa.Pl

namespace Go.Proofs.Ytpajcalfjfkogaa.Pl
open Go.RowKit Go.Maps

abbrev valE (v : Value) : Option (DataW Value × List MemPlace) := some (.held v, [])
/-- Block m is a map of just these keys, each with its value. -/
def MapV (w : World) (k : TypeId) (m : Nat) (X : List (Lit × Value)) : Prop := ∃ D : DataW Value, w.ownsMap Try.prog k valE m X.length D ∧ Maps.size D = X.length ∧ (∀ s, s ∉ X.map Prod.fst → Maps.has D s = false ∧ ∀ z, D.atKey s z = z) ∧ ∀ p ∈ X, Maps.has D p.1 = true ∧ ∀ z, D.atKey p.1 z = .held p.2
theorem MapV.of_block {w w' : World} {k : TypeId} {m : Nat} {X : List (Lit × Value)} (h : MapV w k m X) (hb : w'.heap[m]? = w.heap[m]?) : MapV w' k m X := by
  obtain ⟨D, ⟨es, clock, h1, h2⟩, h3⟩ := h
  exact ⟨D, ⟨es, clock, hb.trans h1, h2⟩, h3⟩
theorem MapV.lt {w : World} {k : TypeId} {m : Nat} {X : List (Lit × Value)} (h : MapV w k m X) : m < w.heap.size := by
  obtain ⟨D, h1, _⟩ := h
  exact h1.lt
theorem MapV.below {w w' : World} {k : TypeId} {m : Nat} {X : List (Lit × Value)} (h : MapV w k m X) (hb : Below w.heap.size w w') : MapV w' k m X := h.of_block (hb.block m h.lt)
theorem MapV.ex {w : World} {k : TypeId} {m : Nat} {X : List (Lit × Value)} (h : MapV w k m X) : ∃ es clock, w.heap[m]? = some (.map es clock) := by
  obtain ⟨D, ⟨es, clock, h1, _⟩, _⟩ := h
  exact ⟨es, clock, h1⟩
theorem mapV_new (w : World) (k : TypeId) : MapV (w.alloc (.map #[] 0)) k w.heap.size [] := ⟨.map [], World.ownsMap_made w _ _ _, rfl, fun s _ => ⟨rfl, fun z => rfl⟩, fun p h => by cases h⟩
theorem tightV {w : World} {k : TypeId} {m n : Nat} {D : DataW Value} (h : w.ownsMap Try.prog k valE m n D) : w.ownsMap Try.prog k valE m (Maps.size D) D := by
  obtain ⟨es, clock, hb, F, _, rfl⟩ := h
  exact ⟨es, clock, hb, F, by simp [Maps.size, length_sorted], rfl⟩
theorem MapV.store {w : World} {k t e : TypeId} {m : Nat} {X : List (Lit × Value)} (h : MapV w k m X) (hX : X.length ≤ 1000000000) (K : Keyed Try.prog k) (ht : Try.prog.underlying t = some (.map k e)) (key val : Value) (kl : Lit) (hkey : keyOf Try.prog k key = some kl) (hl : WideAt.IsKeyLit kl) (hn : kl ∉ X.map Prod.fst) :
    ∃ w', (Instr.mapUpdate t (.map (some m)) key val).run Try.prog w = .ok () w' ∧ MapV w' k m (X ++ [(kl, val)]) ∧ w.mapTurned w' m := by
  obtain ⟨D, h1, h2, h3, h4⟩ := h
  obtain ⟨w', r1, r2, r3⟩ := h1.store (val := val) (d := .held val) (ps := []) K ht (by unfold maxLen; omega) hkey rfl
  have hD : Maps.size (D.put kl (.held val)) = (X ++ [(kl, val)]).length := by
    rw [size_put (h1.tidy K), (h3 kl hn).1, h2, List.length_append]
    rfl
  refine ⟨w', r1, ⟨_, ?_, hD, fun u hu => ?_, fun p hp => ?_⟩, r3⟩
  · rw [← hD]
    exact tightV r2
  · rw [List.map_append, List.mem_append, not_or] at hu
    have hne : u ≠ kl := fun e => hu.2 (by simp [e])
    exact ⟨by rw [has_put_other hne]; exact (h3 u hu.1).1, fun z => by rw [atKey_put_other hne]; exact (h3 u hu.1).2 z⟩
  · rcases List.mem_append.1 hp with hp | hp
    · have hne : p.1 ≠ kl := fun e => hn (e ▸ List.mem_map_of_mem hp)
      exact ⟨by rw [has_put_other hne]; exact (h4 p hp).1, fun z => by rw [atKey_put_other hne]; exact (h4 p hp).2 z⟩
    · rw [List.mem_singleton.1 hp]
      exact ⟨has_put_same h1.isMap hl _, fun z => atKey_put_same h1.isMap hl _ _⟩
theorem MapV.look {w : World} {k t e : TypeId} {m : Nat} {X : List (Lit × Value)} (h : MapV w k m X) (K : Keyed Try.prog k) (ht : Try.prog.underlying t = some (.map k e)) {z : Value} (hz : (zeroValue e).run Try.prog w = .ok z w) {key : Value} {kl : Lit} (hkey : keyOf Try.prog k key = some kl) {v : Value} (hv : (kl, v) ∈ X) :
    (Instr.lookup t (.map (some m)) key false).run Try.prog w = .ok v w ∧ (Instr.lookup t (.map (some m)) key true).run Try.prog w = .ok (.tuple #[v, .bool true]) w := by
  obtain ⟨D, h1, h2, h3, h4⟩ := h
  obtain ⟨v1, ps, q1, q2⟩ := h1.lookup (zd := .held z) (zp := []) K ht hz rfl hkey
  obtain ⟨v2, ps2, q3, q4⟩ := h1.look_ok (zd := .held z) (zp := []) K ht hz rfl hkey
  obtain ⟨a1, a2⟩ := h4 _ hv
  rw [a2] at q2 q4
  have e1 : v1 = v := DataW.held.inj (Prod.mk.inj (Option.some.inj q2)).1
  have e2 : v2 = v := DataW.held.inj (Prod.mk.inj (Option.some.inj q4)).1
  rw [e1] at q1
  rw [e2, a1] at q3
  exact ⟨q1, q3⟩
theorem MapV.miss {w : World} {k t e : TypeId} {m : Nat} {X : List (Lit × Value)} (h : MapV w k m X) (K : Keyed Try.prog k) (ht : Try.prog.underlying t = some (.map k e)) {z : Value} (hz : (zeroValue e).run Try.prog w = .ok z w) {key : Value} {kl : Lit} (hkey : keyOf Try.prog k key = some kl) (hv : kl ∉ X.map Prod.fst) :
    (Instr.lookup t (.map (some m)) key false).run Try.prog w = .ok z w ∧ (Instr.lookup t (.map (some m)) key true).run Try.prog w = .ok (.tuple #[z, .bool false]) w := by
  obtain ⟨D, h1, h2, h3, h4⟩ := h
  obtain ⟨v1, ps, q1, q2⟩ := h1.lookup (zd := .held z) (zp := []) K ht hz rfl hkey
  obtain ⟨v2, ps2, q3, q4⟩ := h1.look_ok (zd := .held z) (zp := []) K ht hz rfl hkey
  obtain ⟨a1, a2⟩ := h3 _ hv
  rw [a2] at q2 q4
  have e1 : v1 = z := DataW.held.inj (Prod.mk.inj (Option.some.inj q2)).1
  have e2 : v2 = z := DataW.held.inj (Prod.mk.inj (Option.some.inj q4)).1
  rw [e1] at q1
  rw [e2, a1] at q3
  exact ⟨q1, q3⟩
section
variable {ops : Array Oper} {rest : List Oper} {o : Oper} {a : Act} {Q : Exit → Act → World → Prop} {w : World}
theorem wpList_lookV (hg : o.guard = none) (mo xo : Operand) (t : TypeId) (ok : Bool) (hop : o.op = Op.lookup t mo xo ok) (mv key r : Value) (hm : a.eval mo = mv) (hx : a.eval xo = key)
    (h : (Instr.lookup t mv key ok).run Try.prog w = .ok r w)
    (hK : wpList Try.prog ops Q rest (a.put o.dst r) w) : wpList Try.prog ops Q (o :: rest) a w := by
  refine wpList_plain hg fun K' hK' => ?_
  unfold Oper.wp
  simp [execOp, hop, hm, hx, h, Result.andThen]
  exact hK' _ _ hK
theorem wpList_updV (hg : o.guard = none) (mo xo vo : Operand) (t : TypeId) (hop : o.op = Op.mapUpdate t mo xo vo ∨ o.op = Op.insert t mo xo vo) (mv key val : Value) {w' : World} (hm : a.eval mo = mv) (hx : a.eval xo = key) (hv : a.eval vo = val)
    (h : (Instr.mapUpdate t mv key val).run Try.prog w = .ok () w')
    (hK : wpList Try.prog ops Q rest (a.put o.dst undef) w') : wpList Try.prog ops Q (o :: rest) a w := by
  refine wpList_plain hg fun K' hK' => ?_
  unfold Oper.wp
  rcases hop with hop | hop <;> (simp [execOp, hop, hm, hx, hv, h, Result.andThen]; exact hK' _ _ hK)
end
end Go.Proofs.Ytpajcalfjfkogaa.Pl

namespace Go.Proofs.Ytpajcalfjfkogaa.Pl

/-- A term that is made: by which step, its indices left out, and of which terms. -/
structure Ent where
  t : List UInt8
  s : Stp
  o : List (List UInt8)
/-- A seal that could not be opened so far: itself, its key, what is sealed. -/
structure Shut where
  t : List UInt8
  k : List UInt8
  b : List UInt8
def keysE (E : List Ent) : List (List UInt8) := E.map Ent.t
theorem keysE_app (E F : List Ent) : keysE (E ++ F) = keysE E ++ keysE F := List.map_append
theorem keysE_mono {E E' : List Ent} (h : E <+: E') {t : List UInt8} (k : t ∈ keysE E) : t ∈ keysE E' := by
  obtain ⟨F, rfl⟩ := h
  rw [keysE_app]
  exact List.mem_append.2 (.inl k)
theorem keysE_snoc {E : List Ent} {e : Ent} {t : List UInt8} : t ∈ keysE (E ++ [e]) ↔ t ∈ keysE E ∨ t = e.t := by
  rw [keysE_app, List.mem_append]
  simp [keysE]
/-- A step with indices in it. -/
def referP (s : Stp) (r : List Int) : Stp := if s.fn = 6 then { s with list := r } else { s with a := r.getD 0 s.a, b := r.getD 1 s.b, c := r.getD 2 s.c }
def idx (is : List Nat) : List Int := List.map (α := Nat) (β := Int) (fun i => (i : Int)) is
/-- That step, behind terms, makes that of those. -/
def Makes (was : List (List UInt8)) (e : Ent) : Prop := e.o.length ≤ 1000 ∧ e.s.text.size ≤ 1024 ∧ ∀ (l : List (List UInt8)) (is : List Nat), (∀ i ∈ is, i < l.length) → is.map (fun i => l.getD i []) = e.o → oneP was l (referP e.s (idx is)) = (e.t, 0)
structure Good (was : List (List UInt8)) (U : Tm → Prop) (E : List Ent) : Prop where
  nodup : (keysE E).Nodup
  made : ∀ e ∈ E, Makes was e
  ahead : ∀ k, (h : k < E.length) → ∀ x ∈ (E[k]).o, x ∈ keysE (E.take k)
  inU : ∀ t ∈ keysE E, ∃ T : Tm, T.valid ∧ U T ∧ T.enc = t
theorem good_nil (was : List (List UInt8)) (U : Tm → Prop) : Good was U [] :=
  ⟨List.nodup_nil, fun e h => (by cases h), fun k h => absurd h (Nat.not_lt_zero _), fun t h => by cases h⟩
theorem good_add {was : List (List UInt8)} {U : Tm → Prop} {E : List Ent} (h : Good was U E) {e : Ent} (hn : e.t ∉ keysE E) (hm : Makes was e) (ho : ∀ x ∈ e.o, x ∈ keysE E) {T : Tm} (hT : T.valid) (hu : U T) (he : T.enc = e.t) : Good was U (E ++ [e]) := by
  refine ⟨?_, fun d hd => ?_, fun k hk x hx => ?_, fun t ht => ?_⟩
  · rw [keysE_app]
    refine List.nodup_append.2 ⟨h.nodup, by simp [keysE], fun a ha b hb => ?_⟩
    simp only [keysE, List.map_cons, List.map_nil, List.mem_singleton] at hb
    intro e1
    exact hn (by rw [← hb, ← e1]; exact ha)
  · rcases List.mem_append.1 hd with hd | hd
    · exact h.made d hd
    · rw [List.mem_singleton.1 hd]; exact hm
  · by_cases hk2 : k < E.length
    · rw [List.getElem_append_left hk2] at hx
      rw [List.take_append_of_le_length (by omega)]
      exact h.ahead k hk2 x hx
    · have hk3 : k = E.length := by simp at hk; omega
      subst hk3
      rw [List.getElem_append_right (Nat.le_refl _)] at hx
      simp only [Nat.sub_self, List.getElem_cons_zero] at hx
      rw [List.take_append_of_le_length (Nat.le_refl _), List.take_length]
      exact ho x hx
  · rcases keysE_snoc.1 ht with ht | rfl
    · exact h.inU t ht
    · exact ⟨T, hT, hu, he⟩
/-- What is made, as trees. -/
def ME (E : List Ent) (T : Tm) : Prop := T.valid ∧ T.enc ∈ keysE E
theorem me_mono {E E' : List Ent} (h : E <+: E') {T : Tm} (k : ME E T) : ME E' T := ⟨k.1, keysE_mono h k.2⟩
theorem can_idem {L M : Tm → Prop} (h : ∀ y, M y → can L y) : ∀ t, can M t → can L t := by
  refine Tm.ind fun hd l ih hM => ?_
  rw [can] at hM
  rcases hM with h1 | h1 | ⟨h1, h2⟩
  · rw [can]; exact .inl h1
  · exact h _ h1
  · rw [can]; exact .inr (.inr ⟨h1, cans_all.2 fun t ht => ih t ht (cans_all.1 h2 t ht)⟩)
theorem can_in {L : Tm → Prop} {t : Tm} (h : L t) : can L t := by
  obtain ⟨hd, l⟩ := t
  rw [can]
  exact .inr (.inl h)

/-! ### Closed -/
/-- What stands in a row, or in a seal that is open, is made; what is not open is kept. -/
def ClosedAt (E : List Ent) (S : List Shut) (T : Tm) : Prop := (∀ h l, T = .node h l → h.head? = some 114 → ∀ p ∈ l, p.enc ∈ keysE E) ∧ ∀ k n x, T = sealT k n x → n.enc ∈ keysE E ∧ (x.enc ∈ keysE E ∨ (⟨T.enc, k.enc, x.enc⟩ : Shut) ∈ S)
theorem closedAt_mono {E E' : List Ent} {S S' : List Shut} {T : Tm} (h : ClosedAt E S T) (he : E <+: E') (hs : ∀ c ∈ S, c ∈ S') : ClosedAt E' S' T :=
  ⟨fun hd l e e2 p hp => keysE_mono he (h.1 hd l e e2 p hp), fun k n x e => ⟨keysE_mono he (h.2 k n x e).1, (h.2 k n x e).2.elim (fun q => .inl (keysE_mono he q)) (fun q => .inr (hs _ q))⟩⟩
def Closed (E : List Ent) (S : List Shut) : Prop := ∀ T, ME E T → ClosedAt E S T
def SlOK (U : Tm → Prop) (E : List Ent) (S : List Shut) : Prop := ∀ c ∈ S, ∃ k n x, (sealT k n x).valid ∧ U (sealT k n x) ∧ c = ⟨(sealT k n x).enc, k.enc, x.enc⟩ ∧ (sealT k n x).enc ∈ keysE E
theorem slOK_mono {U : Tm → Prop} {E E' : List Ent} {S : List Shut} (h : SlOK U E S) (he : E <+: E') : SlOK U E' S := fun c hc => by
  obtain ⟨k, n, x, h1, h2, h3, h4⟩ := h c hc
  exact ⟨k, n, x, h1, h2, h3, keysE_mono he h4⟩
def wtS (S : List Shut) : Nat := (S.map fun c => c.b.length + 1).sum
theorem wtS_app (S R : List Shut) : wtS (S ++ R) = wtS S + wtS R := by unfold wtS; rw [List.map_append, List.sum_append]
theorem wtS_one (c : Shut) : wtS [c] = c.b.length + 1 := by simp [wtS]

/-! ### Taking apart -/
/-- What holds behind having taken some terms. -/
structure Took (was : List (List UInt8)) (U : Tm → Prop) (E : List Ent) (S : List Shut) (ts : List Tm) (E' : List Ent) (S' : List Shut) : Prop where
  ext : E <+: E'
  good : Good was U E'
  mem : ∀ t ∈ ts, t.enc ∈ keysE E'
  new : ∀ T, ME E' T → T.enc ∉ keysE E → ClosedAt E' S' T
  sl : S <+: S'
  slok : SlOK U E' S'
  wt : wtS S' ≤ wtS S + (encs ts).length
variable {was : List (List UInt8)} {U : Tm → Prop} {E E1 E2 E' : List Ent} {S S1 S2 S' : List Shut}
theorem took_nil (hg : Good was U E) (hs : SlOK U E S) : Took was U E S [] E S :=
  ⟨List.prefix_refl _, hg, fun t h => (by cases h), fun T h k => absurd h.2 k, List.prefix_refl _, hs, Nat.le_add_right _ _⟩
theorem took_in (hg : Good was U E) (hs : SlOK U E S) {T : Tm} (h : T.enc ∈ keysE E) : Took was U E S [T] E S :=
  ⟨List.prefix_refl _, hg, fun t ht => by rw [List.mem_singleton.1 ht]; exact h, fun T h k => absurd h.2 k, List.prefix_refl _, hs, Nat.le_add_right _ _⟩
theorem encs_snoc (ts : List Tm) (t : Tm) : encs (ts ++ [t]) = encs ts ++ t.enc := by
  rw [encs_flat, encs_flat]
  simp
theorem took_next {ts : List Tm} {t : Tm} (h : Took was U E S ts E1 S1) (k : Took was U E1 S1 [t] E2 S2) : Took was U E S (ts ++ [t]) E2 S2 := by
  refine ⟨h.ext.trans k.ext, k.good, fun u hu => ?_, fun T hT hn => ?_, h.sl.trans k.sl, k.slok, ?_⟩
  · rcases List.mem_append.1 hu with hu | hu
    · exact keysE_mono k.ext (h.mem u hu)
    · exact k.mem u hu
  · by_cases h1 : T.enc ∈ keysE E1
    · exact closedAt_mono (h.new T ⟨hT.1, h1⟩ hn) k.ext (fun c hc => k.sl.subset hc)
    · exact k.new T hT h1
  · have h1 := h.wt
    have h2 := k.wt
    rw [encs_snoc, List.length_append]
    simp only [encs, List.append_nil] at h2
    omega
theorem head_one {h : List UInt8} {l : List Tm} (hv : (Tm.node h l).valid) : 1 ≤ h.length := by
  have hg := hv.1
  simp only [Tm.good] at hg
  have := hg.1.pos
  exact List.length_pos_iff.2 this
theorem took_row {h : List UInt8} {l : List Tm} (hh : h.head? = some 114) {e : Ent} (hv : (Tm.node h l).valid) (he : e.t = (Tm.node h l).enc) (k : Took was U (E ++ [e]) S l E' S') : Took was U E S [.node h l] E' S' := by
  have hext : E <+: E' := (List.prefix_append E [e]).trans k.ext
  refine ⟨hext, k.good, fun u hu => ?_, fun T hT hn => ?_, k.sl, k.slok, ?_⟩
  · rw [List.mem_singleton.1 hu]
    exact keysE_mono k.ext (keysE_snoc.2 (.inr he.symm))
  · by_cases h1 : T.enc ∈ keysE (E ++ [e])
    · rcases keysE_snoc.1 h1 with h1 | h1
      · exact absurd h1 hn
      · rw [he] at h1
        obtain rfl := enc_tm_inj hT.1.1 hv.1 h1
        refine ⟨fun h' l' e1 _ p hp => ?_, fun k' n x e1 => ?_⟩
        · injection e1 with _ e1
          subst e1
          exact k.mem p hp
        · injection e1 with e1 _
          subst e1
          exact absurd hh (by decide)
    · exact k.new T hT h1
  · have h2 := k.wt
    simp only [encs, List.append_nil, Tm.enc_node, List.length_append]
    omega
theorem took_seal {k n x : Tm} {e : Ent} (hv : (sealT k n x).valid) (hu : U (sealT k n x)) (he : e.t = (sealT k n x).enc) (q : Took was U (E ++ [e]) S [n] E' S') : Took was U E S [sealT k n x] E' (S' ++ [⟨(sealT k n x).enc, k.enc, x.enc⟩]) := by
  have hext : E <+: E' := (List.prefix_append E [e]).trans q.ext
  have hin : (sealT k n x).enc ∈ keysE E' := keysE_mono q.ext (keysE_snoc.2 (.inr he.symm))
  refine ⟨hext, q.good, fun u hu => ?_, fun T hT hn => ?_, q.sl.trans (List.prefix_append _ _), fun c hc => ?_, ?_⟩
  · rw [List.mem_singleton.1 hu]
    exact hin
  · by_cases h1 : T.enc ∈ keysE (E ++ [e])
    · rcases keysE_snoc.1 h1 with h1 | h1
      · exact absurd h1 hn
      · rw [he] at h1
        obtain rfl := enc_tm_inj hT.1.1 hv.1 h1
        refine ⟨fun h' l' e1 hh p hp => ?_, fun k' n' x' e1 => ?_⟩
        · injection e1 with e1 _
          subst e1
          exact absurd hh (by decide)
        · injection e1 with _ e1
          injection e1 with e1 e2
          injection e2 with e2 e3
          injection e3 with e3 _
          subst e1 e2 e3
          exact ⟨q.mem _ (by simp), .inr (List.mem_append.2 (.inr (by simp)))⟩
    · exact closedAt_mono (q.new T hT h1) (List.prefix_refl _) (fun c hc => List.mem_append.2 (.inl hc))
  · rcases List.mem_append.1 hc with hc | hc
    · exact q.slok c hc
    · exact ⟨k, n, x, hv, hu, List.mem_singleton.1 hc, hin⟩
  · have h2 := q.wt
    rw [wtS_app, wtS_one]
    simp only [encs, List.append_nil, Tm.enc_node, List.length_append, List.length_cons, List.length_nil] at h2 ⊢
    omega
theorem took_else {h : List UInt8} {l : List Tm} (h1 : h.head? ≠ some 114) (h2 : h ≠ [115]) {e : Ent} (hv : (Tm.node h l).valid) (he : e.t = (Tm.node h l).enc) (hg : Good was U (E ++ [e])) (hs : SlOK U E S) : Took was U E S [.node h l] (E ++ [e]) S := by
  have hext : E <+: E ++ [e] := List.prefix_append E [e]
  refine ⟨hext, hg, fun u hu => ?_, fun T hT hn => ?_, List.prefix_refl _, slOK_mono hs hext, Nat.le_add_right _ _⟩
  · rw [List.mem_singleton.1 hu]
    exact keysE_snoc.2 (.inr he.symm)
  · rcases keysE_snoc.1 hT.2 with h3 | h3
    · exact absurd h3 hn
    · rw [he] at h3
      obtain rfl := enc_tm_inj hT.1.1 hv.1 h3
      refine ⟨fun h' l' e1 hh p hp => ?_, fun k' n' x' e1 => ?_⟩
      · injection e1 with e1 _
        subst e1
        exact absurd hh h1
      · injection e1 with e1 _
        exact absurd e1 h2

/-! ### Composing -/
structure Comp (was : List (List UInt8)) (U : Tm → Prop) (E : List Ent) (ts : List Tm) (b : Bool) (E' : List Ent) : Prop where
  ext : E <+: E'
  good : Good was U E'
  yes : b = true → ∀ t ∈ ts, t.enc ∈ keysE E'
  no : b = false → ∃ t ∈ ts, ¬ can (ME E) t
  new : ∀ T, ME E' T → can (ME E) T
  clo : ∀ T, ME E' T → T.enc ∉ keysE E → ∀ S, ClosedAt E' S T
  small : ∀ T, ME E' T → T.enc ∉ keysE E → ∃ t ∈ ts, T.enc.length ≤ t.enc.length
theorem comp_nil (hg : Good was U E) : Comp was U E [] true E :=
  ⟨List.prefix_refl _, hg, fun _ t h => (by cases h), fun h => (by cases h), fun T h => can_in h, fun T h k => absurd h.2 k, fun T h k => absurd h.2 k⟩
theorem comp_in (hg : Good was U E) {T : Tm} (h : T.enc ∈ keysE E) : Comp was U E [T] true E :=
  ⟨List.prefix_refl _, hg, fun _ t ht => by rw [List.mem_singleton.1 ht]; exact h, fun h => (by cases h), fun T h => can_in h, fun T h k => absurd h.2 k, fun T h k => absurd h.2 k⟩
theorem comp_atom (hg : Good was U E) {h : List UInt8} {l : List Tm} (hh : h.head? = some 97) (hn : (Tm.node h l).enc ∉ keysE E) : Comp was U E [.node h l] false E := by
  refine ⟨List.prefix_refl _, hg, fun h => (by cases h), fun _ => ⟨_, List.mem_singleton.2 rfl, fun hc => ?_⟩, fun T h => can_in h, fun T h k => absurd h.2 k, fun T h k => absurd h.2 k⟩
  rw [can] at hc
  rcases hc with e | e | ⟨e, _⟩
  · rw [hh] at e; cases e
  · exact hn e.2
  · exact e hh
theorem comp_next {ts : List Tm} {t : Tm} {b : Bool} (h : Comp was U E ts true E1) (k : Comp was U E1 [t] b E2) : Comp was U E (ts ++ [t]) b E2 := by
  refine ⟨h.ext.trans k.ext, k.good, fun e u hu => ?_, fun e => ?_, fun T hT => ?_, fun T hT hn => ?_, fun T hT hn => ?_⟩
  · rcases List.mem_append.1 hu with hu | hu
    · exact keysE_mono k.ext (h.yes rfl u hu)
    · exact k.yes e u hu
  · obtain ⟨u, hu, hc⟩ := k.no e
    exact ⟨u, List.mem_append.2 (.inr hu), fun q => hc (can_mono (fun y hy => me_mono h.ext hy) u q)⟩
  · exact can_idem (fun y hy => h.new y hy) T (k.new T hT)
  · by_cases h1 : T.enc ∈ keysE E1
    · exact fun S => closedAt_mono (h.clo T ⟨hT.1, h1⟩ hn S) k.ext (fun c hc => hc)
    · exact k.clo T hT h1
  · by_cases h1 : T.enc ∈ keysE E1
    · obtain ⟨u, hu, q⟩ := h.small T ⟨hT.1, h1⟩ hn
      exact ⟨u, List.mem_append.2 (.inl hu), q⟩
    · obtain ⟨u, hu, q⟩ := k.small T hT h1
      exact ⟨u, List.mem_append.2 (.inr hu), q⟩
theorem part_less {h : List UInt8} {l : List Tm} (hv : (Tm.node h l).valid) {t : Tm} (ht : t ∈ l) : t.enc.length < (Tm.node h l).enc.length := by
  have h1 := head_one hv
  obtain ⟨l1, l2, rfl⟩ := List.append_of_mem ht
  rw [Tm.enc_node, encs_flat, List.map_append, List.flatten_append, List.map_cons, List.flatten_cons]
  simp only [List.length_append]
  omega
theorem comp_bad {h : List UInt8} {l ts : List Tm} (hv : (Tm.node h l).valid) (hn : (Tm.node h l).enc ∉ keysE E) (hsub : ∀ t ∈ ts, t ∈ l) (k : Comp was U E ts false E') : Comp was U E [.node h l] false E' := by
  refine ⟨k.ext, k.good, fun h => (by cases h), fun _ => ⟨_, List.mem_singleton.2 rfl, fun hc => ?_⟩, k.new, k.clo, fun T hT hn => ?_⟩
  · obtain ⟨t, ht, hno⟩ := k.no rfl
    rw [can] at hc
    rcases hc with e | e | ⟨_, e⟩
    · have hg := hv.1
      simp only [Tm.good] at hg
      obtain ⟨c, hk⟩ := head_kind hg.1
      have : l = [] := by
        rcases hk with ⟨t, rfl, _, h0⟩ | ⟨t, rfl, _, _, h0⟩ | ⟨v, rfl, _, _⟩ | ⟨rfl, _⟩ | ⟨rfl, _⟩ | ⟨rfl, _⟩
        · exact List.length_eq_zero_iff.1 h0
        · exact List.length_eq_zero_iff.1 h0
        · simp at e
        · simp at e
        · simp at e
        · simp at e
      have := hsub t ht
      simp_all
    · exact hn e.2
    · exact hno (cans_all.1 e t (hsub t ht))
  · obtain ⟨t, ht, q⟩ := k.small T hT hn
    exact ⟨_, List.mem_singleton.2 rfl, Nat.le_of_lt (Nat.lt_of_le_of_lt q (part_less hv (hsub t ht)))⟩
theorem comp_fresh {h : List UInt8} {l : List Tm} (hv : (Tm.node h l).valid) (hn : (Tm.node h l).enc ∉ keysE E) (k : Comp was U E l true E') : (Tm.node h l).enc ∉ keysE E' := fun hin => by
  obtain ⟨t, ht, q⟩ := k.small _ ⟨hv, hin⟩ hn
  have := part_less hv ht
  omega
theorem comp_made {h : List UInt8} {l : List Tm} (hv : (Tm.node h l).valid) (hn : (Tm.node h l).enc ∉ keysE E) (h97 : h.head? ≠ some 97) (k : Comp was U E l true E1) {e : Ent} (he : e.t = (Tm.node h l).enc) (hg : Good was U (E1 ++ [e])) : Comp was U E [.node h l] true (E1 ++ [e]) := by
  have hx : E1 <+: E1 ++ [e] := List.prefix_append _ _
  have ht : can (ME E) (.node h l) := by
    rw [can]
    exact .inr (.inr ⟨h97, cans_all.2 fun t ht => k.new t ⟨node_valid_parts hv t ht, k.yes rfl t ht⟩⟩)
  have hcase : ∀ T, ME (E1 ++ [e]) T → ME E1 T ∨ T = .node h l := fun T hT => by
    rcases keysE_snoc.1 hT.2 with h3 | h3
    · exact .inl ⟨hT.1, h3⟩
    · rw [he] at h3
      exact .inr (enc_tm_inj hT.1.1 hv.1 h3)
  refine ⟨k.ext.trans hx, hg, fun _ u hu => ?_, fun h => (by cases h), fun T hT => ?_, fun T hT hn2 S => ?_, fun T hT hn2 => ?_⟩
  · rw [List.mem_singleton.1 hu]
    exact keysE_snoc.2 (.inr he.symm)
  · rcases hcase T hT with h1 | rfl
    · exact k.new T h1
    · exact ht
  · rcases hcase T hT with h1 | rfl
    · exact closedAt_mono (k.clo T h1 hn2 S) hx (fun c hc => hc)
    · refine ⟨fun h' l' e1 _ p hp => ?_, fun k' n' x' e1 => ?_⟩
      · injection e1 with _ e1
        subst e1
        exact keysE_mono hx (k.yes rfl p hp)
      · injection e1 with _ e1
        subst e1
        exact ⟨keysE_mono hx (k.yes rfl _ (by simp)), .inl (keysE_mono hx (k.yes rfl _ (by simp)))⟩
  · rcases hcase T hT with h1 | rfl
    · obtain ⟨t, ht, q⟩ := k.small T h1 hn2
      exact ⟨_, List.mem_singleton.2 rfl, Nat.le_of_lt (Nat.lt_of_le_of_lt q (part_less hv ht))⟩
    · exact ⟨_, List.mem_singleton.2 rfl, Nat.le_refl _⟩

/-! ### Opening -/
/-- What holds while the seals S0 are gone through: P: those that stay closed; op: whether one was opened. -/
structure Opn (was : List (List UInt8)) (U : Tm → Prop) (E0 : List Ent) (S0 : List Shut) (i : Nat) (op : Bool) (E : List Ent) (P : List Shut) : Prop where
  ext : E0 <+: E
  good : Good was U E
  slok : SlOK U E (P ++ S0.drop i)
  closed : Closed E (P ++ S0.drop i)
  wt : wtS (P ++ S0.drop i) + (if op then 1 else 0) ≤ wtS S0
  no : op = false → (∀ T, ME E T → can (ME E0) T) ∧ ∀ c ∈ P, ∀ k : Tm, k.valid → c.k = k.enc → ¬ can (ME E0) k
variable {E0 : List Ent} {S0 P P' : List Shut} {i : Nat} {op : Bool}
theorem opn_start (hg : Good was U E0) (hs : SlOK U E0 S0) (hc : Closed E0 S0) : Opn was U E0 S0 0 false E0 [] := by
  refine ⟨List.prefix_refl _, hg, by simpa using hs, by simpa using hc, by simp, fun _ => ⟨fun T h => can_in h, fun c h => by cases h⟩⟩
theorem opn_at (h : Opn was U E0 S0 i op E P) (hi : i < S0.length) : ∃ k n x, (sealT k n x).valid ∧ U (sealT k n x) ∧ S0[i] = ⟨(sealT k n x).enc, k.enc, x.enc⟩ ∧ (sealT k n x).enc ∈ keysE E :=
  h.slok _ (List.mem_append.2 (.inr (by rw [List.drop_eq_getElem_cons hi]; exact List.mem_cons_self)))
theorem opn_shut (h : Opn was U E0 S0 i op E P) (hi : i < S0.length) {k n x : Tm} (hv : (sealT k n x).valid) (hc : S0[i] = ⟨(sealT k n x).enc, k.enc, x.enc⟩) (q : Comp was U E [k] false E') : Opn was U E0 S0 (i + 1) op E' (P ++ [S0[i]]) := by
  have hd : P ++ [S0[i]] ++ S0.drop (i + 1) = P ++ S0.drop i := by rw [List.drop_eq_getElem_cons hi]; simp
  have kv : k.valid := node_valid_parts hv k (by simp)
  refine ⟨h.ext.trans q.ext, q.good, by rw [hd]; exact slOK_mono h.slok q.ext, ?_, by rw [hd]; exact h.wt, fun e => ⟨fun T hT => ?_, fun c hc' k' hk' e' => ?_⟩⟩
  · rw [hd]
    intro T hT
    by_cases h1 : T.enc ∈ keysE E
    · exact closedAt_mono (h.closed T ⟨hT.1, h1⟩) q.ext (fun c hc => hc)
    · exact q.clo T hT h1 _
  · exact can_idem (fun y hy => (h.no e).1 y hy) T (q.new T hT)
  · rcases List.mem_append.1 hc' with h1 | h1
    · exact (h.no e).2 c h1 k' hk' e'
    · rw [List.mem_singleton.1 h1, hc] at e'
      obtain rfl := enc_tm_inj kv.1 hk'.1 e'
      obtain ⟨t, ht, hno⟩ := q.no rfl
      rw [List.mem_singleton.1 ht] at hno
      exact fun hcan => hno (can_mono (fun y hy => me_mono h.ext hy) _ hcan)
theorem opn_open (h : Opn was U E0 S0 i op E P) (hi : i < S0.length) {k n x : Tm} (hc : S0[i] = ⟨(sealT k n x).enc, k.enc, x.enc⟩) (q : Comp was U E [k] true E1) (r : Took was U E1 P [x] E' P') : Opn was U E0 S0 (i + 1) true E' P' := by
  have hd : S0.drop i = S0[i] :: S0.drop (i + 1) := List.drop_eq_getElem_cons hi
  have hEE : E <+: E' := q.ext.trans r.ext
  refine ⟨h.ext.trans hEE, r.good, fun c hc' => ?_, fun T hT => ?_, ?_, fun e => by cases e⟩
  · rcases List.mem_append.1 hc' with h1 | h1
    · exact r.slok c h1
    · exact slOK_mono h.slok hEE c (List.mem_append.2 (.inr (by rw [hd]; exact List.mem_cons_of_mem _ h1)))
  · by_cases h1 : T.enc ∈ keysE E
    · have hcl := h.closed T ⟨hT.1, h1⟩
      refine ⟨fun h' l' e1 hh p hp => keysE_mono hEE (hcl.1 h' l' e1 hh p hp), fun k' n' x' e1 => ⟨keysE_mono hEE (hcl.2 k' n' x' e1).1, ?_⟩⟩
      rcases (hcl.2 k' n' x' e1).2 with h2 | h2
      · exact .inl (keysE_mono hEE h2)
      · rcases List.mem_append.1 h2 with h2 | h2
        · exact .inr (List.mem_append.2 (.inl (r.sl.subset h2)))
        · rw [hd] at h2
          rcases List.mem_cons.1 h2 with h2 | h2
          · rw [hc] at h2
            injection h2 with h2 h3 h4
            left
            rw [h4]
            exact r.mem x (by simp)
          · exact .inr (List.mem_append.2 (.inr h2))
    · by_cases h2 : T.enc ∈ keysE E1
      · exact closedAt_mono (q.clo T ⟨hT.1, h2⟩ h1 []) r.ext (fun c hc => by cases hc)
      · exact closedAt_mono (r.new T hT h2) (List.prefix_refl _) (fun c hc => List.mem_append.2 (.inl hc))
  · have h1 := h.wt
    have h2 := r.wt
    rw [hd, wtS_app, show S0[i] :: S0.drop (i + 1) = [S0[i]] ++ S0.drop (i + 1) from rfl, wtS_app, wtS_one, hc] at h1
    rw [wtS_app]
    simp only [encs, List.append_nil, if_true] at h2 ⊢
    simp only at h1
    split at h1 <;> omega
/-- Nothing more can be opened: what can be made is made of what is made. -/
theorem opn_last (hw : ∀ x ∈ was, checkP x = 0 → x ∈ keysE E) (hc : Closed E S) (hno : ∀ c ∈ S, ∀ k : Tm, k.valid → c.k = k.enc → ¬ can (ME E) k) {T : Tm} (hT : T.valid) (h : canP was T.enc) : can (ME E) T := by
  have htake : ∀ t : Tm, ME E t → ∀ y ∈ takeT t, ME E y := by
    refine Tm.ind fun hd l ih ht y hy => ?_
    rw [takeT] at hy
    split at hy
    · cases hy
    · split at hy
      · rename_i h2
        obtain ⟨t, ht2, hy⟩ := mem_takeTs.1 hy
        exact ih t ht2 ⟨node_valid_parts ht.1 t ht2, (hc _ ht).1 hd l rfl h2 t ht2⟩ y hy
      · rw [List.mem_singleton.1 hy]; exact ht
  have hcl := (can_cl hT).1 h
  refine can_mono (cl_least (L := ME E) (fun k n x hs => ?_) fun t ht => htake t ⟨ht.1, hw _ ht.2 (check_enc ht.1)⟩) T hcl
  have hvs := node_valid_parts hs.1
  have hcs := (hc _ hs).2 k n x rfl
  refine ⟨htake n ⟨hvs n (by simp), hcs.1⟩, fun hk => ?_⟩
  rcases hcs.2 with h1 | h1
  · exact htake x ⟨hvs x (by simp), h1⟩
  · exact absurd hk (hno _ h1 k (hvs k (by simp)) rfl)

/-! ### Laying out -/
structure Laid (was : List (List UInt8)) (E : List Ent) (ts : List Stp) (T : List (List UInt8)) : Prop where
  run : stepsP was ts [] = (T, 0, 0)
  nodup : T.Nodup
  sub : ∀ t ∈ T, t ∈ keysE E
  small : ∀ s ∈ ts, s.text.size ≤ 1024
/-- Behind having laid some, which are made ahead of the n-th. -/
structure LaidTo (was : List (List UInt8)) (E : List Ent) (n : Nat) (ss : List Stp) (T : List (List UInt8)) (xs : List (List UInt8)) (ss' : List Stp) (T' : List (List UInt8)) : Prop where
  laid : Laid was E ss' T'
  steps : ss <+: ss'
  terms : T <+: T'
  mem : ∀ x ∈ xs, x ∈ T'
  new : ∀ x ∈ T', x ∉ T → x ∈ keysE (E.take n)
variable {ss ss1 ss2 : List Stp} {T T1 T2 : List (List UInt8)} {n : Nat}
theorem laid_nil : Laid was E [] [] := ⟨rfl, List.nodup_nil, fun t h => (by cases h), fun t h => (by cases h)⟩
theorem refer_text (s : Stp) (r : List Int) : (referP s r).text = s.text := by
  unfold referP
  split <;> rfl
theorem laidTo_nil (h : Laid was E ss T) : LaidTo was E n ss T [] ss T := ⟨h, List.prefix_refl _, List.prefix_refl _, fun x h => (by cases h), fun x h k => absurd h k⟩
theorem laidTo_in (h : Laid was E ss T) {x : List UInt8} (k : x ∈ T) : LaidTo was E n ss T [x] ss T := ⟨h, List.prefix_refl _, List.prefix_refl _, fun y hy => by rw [List.mem_singleton.1 hy]; exact k, fun x h k => absurd h k⟩
theorem laidTo_next {xs : List (List UInt8)} {x : List UInt8} (h : LaidTo was E n ss T xs ss1 T1) (k : LaidTo was E n ss1 T1 [x] ss2 T2) : LaidTo was E n ss T (xs ++ [x]) ss2 T2 := by
  refine ⟨k.laid, h.steps.trans k.steps, h.terms.trans k.terms, fun y hy => ?_, fun y hy hn => ?_⟩
  · rcases List.mem_append.1 hy with hy | hy
    · exact k.terms.subset (h.mem y hy)
    · exact k.mem y hy
  · by_cases h1 : y ∈ T1
    · exact h.new y h1 hn
    · exact k.new y hy h1
theorem take_front11 {α : Type} {l : List α} {a b : Nat} (h : a ≤ b) : l.take a <+: l.take b := by
  refine ⟨(l.take b).drop a, ?_⟩
  have := List.take_append_drop a (l.take b)
  rwa [List.take_take, Nat.min_eq_left h] at this
theorem laidTo_more {xs : List (List UInt8)} {m : Nat} (hm : n ≤ m) (h : LaidTo was E n ss T xs ss1 T1) : LaidTo was E m ss T xs ss1 T1 :=
  ⟨h.laid, h.steps, h.terms, h.mem, fun x hx hn => keysE_mono (take_front11 hm) (h.new x hx hn)⟩
theorem steps_one {l : List (List UInt8)} {s : Stp} {t : List UInt8} (h : oneP was l s = (t, 0)) : stepsP was [s] l = (l ++ [t], 0, 0) := by
  rw [stepsP, h, if_pos rfl, stepsP]
theorem keysE_at {E : List Ent} {k : Nat} (hk : k < E.length) : E.take (k + 1) = E.take k ++ [E[k]] := List.take_succ_eq_append_getElem hk
theorem laidTo_step (hg : Good was U E) {k : Nat} (hk : k < E.length) (hn : (E[k]).t ∉ T) (h : LaidTo was E k ss T (E[k]).o ss1 T1) {is : List Nat} (hi : ∀ i ∈ is, i < T1.length) (he : is.map (fun i => T1.getD i []) = (E[k]).o) :
    LaidTo was E (k + 1) ss T [(E[k]).t] (ss1 ++ [referP (E[k]).s (idx is)]) (T1 ++ [(E[k]).t]) := by
  have hone := (hg.made _ (List.getElem_mem hk)).2.2 T1 is hi he
  have hnk : (E[k]).t ∉ keysE (E.take k) := fun hin => by
    have h1 := hg.nodup
    have h2 : E = E.take (k + 1) ++ E.drop (k + 1) := (List.take_append_drop _ _).symm
    rw [h2, keysE_app, keysE_at hk, keysE_app] at h1
    exact (List.nodup_append.1 (List.nodup_append.1 h1).1).2.2 _ hin _ (by simp [keysE]) rfl
  have hn1 : (E[k]).t ∉ T1 := fun hin => hnk (h.new _ hin hn)
  have hink : (E[k]).t ∈ keysE (E.take (k + 1)) := by rw [keysE_at hk]; exact keysE_snoc.2 (.inr rfl)
  refine ⟨⟨?_, ?_, fun t ht => ?_, fun s hs => (List.mem_append.1 hs).elim (h.laid.small s) (fun q => by rw [List.mem_singleton.1 q, refer_text]; exact (hg.made _ (List.getElem_mem hk)).2.1)⟩, h.steps.trans (List.prefix_append _ _), h.terms.trans (List.prefix_append _ _), fun x hx => ?_, fun x hx hn2 => ?_⟩
  · rw [steps_then _ _ _ _ _ h.laid.run]
    exact steps_one hone
  · refine List.nodup_append.2 ⟨h.laid.nodup, by simp, fun a ha b hb => ?_⟩
    rw [List.mem_singleton.1 hb]
    exact fun e => hn1 (e ▸ ha)
  · rcases List.mem_append.1 ht with ht | ht
    · exact h.laid.sub t ht
    · rw [List.mem_singleton.1 ht]
      exact List.mem_map_of_mem (List.getElem_mem hk)
  · rw [List.mem_singleton.1 hx]
    exact List.mem_append.2 (.inr (by simp))
  · rcases List.mem_append.1 hx with hx | hx
    · exact keysE_mono (take_front11 (Nat.le_succ k)) (h.new x hx hn2)
    · rw [List.mem_singleton.1 hx]
      exact hink
end Go.Proofs.Ytpajcalfjfkogaa.Pl
