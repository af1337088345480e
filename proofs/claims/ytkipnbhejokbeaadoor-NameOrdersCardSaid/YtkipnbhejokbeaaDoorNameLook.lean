/- How a rune looks: the program's map, and the document's answer. -/
import Derived.Test.YtkipnbhejokbeaaDoorNameRune
import Derived.Maps.OwnSet
namespace Go.Proofs.YtkipnbhejokbeaaDoor.Pl
open Go.RowKit Go.Maps

def lookD (l : List (Int × Int)) : DataW Unit := l.foldl (fun D p => D.put (.int .i32 p.1) (.lit (.int .i32 p.2))) (.map [])
theorem lookD_snoc (l : List (Int × Int)) (p : Int × Int) : lookD (l ++ [p]) = (lookD l).put (.int .i32 p.1) (.lit (.int .i32 p.2)) := by simp [lookD, List.foldl_append]
theorem isMap_fold (l : List (Int × Int)) : ∀ D : DataW Unit, IsMap D → IsMap (l.foldl (fun D p => D.put (.int .i32 p.1) (.lit (.int .i32 p.2))) D) := by
  induction l with
  | nil => intro D h; exact h
  | cons p l ih => intro D h; exact ih _ (h.put _ _)
theorem lookD_isMap (l : List (Int × Int)) : IsMap (lookD l) := isMap_fold l _ isMap_empty
theorem fold_at (r : Int) (z : DataW Unit) (l : List (Int × Int)) : ∀ (D : DataW Unit) (o : Option Int), IsMap D → D.atKey (.int .i32 r) z = (match o with | some c => .lit (.int .i32 c) | none => z) → Maps.has D (.int .i32 r) = o.isSome →
    (l.foldl (fun D p => D.put (.int .i32 p.1) (.lit (.int .i32 p.2))) D).atKey (.int .i32 r) z = (match l.foldl (fun c p => if p.1 = r then some p.2 else c) o with | some c => .lit (.int .i32 c) | none => z) ∧
    Maps.has (l.foldl (fun D p => D.put (.int .i32 p.1) (.lit (.int .i32 p.2))) D) (.int .i32 r) = (l.foldl (fun c p => if p.1 = r then some p.2 else c) o).isSome := by
  induction l with
  | nil => intro D o _ h1 h2; exact ⟨h1, h2⟩
  | cons p l ih =>
    intro D o hD h1 h2
    rw [List.foldl_cons, List.foldl_cons]
    refine ih _ _ (hD.put _ _) ?_ ?_
    · by_cases e : p.1 = r
      · rw [if_pos e, e]
        exact atKey_put_same hD (by trivial) _ _
      · rw [if_neg e]
        rw [atKey_put_other (fun h => e (by injection h with _ h; exact h.symm))]
        exact h1
    · by_cases e : p.1 = r
      · rw [if_pos e, e]
        exact has_put_same hD (by trivial) _
      · rw [if_neg e]
        rw [has_put_other (fun h => e (by injection h with _ h; exact h.symm))]
        exact h2
theorem lookD_at (r : Int) (z : DataW Unit) : (lookD lookT).atKey (.int .i32 r) z = (match lookR lookT r with | some c => .lit (.int .i32 c) | none => z) ∧ Maps.has (lookD lookT) (.int .i32 r) = (lookR lookT r).isSome :=
  fold_at r z lookT _ none isMap_empty rfl rfl

/-- Block m holds the program's looks. -/
def LooksAt (w : World) (m : Nat) : Prop := w.ownsMap Tryd.prog 21 (plainElem (H := Unit) Tryd.prog 21) m 25 (lookD lookT)
theorem LooksAt.below {w w' : World} {m B : Nat} (h : LooksAt w m) (hb : Below B w w') (hm : m < B) : LooksAt w' m := by
  obtain ⟨es, clock, hk, rest⟩ := h
  exact ⟨es, clock, (hb.block m hm).trans hk, rest⟩

theorem keyLaw : Keyed Tryd.prog 21 := int_keyed Tryd.underlying21
theorem zeroE (w : World) : (zeroValue 21).run Tryd.prog w = .ok (.int .i32 0) w := by kernel_rfl
theorem wf_i32 {r : Int} (h : -2147483648 ≤ r) (h' : r ≤ 2147483647) : (Lit.int .i32 r).wf = true := by
  simp [Lit.wf, IntKind.min, IntKind.max, IntKind.signed, IntKind.bits]; omega
/-- A map's literal puts its pairs in one by one. -/
theorem wpList_insert_own {H : Type} {P : Program} (w : World) {ops : Array Oper} {rest : List Oper} {o : Oper} {a : Act} {Q : Exit → Act → World → Prop}
    (hg : o.guard = none) (m x v : Operand) (t : TypeId) (hop : o.op = Op.insert t m x v)
    (k e : TypeId) (K : Keyed P k) (ht : P.underlying t = some (.map k e)) (R : Value → Option (DataW H × List MemPlace)) (b n : Nat) (D : DataW H)
    (hm : a.eval m = .map (some b)) (hown : w.ownsMap P k R b n D) (hn : n < maxLen) (key val : Value) (kl : Lit) (hx : a.eval x = key) (hv : a.eval v = val) (hkey : keyOf P k key = some kl)
    (d : DataW H) (ps : List MemPlace) (hval : R val = some (d, ps))
    (hK : ∀ w', w'.ownsMap P k R b (n + 1) (D.put kl d) → w.grownBy w' (some b) → wpList P ops Q rest (a.put o.dst undef) w') :
    wpList P ops Q (o :: rest) a w := by
  refine wpList_plain hg fun K' hK' => ?_
  obtain ⟨w', hrun, r1, r2⟩ := hown.update K ht hn hkey hval
  unfold Oper.wp
  simp [execOp, hop, hm, hx, hv, hrun, Result.andThen]
  exact hK' _ _ (hK w' r1 r2)

set_option maxHeartbeats 2000000 in
set_option maxRecDepth 100000 in
theorem of_any (m : Nat) (r : Int) (h0 : -2147483648 ≤ r) (h1 : r ≤ 2147483647) (w : World) (hm : LooksAt w m) :
    Calls Tryd.prog 23 #[.map (some m), .int .i32 r] w fun e w' => e = .returned (.int .i32 (lookZ r)) ∧ w = w' := by
  have HM := Lib.hid hm
  have hwf := Lib.hid (wf_i32 h0 h1)
  have HA := Lib.hid (lookD_at r (.lit (.int .i32 0)))
  obtain ⟨z, hz⟩ : ∃ z, z = lookZ r := ⟨_, rfl⟩
  rw [← hz]
  unfold lookZ at hz
  cases hl : lookR lookT r with
  | none =>
    rw [hl] at hz HA
    have HZ := Lib.hid hz
    have hh : Maps.has (lookD lookT) (.int .i32 r) = false := HA.out.2
    clear hz hl hm h0 h1
    go_enter Tryd.func23, Tryd.ntmps23
    go_wp2_with (at_lookup; refine wpList_lookup_own_ok_int _ rfl _ _ 37 rfl 21 21 .i32 keyLaw Tryd.underlying37 Tryd.underlying21 (zeroE _) m 25 (lookD lookT) rfl HM.out _ _ rfl (keyOf_int_mk Tryd.underlying21 hwf.out) ?_; intro c hat hwc)
    go_ret
    exact ⟨ret_i32 (by rw [HZ.out]; rfl), rfl⟩
  | some c0 =>
    rw [hl] at hz HA
    have HZ := Lib.hid hz
    have hh : Maps.has (lookD lookT) (.int .i32 r) = true := HA.out.2
    clear hz hl hm h0 h1
    go_enter Tryd.func23, Tryd.ntmps23
    go_wp2_with (at_lookup; refine wpList_lookup_own_ok_int _ rfl _ _ 37 rfl 21 21 .i32 keyLaw Tryd.underlying37 Tryd.underlying21 (zeroE _) m 25 (lookD lookT) rfl HM.out _ _ rfl (keyOf_int_mk Tryd.underlying21 hwf.out) ?_; intro c hat hwc; have hat2 := Lib.hid hat; clear hat)
    go_ret
    refine ⟨ret_i32 ?_, rfl⟩
    rename_i c _ hat2
    have h2 := hat2.out.symm.trans HA.out.1
    injection h2 with h2
    injection h2 with _ h2
    rw [HZ.out, h2]; rfl
end Go.Proofs.YtkipnbhejokbeaaDoor.Pl
