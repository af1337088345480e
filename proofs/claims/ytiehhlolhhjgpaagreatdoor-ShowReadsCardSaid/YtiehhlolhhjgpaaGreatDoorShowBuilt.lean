/- What show.built answers or throws. -/
import Derived.Test.YtiehhlolhhjgpaaGreatDoorShowZ3
import Derived.Test.YtiehhlolhhjgpaaGreatDoorShowZ4
import Derived.Deep.RegionHeld3
namespace Go.Proofs.YtiehhlolhhjgpaaGreatDoor.Pl
open Go.RowKit

/-- A load whose value is known, as one step of a region that draws. -/
theorem step_load7 {P : Program} {ops : Array Oper} {o : Oper} {a : Act} {w : World} {K : Act → World → Prop} {Q : Exit → Act → World → Prop} {E : Prop} (hg : o.guard = none) (ty : TypeId) (x : Operand) (ho : o.op = .load ty x)
    (p : Value) (hx : a.eval x = p) (v : Value) (hl : (Instr.loadAt ty p).run P w = .ok v w) (h : K (a.put o.dst v) w) :
    if Region.wanted o (yielded ops a.tmps) = true then Oper.wp P o a w K Q else E := by
  rw [if_pos (by simp [Region.wanted, hg])]
  unfold Oper.wp execOp
  simp only [ho, hx, Sem.run_bind, hl, Result.andThen_ok, Sem.run_pure]
  exact h
/-- What built answers or throws. -/
def BuiltPost (r : List UInt8 × Nat) (w : World) (e : Ending) (w' : World) : Prop := (if r.2 = 0 then e = .returned (.string ⟨r.1.toArray⟩) else e = boom7) ∧ Below w.heap.size w w'
theorem BuiltPost.yes {t : List UInt8} {w w' : World} (h : Below w.heap.size w w') : BuiltPost (t, 0) w (.returned (.string ⟨t.toArray⟩)) w' := ⟨by rw [if_pos rfl], h⟩
theorem BuiltPost.no {t : List UInt8} {n : Nat} {w w' : World} (hn : n ≠ 0) (h : Below w.heap.size w w') : BuiltPost (t, n) w boom7 w' := ⟨by rw [if_neg hn], h⟩
theorem st2_eq' (h : List UInt8 × Nat) : st2 h = .tuple #[.string ⟨h.1.toArray⟩, .int .i64 h.2] := rfl
set_option maxHeartbeats 1000000 in
set_option maxRecDepth 100000 in
theorem built_row (l : List ByteArray) (ao : Option Addr) (cap : Nat) (hcap : l.length ≤ cap) (hl : l.length ≤ 1000) (hx : ∀ x ∈ l, x.size ≤ 100000) (w : World) (hrow : TxtRow w ao l) :
    Calls Tryz.prog 68 #[.int .u8 3, .slice ao l.length cap] w (BuiltPost (rowP (l.map bl)) w) := by
  have RW := Lib.hid (row6_any l ao cap hcap hl hx w hrow)
  rw [st2_eq'] at RW
  generalize rowP (l.map bl) = d at *
  obtain ⟨t, e⟩ := d
  simp only at RW
  clear hx hrow
  by_cases he : e = 0
  · subst he
    go_enter Tryz.func68, Tryz.ntmps68
    go_wp2_with (first | (go_at_call 22; refine RW.out.mono ?_; rintro e w1 ⟨rfl, b1⟩; have B1 := Lib.hid b1; clear b1) | (go_at_call 67; refine (made7_ok _ _).mono ?_; rintro e w2 ⟨rfl, rfl⟩))
    go_ret
    exact BuiltPost.yes B1.out
  · have HE := Lib.hid he
    clear he
    go_enter Tryz.func68, Tryz.ntmps68
    go_wp2_with (first | (go_at_call 22; refine RW.out.mono ?_; rintro e w1 ⟨rfl, b1⟩; have B1 := Lib.hid b1; clear b1) | (go_at_call 67; refine (made7_bad _ _ HE.out _).mono ?_; rintro e w2 ⟨rfl, rfl⟩))
    exact ⟨rfl, BuiltPost.no HE.out B1.out⟩
theorem row_cell {w : World} {ao : Option Addr} {l : List ByteArray} (h : TxtRow w ao l) (hne : l ≠ []) : ∃ q off, ao = some ⟨q, off, none⟩ ∧ ∀ j, j < l.length → w.cell? ⟨q, off + j, none⟩ = some (.string (l.getD j ByteArray.empty)) := by
  rcases h with h | ⟨q, off, h1, _, h3⟩
  · exact absurd h hne
  · exact ⟨q, off, h1, h3⟩
set_option maxHeartbeats 1000000 in
set_option maxRecDepth 100000 in
theorem built_no4 (n : Nat) (hn : n ≠ 1) (ao : Option Addr) (cap : Nat) (w : World) :
    Calls Tryz.prog 68 #[.int .u8 4, .slice ao n cap] w (BuiltPost ([], 7) w) := by
  have hq : ((n : Int) == 1) = false := by rw [beq_eq_false_iff_ne]; omega
  go_enter Tryz.func68, Tryz.ntmps68
  go_wp2_with fail
  exact ⟨rfl, BuiltPost.no (by decide) (Below.refl _ _)⟩
set_option maxHeartbeats 1000000 in
set_option maxRecDepth 100000 in
theorem built_no5 (n : Nat) (hn : n ≠ 2) (ao : Option Addr) (cap : Nat) (w : World) :
    Calls Tryz.prog 68 #[.int .u8 5, .slice ao n cap] w (BuiltPost ([], 7) w) := by
  have hq : ((n : Int) == 2) = false := by rw [beq_eq_false_iff_ne]; omega
  go_enter Tryz.func68, Tryz.ntmps68
  go_wp2_with fail
  exact ⟨rfl, BuiltPost.no (by decide) (Below.refl _ _)⟩
set_option maxHeartbeats 1000000 in
set_option maxRecDepth 100000 in
theorem built_no6 (n : Nat) (hn : n ≠ 3) (ao : Option Addr) (cap : Nat) (w : World) :
    Calls Tryz.prog 68 #[.int .u8 6, .slice ao n cap] w (BuiltPost ([], 7) w) := by
  have hq : ((n : Int) == 3) = false := by rw [beq_eq_false_iff_ne]; omega
  go_enter Tryz.func68, Tryz.ntmps68
  go_wp2_with fail
  exact ⟨rfl, BuiltPost.no (by decide) (Below.refl _ _)⟩
set_option maxHeartbeats 1000000 in
set_option maxRecDepth 100000 in
theorem built_hash (a0 : ByteArray) (h0 : a0.size ≤ 100000) (q off cap : Nat) (w : World) (c0 : w.cell? ⟨q, off, none⟩ = some (.string a0)) :
    Calls Tryz.prog 68 #[.int .u8 4, .slice (some ⟨q, off, none⟩) 1 cap] w (BuiltPost (madeP [104] [bl a0]) w) := by
  have MC := Lib.hid (fun V => hash6_any a0 h0 V)
  rw [st2_eq'] at MC
  generalize madeP [104] [bl a0] = d at *
  obtain ⟨t, e⟩ := d
  simp only at MC
  clear h0
  by_cases he : e = 0
  · subst he
    go_enter Tryz.func68, Tryz.ntmps68
    go_wp2_with (first | (go_at_call 94; refine (MC.out _).mono ?_; rintro e w1 ⟨rfl, b1⟩; have B1 := Lib.hid b1; clear b1) | (go_at_call 67; refine (made7_ok _ _).mono ?_; rintro e w2 ⟨rfl, rfl⟩))
    go_ret
    exact BuiltPost.yes B1.out
  · have HE := Lib.hid he
    clear he
    go_enter Tryz.func68, Tryz.ntmps68
    go_wp2_with (first | (go_at_call 94; refine (MC.out _).mono ?_; rintro e w1 ⟨rfl, b1⟩; have B1 := Lib.hid b1; clear b1) | (go_at_call 67; refine (made7_bad _ _ HE.out _).mono ?_; rintro e w2 ⟨rfl, rfl⟩))
    exact ⟨rfl, BuiltPost.no HE.out B1.out⟩
set_option maxHeartbeats 2000000 in
set_option maxRecDepth 100000 in
theorem built_mac (a0 a1 : ByteArray) (h0 : a0.size ≤ 100000) (h1 : a1.size ≤ 100000) (q off cap : Nat) (w : World) (c0 : w.cell? ⟨q, off, none⟩ = some (.string a0)) (c1 : w.cell? ⟨q, off + 1, none⟩ = some (.string a1)) :
    Calls Tryz.prog 68 #[.int .u8 5, .slice (some ⟨q, off, none⟩) 2 cap] w (BuiltPost (madeP [109] [bl a0, bl a1]) w) := by
  have MC := Lib.hid (fun V => mac6_any a0 a1 h0 h1 V)
  rw [st2_eq'] at MC
  generalize madeP [109] [bl a0, bl a1] = d at *
  obtain ⟨t, e⟩ := d
  simp only at MC
  clear h0 h1
  by_cases he : e = 0
  · subst he
    have HZ : Hid (∀ V, Below w.heap.size w V → BuiltPost (t, 0) w (.returned (.string ⟨t.toArray⟩)) V) := Lib.hid (fun V h => BuiltPost.yes h)
    go_enter Tryz.func68, Tryz.ntmps68
    go_wp2_with fail
    obtain ⟨V0, hV0⟩ : ∃ U, U = World.drew w := ⟨_, rfl⟩
    have hl0 : (Instr.loadAt 9 (.pointer (some ⟨q, off, none⟩))).run Tryz.prog V0 = .ok (.string a0) V0 := by rw [hV0]; have hd : (World.drew w).cell? ⟨q, off, none⟩ = some (.string a0) := c0; go_simp
    have hl1 : (Instr.loadAt 9 (.pointer (some ⟨q, off + 1, none⟩))).run Tryz.prog V0 = .ok (.string a1) V0 := by rw [hV0]; have hd : (World.drew w).cell? ⟨q, off + 1, none⟩ = some (.string a1) := c1; go_simp
    have DRW : Hid (Below w.heap.size w V0) := Lib.hid (by rw [hV0]; exact (Below.refl _ w).drew)
    have HL0 := Lib.hid hl0
    have HL1 := Lib.hid hl1
    have HV0 := Lib.hid hV0
    clear hV0 hl0 c0 hl1 c1
    refine wp_region_any (by kernel_rfl) ?_
    change wpAny _ _ _ _ _ _ _ (World.drew w)
    rw [← HV0.out]
    clear HV0
    refine wpAny_take (i := 0) (oi := { dst := some 36, op := Op.move (Operand.tmp 1), type := 29, pos := "show.go:252", after := #[], guard := none }) (v := .slice (some ⟨q, off, none⟩) 2 cap) rfl (by kernel_rfl) (by kernel_rfl) (by kernel_rfl) (fun _ _ _ h => h) (Or.inl ⟨by rfl, fun w => by go_simp⟩) ?_
    (try simp only [Act.put, List.setIfInBounds_toArray, List.set_cons_zero, List.set_cons_succ])
    refine wpAny_take (i := 1) (oi := { dst := some 37, op := Op.indexAddr 29 (Operand.tmp 36) (Operand.const (Value.int IntKind.i64 0)), type := 0, pos := "show.go:252", after := #[{ on := 0, ground := Ground.data }], guard := none }) (v := .pointer (some ⟨q, off, none⟩)) rfl (by kernel_rfl) (by kernel_rfl) (by kernel_rfl) (fun _ _ _ h => h) (Or.inl ⟨by rfl, fun w => by go_simp⟩) ?_
    (try simp only [Act.put, List.setIfInBounds_toArray, List.set_cons_zero, List.set_cons_succ])
    refine wpAny_take (i := 3) (oi := { dst := some 39, op := Op.move (Operand.tmp 1), type := 29, pos := "show.go:252", after := #[], guard := none }) (v := .slice (some ⟨q, off, none⟩) 2 cap) rfl (by kernel_rfl) (by kernel_rfl) (by kernel_rfl) (fun _ _ _ h => h) (Or.inl ⟨by rfl, fun w => by go_simp⟩) ?_
    (try simp only [Act.put, List.setIfInBounds_toArray, List.set_cons_zero, List.set_cons_succ])
    refine wpAny_take (i := 4) (oi := { dst := some 40, op := Op.indexAddr 29 (Operand.tmp 39) (Operand.const (Value.int IntKind.i64 1)), type := 0, pos := "show.go:252", after := #[{ on := 3, ground := Ground.data }], guard := none }) (v := .pointer (some ⟨q, off + 1, none⟩)) rfl (by kernel_rfl) (by kernel_rfl) (by kernel_rfl) (fun _ _ _ h => h) (Or.inl ⟨by rfl, fun w => by go_simp⟩) ?_
    (try simp only [Act.put, List.setIfInBounds_toArray, List.set_cons_zero, List.set_cons_succ])
    refine wpAny_ready (rs := [2, 5]) (by kernel_rfl) (by simp) ?_
    refine AllReady.cons (o := { dst := some 38, op := Op.load 9 (Operand.tmp 37), type := 9, pos := "show.go:252", after := #[{ on := 1, ground := Ground.data }], guard := none }) rfl (fun K hK => ?_) ?_
    · refine step_load7 rfl 9 _ rfl (.pointer (some ⟨q, off, none⟩)) rfl _ HL0.out ?_
      refine hK _ _ ?_
      clear hK K
      (try simp only [Act.put, List.setIfInBounds_toArray, List.set_cons_zero, List.set_cons_succ])
      refine wpAny_ready (rs := [5]) (by kernel_rfl) (by simp) ?_
      refine AllReady.cons (o := { dst := some 41, op := Op.load 9 (Operand.tmp 40), type := 9, pos := "show.go:252", after := #[{ on := 4, ground := Ground.data }], guard := none }) rfl (fun K hK => ?_) AllReady.nil
      refine step_load7 rfl 9 _ rfl (.pointer (some ⟨q, off + 1, none⟩)) rfl _ HL1.out ?_
      refine hK _ _ ?_
      clear hK K
      (try simp only [Act.put, List.setIfInBounds_toArray, List.set_cons_zero, List.set_cons_succ])
      refine wpAny_ready (rs := [6]) (by kernel_rfl) (by simp) ?_
      refine AllReady.cons (o := { dst := some 42, op := Op.call { callee := Callee.value (Operand.func 23), args := #[Operand.tmp 38, Operand.tmp 41], argTypes := #[9, 9] }, type := 25, pos := "show.go:252", after := #[{ on := 2, ground := Ground.data }, { on := 5, ground := Ground.data }], guard := none }) rfl (fun K hK => ?_) AllReady.nil
      rw [if_pos (by rfl)]
      go_simp
      refine (MC.out V0).mono ?_
      rintro e w2 ⟨rfl, b2⟩
      refine hK _ _ ?_
      clear hK K
      (try simp only [Act.put, List.setIfInBounds_toArray, List.set_cons_zero, List.set_cons_succ])
      have B2 := Lib.hid (below_step DRW.out b2)
      clear b2
      refine wpAny_take (i := 7) (oi := { dst := some 43, op := Op.extract (Operand.tmp 42) 0, type := 9, pos := "show.go:252", after := #[{ on := 6, ground := Ground.data }], guard := none }) (v := .string ⟨t.toArray⟩) rfl (by kernel_rfl) (by kernel_rfl) (by kernel_rfl) (fun _ _ _ h => h) (Or.inl ⟨by rfl, fun w => by go_simp⟩) ?_
      (try simp only [Act.put, List.setIfInBounds_toArray, List.set_cons_zero, List.set_cons_succ])
      refine wpAny_take (i := 8) (oi := { dst := some 44, op := Op.extract (Operand.tmp 42) 1, type := 24, pos := "show.go:252", after := #[{ on := 6, ground := Ground.data }], guard := none }) (v := .int .i64 (0)) rfl (by kernel_rfl) (by kernel_rfl) (by kernel_rfl) (fun _ _ _ h => h) (Or.inl ⟨by rfl, fun w => by go_simp⟩) ?_
      (try simp only [Act.put, List.setIfInBounds_toArray, List.set_cons_zero, List.set_cons_succ])
      refine wpAny_ready (rs := [9]) (by kernel_rfl) (by simp) ?_
      refine AllReady.cons (o := { dst := some 45, op := Op.call { callee := Callee.value (Operand.func 67), args := #[Operand.tmp 43, Operand.tmp 44], argTypes := #[9, 24] }, type := 9, pos := "show.go:252", after := #[{ on := 7, ground := Ground.data }, { on := 8, ground := Ground.data }, { on := 6, ground := Ground.chain }], guard := none }) rfl (fun K hK => ?_) AllReady.nil
      rw [if_pos (by rfl)]
      go_simp
      refine (made7_ok _ _).mono ?_
      rintro e w3 ⟨rfl, rfl⟩
      refine hK _ _ ?_
      clear hK K
      (try simp only [Act.put, List.setIfInBounds_toArray, List.set_cons_zero, List.set_cons_succ])
      refine wpAny_take (i := 10) (oi := { dst := some 4, op := Op.assign (Operand.tmp 45), type := 9, pos := "show.go:252", after := #[{ on := 9, ground := Ground.data }, { on := 9, ground := Ground.chain }, { on := 0, ground := Ground.phase }, { on := 1, ground := Ground.phase }, { on := 2, ground := Ground.phase }, { on := 3, ground := Ground.phase }, { on := 4, ground := Ground.phase }, { on := 5, ground := Ground.phase }, { on := 6, ground := Ground.phase }, { on := 7, ground := Ground.phase }, { on := 8, ground := Ground.phase }, { on := 9, ground := Ground.phase }], guard := none }) (v := .string ⟨t.toArray⟩) rfl (by kernel_rfl) (by kernel_rfl) (by kernel_rfl) (fun _ _ _ h => h) (Or.inl ⟨by rfl, fun w => by go_simp⟩) ?_
      (try simp only [Act.put, List.setIfInBounds_toArray, List.set_cons_zero, List.set_cons_succ])
      refine wpAny_done (by kernel_rfl) ?_ _
      go_wp2_with fail
      go_ret
      exact HZ.out _ B2.out
    refine AllReady.cons (o := { dst := some 41, op := Op.load 9 (Operand.tmp 40), type := 9, pos := "show.go:252", after := #[{ on := 4, ground := Ground.data }], guard := none }) rfl (fun K hK => ?_) AllReady.nil
    refine step_load7 rfl 9 _ rfl (.pointer (some ⟨q, off + 1, none⟩)) rfl _ HL1.out ?_
    refine hK _ _ ?_
    clear hK K
    (try simp only [Act.put, List.setIfInBounds_toArray, List.set_cons_zero, List.set_cons_succ])
    refine wpAny_ready (rs := [2]) (by kernel_rfl) (by simp) ?_
    refine AllReady.cons (o := { dst := some 38, op := Op.load 9 (Operand.tmp 37), type := 9, pos := "show.go:252", after := #[{ on := 1, ground := Ground.data }], guard := none }) rfl (fun K hK => ?_) AllReady.nil
    refine step_load7 rfl 9 _ rfl (.pointer (some ⟨q, off, none⟩)) rfl _ HL0.out ?_
    refine hK _ _ ?_
    clear hK K
    (try simp only [Act.put, List.setIfInBounds_toArray, List.set_cons_zero, List.set_cons_succ])
    refine wpAny_ready (rs := [6]) (by kernel_rfl) (by simp) ?_
    refine AllReady.cons (o := { dst := some 42, op := Op.call { callee := Callee.value (Operand.func 23), args := #[Operand.tmp 38, Operand.tmp 41], argTypes := #[9, 9] }, type := 25, pos := "show.go:252", after := #[{ on := 2, ground := Ground.data }, { on := 5, ground := Ground.data }], guard := none }) rfl (fun K hK => ?_) AllReady.nil
    rw [if_pos (by rfl)]
    go_simp
    refine (MC.out V0).mono ?_
    rintro e w2 ⟨rfl, b2⟩
    refine hK _ _ ?_
    clear hK K
    (try simp only [Act.put, List.setIfInBounds_toArray, List.set_cons_zero, List.set_cons_succ])
    have B2 := Lib.hid (below_step DRW.out b2)
    clear b2
    refine wpAny_take (i := 7) (oi := { dst := some 43, op := Op.extract (Operand.tmp 42) 0, type := 9, pos := "show.go:252", after := #[{ on := 6, ground := Ground.data }], guard := none }) (v := .string ⟨t.toArray⟩) rfl (by kernel_rfl) (by kernel_rfl) (by kernel_rfl) (fun _ _ _ h => h) (Or.inl ⟨by rfl, fun w => by go_simp⟩) ?_
    (try simp only [Act.put, List.setIfInBounds_toArray, List.set_cons_zero, List.set_cons_succ])
    refine wpAny_take (i := 8) (oi := { dst := some 44, op := Op.extract (Operand.tmp 42) 1, type := 24, pos := "show.go:252", after := #[{ on := 6, ground := Ground.data }], guard := none }) (v := .int .i64 (0)) rfl (by kernel_rfl) (by kernel_rfl) (by kernel_rfl) (fun _ _ _ h => h) (Or.inl ⟨by rfl, fun w => by go_simp⟩) ?_
    (try simp only [Act.put, List.setIfInBounds_toArray, List.set_cons_zero, List.set_cons_succ])
    refine wpAny_ready (rs := [9]) (by kernel_rfl) (by simp) ?_
    refine AllReady.cons (o := { dst := some 45, op := Op.call { callee := Callee.value (Operand.func 67), args := #[Operand.tmp 43, Operand.tmp 44], argTypes := #[9, 24] }, type := 9, pos := "show.go:252", after := #[{ on := 7, ground := Ground.data }, { on := 8, ground := Ground.data }, { on := 6, ground := Ground.chain }], guard := none }) rfl (fun K hK => ?_) AllReady.nil
    rw [if_pos (by rfl)]
    go_simp
    refine (made7_ok _ _).mono ?_
    rintro e w3 ⟨rfl, rfl⟩
    refine hK _ _ ?_
    clear hK K
    (try simp only [Act.put, List.setIfInBounds_toArray, List.set_cons_zero, List.set_cons_succ])
    refine wpAny_take (i := 10) (oi := { dst := some 4, op := Op.assign (Operand.tmp 45), type := 9, pos := "show.go:252", after := #[{ on := 9, ground := Ground.data }, { on := 9, ground := Ground.chain }, { on := 0, ground := Ground.phase }, { on := 1, ground := Ground.phase }, { on := 2, ground := Ground.phase }, { on := 3, ground := Ground.phase }, { on := 4, ground := Ground.phase }, { on := 5, ground := Ground.phase }, { on := 6, ground := Ground.phase }, { on := 7, ground := Ground.phase }, { on := 8, ground := Ground.phase }, { on := 9, ground := Ground.phase }], guard := none }) (v := .string ⟨t.toArray⟩) rfl (by kernel_rfl) (by kernel_rfl) (by kernel_rfl) (fun _ _ _ h => h) (Or.inl ⟨by rfl, fun w => by go_simp⟩) ?_
    (try simp only [Act.put, List.setIfInBounds_toArray, List.set_cons_zero, List.set_cons_succ])
    refine wpAny_done (by kernel_rfl) ?_ _
    go_wp2_with fail
    go_ret
    exact HZ.out _ B2.out
  · have HE := Lib.hid he
    have HZ : Hid (∀ V, Below w.heap.size w V → BuiltPost (t, e) w boom7 V) := Lib.hid (fun V h => BuiltPost.no HE.out h)
    clear he
    go_enter Tryz.func68, Tryz.ntmps68
    go_wp2_with fail
    obtain ⟨V0, hV0⟩ : ∃ U, U = World.drew w := ⟨_, rfl⟩
    have hl0 : (Instr.loadAt 9 (.pointer (some ⟨q, off, none⟩))).run Tryz.prog V0 = .ok (.string a0) V0 := by rw [hV0]; have hd : (World.drew w).cell? ⟨q, off, none⟩ = some (.string a0) := c0; go_simp
    have hl1 : (Instr.loadAt 9 (.pointer (some ⟨q, off + 1, none⟩))).run Tryz.prog V0 = .ok (.string a1) V0 := by rw [hV0]; have hd : (World.drew w).cell? ⟨q, off + 1, none⟩ = some (.string a1) := c1; go_simp
    have DRW : Hid (Below w.heap.size w V0) := Lib.hid (by rw [hV0]; exact (Below.refl _ w).drew)
    have HL0 := Lib.hid hl0
    have HL1 := Lib.hid hl1
    have HV0 := Lib.hid hV0
    clear hV0 hl0 c0 hl1 c1
    refine wp_region_any (by kernel_rfl) ?_
    change wpAny _ _ _ _ _ _ _ (World.drew w)
    rw [← HV0.out]
    clear HV0
    refine wpAny_take (i := 0) (oi := { dst := some 36, op := Op.move (Operand.tmp 1), type := 29, pos := "show.go:252", after := #[], guard := none }) (v := .slice (some ⟨q, off, none⟩) 2 cap) rfl (by kernel_rfl) (by kernel_rfl) (by kernel_rfl) (fun _ _ _ h => h) (Or.inl ⟨by rfl, fun w => by go_simp⟩) ?_
    (try simp only [Act.put, List.setIfInBounds_toArray, List.set_cons_zero, List.set_cons_succ])
    refine wpAny_take (i := 1) (oi := { dst := some 37, op := Op.indexAddr 29 (Operand.tmp 36) (Operand.const (Value.int IntKind.i64 0)), type := 0, pos := "show.go:252", after := #[{ on := 0, ground := Ground.data }], guard := none }) (v := .pointer (some ⟨q, off, none⟩)) rfl (by kernel_rfl) (by kernel_rfl) (by kernel_rfl) (fun _ _ _ h => h) (Or.inl ⟨by rfl, fun w => by go_simp⟩) ?_
    (try simp only [Act.put, List.setIfInBounds_toArray, List.set_cons_zero, List.set_cons_succ])
    refine wpAny_take (i := 3) (oi := { dst := some 39, op := Op.move (Operand.tmp 1), type := 29, pos := "show.go:252", after := #[], guard := none }) (v := .slice (some ⟨q, off, none⟩) 2 cap) rfl (by kernel_rfl) (by kernel_rfl) (by kernel_rfl) (fun _ _ _ h => h) (Or.inl ⟨by rfl, fun w => by go_simp⟩) ?_
    (try simp only [Act.put, List.setIfInBounds_toArray, List.set_cons_zero, List.set_cons_succ])
    refine wpAny_take (i := 4) (oi := { dst := some 40, op := Op.indexAddr 29 (Operand.tmp 39) (Operand.const (Value.int IntKind.i64 1)), type := 0, pos := "show.go:252", after := #[{ on := 3, ground := Ground.data }], guard := none }) (v := .pointer (some ⟨q, off + 1, none⟩)) rfl (by kernel_rfl) (by kernel_rfl) (by kernel_rfl) (fun _ _ _ h => h) (Or.inl ⟨by rfl, fun w => by go_simp⟩) ?_
    (try simp only [Act.put, List.setIfInBounds_toArray, List.set_cons_zero, List.set_cons_succ])
    refine wpAny_ready (rs := [2, 5]) (by kernel_rfl) (by simp) ?_
    refine AllReady.cons (o := { dst := some 38, op := Op.load 9 (Operand.tmp 37), type := 9, pos := "show.go:252", after := #[{ on := 1, ground := Ground.data }], guard := none }) rfl (fun K hK => ?_) ?_
    · refine step_load7 rfl 9 _ rfl (.pointer (some ⟨q, off, none⟩)) rfl _ HL0.out ?_
      refine hK _ _ ?_
      clear hK K
      (try simp only [Act.put, List.setIfInBounds_toArray, List.set_cons_zero, List.set_cons_succ])
      refine wpAny_ready (rs := [5]) (by kernel_rfl) (by simp) ?_
      refine AllReady.cons (o := { dst := some 41, op := Op.load 9 (Operand.tmp 40), type := 9, pos := "show.go:252", after := #[{ on := 4, ground := Ground.data }], guard := none }) rfl (fun K hK => ?_) AllReady.nil
      refine step_load7 rfl 9 _ rfl (.pointer (some ⟨q, off + 1, none⟩)) rfl _ HL1.out ?_
      refine hK _ _ ?_
      clear hK K
      (try simp only [Act.put, List.setIfInBounds_toArray, List.set_cons_zero, List.set_cons_succ])
      refine wpAny_ready (rs := [6]) (by kernel_rfl) (by simp) ?_
      refine AllReady.cons (o := { dst := some 42, op := Op.call { callee := Callee.value (Operand.func 23), args := #[Operand.tmp 38, Operand.tmp 41], argTypes := #[9, 9] }, type := 25, pos := "show.go:252", after := #[{ on := 2, ground := Ground.data }, { on := 5, ground := Ground.data }], guard := none }) rfl (fun K hK => ?_) AllReady.nil
      rw [if_pos (by rfl)]
      go_simp
      refine (MC.out V0).mono ?_
      rintro e w2 ⟨rfl, b2⟩
      refine hK _ _ ?_
      clear hK K
      (try simp only [Act.put, List.setIfInBounds_toArray, List.set_cons_zero, List.set_cons_succ])
      have B2 := Lib.hid (below_step DRW.out b2)
      clear b2
      refine wpAny_take (i := 7) (oi := { dst := some 43, op := Op.extract (Operand.tmp 42) 0, type := 9, pos := "show.go:252", after := #[{ on := 6, ground := Ground.data }], guard := none }) (v := .string ⟨t.toArray⟩) rfl (by kernel_rfl) (by kernel_rfl) (by kernel_rfl) (fun _ _ _ h => h) (Or.inl ⟨by rfl, fun w => by go_simp⟩) ?_
      (try simp only [Act.put, List.setIfInBounds_toArray, List.set_cons_zero, List.set_cons_succ])
      refine wpAny_take (i := 8) (oi := { dst := some 44, op := Op.extract (Operand.tmp 42) 1, type := 24, pos := "show.go:252", after := #[{ on := 6, ground := Ground.data }], guard := none }) (v := .int .i64 ((e : Nat) : Int)) rfl (by kernel_rfl) (by kernel_rfl) (by kernel_rfl) (fun _ _ _ h => h) (Or.inl ⟨by rfl, fun w => by go_simp⟩) ?_
      (try simp only [Act.put, List.setIfInBounds_toArray, List.set_cons_zero, List.set_cons_succ])
      refine wpAny_ready (rs := [9]) (by kernel_rfl) (by simp) ?_
      refine AllReady.cons (o := { dst := some 45, op := Op.call { callee := Callee.value (Operand.func 67), args := #[Operand.tmp 43, Operand.tmp 44], argTypes := #[9, 24] }, type := 9, pos := "show.go:252", after := #[{ on := 7, ground := Ground.data }, { on := 8, ground := Ground.data }, { on := 6, ground := Ground.chain }], guard := none }) rfl (fun K hK => ?_) AllReady.nil
      rw [if_pos (by rfl)]
      go_simp
      refine (made7_bad _ _ HE.out _).mono ?_
      rintro e w3 ⟨rfl, rfl⟩
      exact ⟨rfl, HZ.out _ B2.out⟩
    refine AllReady.cons (o := { dst := some 41, op := Op.load 9 (Operand.tmp 40), type := 9, pos := "show.go:252", after := #[{ on := 4, ground := Ground.data }], guard := none }) rfl (fun K hK => ?_) AllReady.nil
    refine step_load7 rfl 9 _ rfl (.pointer (some ⟨q, off + 1, none⟩)) rfl _ HL1.out ?_
    refine hK _ _ ?_
    clear hK K
    (try simp only [Act.put, List.setIfInBounds_toArray, List.set_cons_zero, List.set_cons_succ])
    refine wpAny_ready (rs := [2]) (by kernel_rfl) (by simp) ?_
    refine AllReady.cons (o := { dst := some 38, op := Op.load 9 (Operand.tmp 37), type := 9, pos := "show.go:252", after := #[{ on := 1, ground := Ground.data }], guard := none }) rfl (fun K hK => ?_) AllReady.nil
    refine step_load7 rfl 9 _ rfl (.pointer (some ⟨q, off, none⟩)) rfl _ HL0.out ?_
    refine hK _ _ ?_
    clear hK K
    (try simp only [Act.put, List.setIfInBounds_toArray, List.set_cons_zero, List.set_cons_succ])
    refine wpAny_ready (rs := [6]) (by kernel_rfl) (by simp) ?_
    refine AllReady.cons (o := { dst := some 42, op := Op.call { callee := Callee.value (Operand.func 23), args := #[Operand.tmp 38, Operand.tmp 41], argTypes := #[9, 9] }, type := 25, pos := "show.go:252", after := #[{ on := 2, ground := Ground.data }, { on := 5, ground := Ground.data }], guard := none }) rfl (fun K hK => ?_) AllReady.nil
    rw [if_pos (by rfl)]
    go_simp
    refine (MC.out V0).mono ?_
    rintro e w2 ⟨rfl, b2⟩
    refine hK _ _ ?_
    clear hK K
    (try simp only [Act.put, List.setIfInBounds_toArray, List.set_cons_zero, List.set_cons_succ])
    have B2 := Lib.hid (below_step DRW.out b2)
    clear b2
    refine wpAny_take (i := 7) (oi := { dst := some 43, op := Op.extract (Operand.tmp 42) 0, type := 9, pos := "show.go:252", after := #[{ on := 6, ground := Ground.data }], guard := none }) (v := .string ⟨t.toArray⟩) rfl (by kernel_rfl) (by kernel_rfl) (by kernel_rfl) (fun _ _ _ h => h) (Or.inl ⟨by rfl, fun w => by go_simp⟩) ?_
    (try simp only [Act.put, List.setIfInBounds_toArray, List.set_cons_zero, List.set_cons_succ])
    refine wpAny_take (i := 8) (oi := { dst := some 44, op := Op.extract (Operand.tmp 42) 1, type := 24, pos := "show.go:252", after := #[{ on := 6, ground := Ground.data }], guard := none }) (v := .int .i64 ((e : Nat) : Int)) rfl (by kernel_rfl) (by kernel_rfl) (by kernel_rfl) (fun _ _ _ h => h) (Or.inl ⟨by rfl, fun w => by go_simp⟩) ?_
    (try simp only [Act.put, List.setIfInBounds_toArray, List.set_cons_zero, List.set_cons_succ])
    refine wpAny_ready (rs := [9]) (by kernel_rfl) (by simp) ?_
    refine AllReady.cons (o := { dst := some 45, op := Op.call { callee := Callee.value (Operand.func 67), args := #[Operand.tmp 43, Operand.tmp 44], argTypes := #[9, 24] }, type := 9, pos := "show.go:252", after := #[{ on := 7, ground := Ground.data }, { on := 8, ground := Ground.data }, { on := 6, ground := Ground.chain }], guard := none }) rfl (fun K hK => ?_) AllReady.nil
    rw [if_pos (by rfl)]
    go_simp
    refine (made7_bad _ _ HE.out _).mono ?_
    rintro e w3 ⟨rfl, rfl⟩
    exact ⟨rfl, HZ.out _ B2.out⟩
set_option maxHeartbeats 2000000 in
set_option maxRecDepth 100000 in
theorem built_sl (a0 a1 a2 : ByteArray) (h0 : a0.size ≤ 100000) (h1 : a1.size ≤ 100000) (h2 : a2.size ≤ 100000) (q off cap : Nat) (w : World) (c0 : w.cell? ⟨q, off, none⟩ = some (.string a0)) (c1 : w.cell? ⟨q, off + 1, none⟩ = some (.string a1)) (c2 : w.cell? ⟨q, off + 2, none⟩ = some (.string a2)) :
    Calls Tryz.prog 68 #[.int .u8 6, .slice (some ⟨q, off, none⟩) 3 cap] w (BuiltPost (madeP [115] [bl a0, bl a1, bl a2]) w) := by
  have MC := Lib.hid (fun V => seal6_any a0 a1 a2 h0 h1 h2 V)
  rw [st2_eq'] at MC
  generalize madeP [115] [bl a0, bl a1, bl a2] = d at *
  obtain ⟨t, e⟩ := d
  simp only at MC
  clear h0 h1 h2
  by_cases he : e = 0
  · subst he
    have HZ : Hid (∀ V, Below w.heap.size w V → BuiltPost (t, 0) w (.returned (.string ⟨t.toArray⟩)) V) := Lib.hid (fun V h => BuiltPost.yes h)
    go_enter Tryz.func68, Tryz.ntmps68
    go_wp2_with fail
    obtain ⟨V0, hV0⟩ : ∃ U, U = World.drew w := ⟨_, rfl⟩
    have hl0 : (Instr.loadAt 9 (.pointer (some ⟨q, off, none⟩))).run Tryz.prog V0 = .ok (.string a0) V0 := by rw [hV0]; have hd : (World.drew w).cell? ⟨q, off, none⟩ = some (.string a0) := c0; go_simp
    have hl1 : (Instr.loadAt 9 (.pointer (some ⟨q, off + 1, none⟩))).run Tryz.prog V0 = .ok (.string a1) V0 := by rw [hV0]; have hd : (World.drew w).cell? ⟨q, off + 1, none⟩ = some (.string a1) := c1; go_simp
    have hl2 : (Instr.loadAt 9 (.pointer (some ⟨q, off + 2, none⟩))).run Tryz.prog V0 = .ok (.string a2) V0 := by rw [hV0]; have hd : (World.drew w).cell? ⟨q, off + 2, none⟩ = some (.string a2) := c2; go_simp
    have DRW : Hid (Below w.heap.size w V0) := Lib.hid (by rw [hV0]; exact (Below.refl _ w).drew)
    have HL0 := Lib.hid hl0
    have HL1 := Lib.hid hl1
    have HL2 := Lib.hid hl2
    have HV0 := Lib.hid hV0
    clear hV0 hl0 c0 hl1 c1 hl2 c2
    refine wp_region_any (by kernel_rfl) ?_
    change wpAny _ _ _ _ _ _ _ (World.drew w)
    rw [← HV0.out]
    clear HV0
    refine wpAny_take (i := 0) (oi := { dst := some 54, op := Op.move (Operand.tmp 1), type := 29, pos := "show.go:254", after := #[], guard := none }) (v := .slice (some ⟨q, off, none⟩) 3 cap) rfl (by kernel_rfl) (by kernel_rfl) (by kernel_rfl) (fun _ _ _ h => h) (Or.inl ⟨by rfl, fun w => by go_simp⟩) ?_
    (try simp only [Act.put, List.setIfInBounds_toArray, List.set_cons_zero, List.set_cons_succ])
    refine wpAny_take (i := 1) (oi := { dst := some 55, op := Op.indexAddr 29 (Operand.tmp 54) (Operand.const (Value.int IntKind.i64 0)), type := 0, pos := "show.go:254", after := #[{ on := 0, ground := Ground.data }], guard := none }) (v := .pointer (some ⟨q, off, none⟩)) rfl (by kernel_rfl) (by kernel_rfl) (by kernel_rfl) (fun _ _ _ h => h) (Or.inl ⟨by rfl, fun w => by go_simp⟩) ?_
    (try simp only [Act.put, List.setIfInBounds_toArray, List.set_cons_zero, List.set_cons_succ])
    refine wpAny_take (i := 3) (oi := { dst := some 57, op := Op.move (Operand.tmp 1), type := 29, pos := "show.go:254", after := #[], guard := none }) (v := .slice (some ⟨q, off, none⟩) 3 cap) rfl (by kernel_rfl) (by kernel_rfl) (by kernel_rfl) (fun _ _ _ h => h) (Or.inl ⟨by rfl, fun w => by go_simp⟩) ?_
    (try simp only [Act.put, List.setIfInBounds_toArray, List.set_cons_zero, List.set_cons_succ])
    refine wpAny_take (i := 4) (oi := { dst := some 58, op := Op.indexAddr 29 (Operand.tmp 57) (Operand.const (Value.int IntKind.i64 1)), type := 0, pos := "show.go:254", after := #[{ on := 3, ground := Ground.data }], guard := none }) (v := .pointer (some ⟨q, off + 1, none⟩)) rfl (by kernel_rfl) (by kernel_rfl) (by kernel_rfl) (fun _ _ _ h => h) (Or.inl ⟨by rfl, fun w => by go_simp⟩) ?_
    (try simp only [Act.put, List.setIfInBounds_toArray, List.set_cons_zero, List.set_cons_succ])
    refine wpAny_take (i := 6) (oi := { dst := some 60, op := Op.move (Operand.tmp 1), type := 29, pos := "show.go:254", after := #[], guard := none }) (v := .slice (some ⟨q, off, none⟩) 3 cap) rfl (by kernel_rfl) (by kernel_rfl) (by kernel_rfl) (fun _ _ _ h => h) (Or.inl ⟨by rfl, fun w => by go_simp⟩) ?_
    (try simp only [Act.put, List.setIfInBounds_toArray, List.set_cons_zero, List.set_cons_succ])
    refine wpAny_take (i := 7) (oi := { dst := some 61, op := Op.indexAddr 29 (Operand.tmp 60) (Operand.const (Value.int IntKind.i64 2)), type := 0, pos := "show.go:254", after := #[{ on := 6, ground := Ground.data }], guard := none }) (v := .pointer (some ⟨q, off + 2, none⟩)) rfl (by kernel_rfl) (by kernel_rfl) (by kernel_rfl) (fun _ _ _ h => h) (Or.inl ⟨by rfl, fun w => by go_simp⟩) ?_
    (try simp only [Act.put, List.setIfInBounds_toArray, List.set_cons_zero, List.set_cons_succ])
    refine wpAny_ready (rs := [2, 5, 8]) (by kernel_rfl) (by simp) ?_
    refine AllReady.cons (o := { dst := some 56, op := Op.load 9 (Operand.tmp 55), type := 9, pos := "show.go:254", after := #[{ on := 1, ground := Ground.data }], guard := none }) rfl (fun K hK => ?_) ?_
    · refine step_load7 rfl 9 _ rfl (.pointer (some ⟨q, off, none⟩)) rfl _ HL0.out ?_
      refine hK _ _ ?_
      clear hK K
      (try simp only [Act.put, List.setIfInBounds_toArray, List.set_cons_zero, List.set_cons_succ])
      refine wpAny_ready (rs := [5, 8]) (by kernel_rfl) (by simp) ?_
      refine AllReady.cons (o := { dst := some 59, op := Op.load 9 (Operand.tmp 58), type := 9, pos := "show.go:254", after := #[{ on := 4, ground := Ground.data }], guard := none }) rfl (fun K hK => ?_) ?_
      · refine step_load7 rfl 9 _ rfl (.pointer (some ⟨q, off + 1, none⟩)) rfl _ HL1.out ?_
        refine hK _ _ ?_
        clear hK K
        (try simp only [Act.put, List.setIfInBounds_toArray, List.set_cons_zero, List.set_cons_succ])
        refine wpAny_ready (rs := [8]) (by kernel_rfl) (by simp) ?_
        refine AllReady.cons (o := { dst := some 62, op := Op.load 9 (Operand.tmp 61), type := 9, pos := "show.go:254", after := #[{ on := 7, ground := Ground.data }], guard := none }) rfl (fun K hK => ?_) AllReady.nil
        refine step_load7 rfl 9 _ rfl (.pointer (some ⟨q, off + 2, none⟩)) rfl _ HL2.out ?_
        refine hK _ _ ?_
        clear hK K
        (try simp only [Act.put, List.setIfInBounds_toArray, List.set_cons_zero, List.set_cons_succ])
        refine wpAny_ready (rs := [9]) (by kernel_rfl) (by simp) ?_
        refine AllReady.cons (o := { dst := some 63, op := Op.call { callee := Callee.value (Operand.func 95), args := #[Operand.tmp 56, Operand.tmp 59, Operand.tmp 62], argTypes := #[9, 9, 9] }, type := 25, pos := "show.go:254", after := #[{ on := 2, ground := Ground.data }, { on := 5, ground := Ground.data }, { on := 8, ground := Ground.data }], guard := none }) rfl (fun K hK => ?_) AllReady.nil
        rw [if_pos (by rfl)]
        go_simp
        refine (MC.out V0).mono ?_
        rintro e w2 ⟨rfl, b2⟩
        refine hK _ _ ?_
        clear hK K
        (try simp only [Act.put, List.setIfInBounds_toArray, List.set_cons_zero, List.set_cons_succ])
        have B2 := Lib.hid (below_step DRW.out b2)
        clear b2
        refine wpAny_take (i := 10) (oi := { dst := some 64, op := Op.extract (Operand.tmp 63) 0, type := 9, pos := "show.go:254", after := #[{ on := 9, ground := Ground.data }], guard := none }) (v := .string ⟨t.toArray⟩) rfl (by kernel_rfl) (by kernel_rfl) (by kernel_rfl) (fun _ _ _ h => h) (Or.inl ⟨by rfl, fun w => by go_simp⟩) ?_
        (try simp only [Act.put, List.setIfInBounds_toArray, List.set_cons_zero, List.set_cons_succ])
        refine wpAny_take (i := 11) (oi := { dst := some 65, op := Op.extract (Operand.tmp 63) 1, type := 24, pos := "show.go:254", after := #[{ on := 9, ground := Ground.data }], guard := none }) (v := .int .i64 (0)) rfl (by kernel_rfl) (by kernel_rfl) (by kernel_rfl) (fun _ _ _ h => h) (Or.inl ⟨by rfl, fun w => by go_simp⟩) ?_
        (try simp only [Act.put, List.setIfInBounds_toArray, List.set_cons_zero, List.set_cons_succ])
        refine wpAny_ready (rs := [12]) (by kernel_rfl) (by simp) ?_
        refine AllReady.cons (o := { dst := some 66, op := Op.call { callee := Callee.value (Operand.func 67), args := #[Operand.tmp 64, Operand.tmp 65], argTypes := #[9, 24] }, type := 9, pos := "show.go:254", after := #[{ on := 10, ground := Ground.data }, { on := 11, ground := Ground.data }, { on := 9, ground := Ground.chain }], guard := none }) rfl (fun K hK => ?_) AllReady.nil
        rw [if_pos (by rfl)]
        go_simp
        refine (made7_ok _ _).mono ?_
        rintro e w3 ⟨rfl, rfl⟩
        refine hK _ _ ?_
        clear hK K
        (try simp only [Act.put, List.setIfInBounds_toArray, List.set_cons_zero, List.set_cons_succ])
        refine wpAny_take (i := 13) (oi := { dst := some 4, op := Op.assign (Operand.tmp 66), type := 9, pos := "show.go:254", after := #[{ on := 12, ground := Ground.data }, { on := 12, ground := Ground.chain }, { on := 0, ground := Ground.phase }, { on := 1, ground := Ground.phase }, { on := 2, ground := Ground.phase }, { on := 3, ground := Ground.phase }, { on := 4, ground := Ground.phase }, { on := 5, ground := Ground.phase }, { on := 6, ground := Ground.phase }, { on := 7, ground := Ground.phase }, { on := 8, ground := Ground.phase }, { on := 9, ground := Ground.phase }, { on := 10, ground := Ground.phase }, { on := 11, ground := Ground.phase }, { on := 12, ground := Ground.phase }], guard := none }) (v := .string ⟨t.toArray⟩) rfl (by kernel_rfl) (by kernel_rfl) (by kernel_rfl) (fun _ _ _ h => h) (Or.inl ⟨by rfl, fun w => by go_simp⟩) ?_
        (try simp only [Act.put, List.setIfInBounds_toArray, List.set_cons_zero, List.set_cons_succ])
        refine wpAny_done (by kernel_rfl) ?_ _
        go_wp2_with fail
        go_ret
        exact HZ.out _ B2.out
      refine AllReady.cons (o := { dst := some 62, op := Op.load 9 (Operand.tmp 61), type := 9, pos := "show.go:254", after := #[{ on := 7, ground := Ground.data }], guard := none }) rfl (fun K hK => ?_) AllReady.nil
      refine step_load7 rfl 9 _ rfl (.pointer (some ⟨q, off + 2, none⟩)) rfl _ HL2.out ?_
      refine hK _ _ ?_
      clear hK K
      (try simp only [Act.put, List.setIfInBounds_toArray, List.set_cons_zero, List.set_cons_succ])
      refine wpAny_ready (rs := [5]) (by kernel_rfl) (by simp) ?_
      refine AllReady.cons (o := { dst := some 59, op := Op.load 9 (Operand.tmp 58), type := 9, pos := "show.go:254", after := #[{ on := 4, ground := Ground.data }], guard := none }) rfl (fun K hK => ?_) AllReady.nil
      refine step_load7 rfl 9 _ rfl (.pointer (some ⟨q, off + 1, none⟩)) rfl _ HL1.out ?_
      refine hK _ _ ?_
      clear hK K
      (try simp only [Act.put, List.setIfInBounds_toArray, List.set_cons_zero, List.set_cons_succ])
      refine wpAny_ready (rs := [9]) (by kernel_rfl) (by simp) ?_
      refine AllReady.cons (o := { dst := some 63, op := Op.call { callee := Callee.value (Operand.func 95), args := #[Operand.tmp 56, Operand.tmp 59, Operand.tmp 62], argTypes := #[9, 9, 9] }, type := 25, pos := "show.go:254", after := #[{ on := 2, ground := Ground.data }, { on := 5, ground := Ground.data }, { on := 8, ground := Ground.data }], guard := none }) rfl (fun K hK => ?_) AllReady.nil
      rw [if_pos (by rfl)]
      go_simp
      refine (MC.out V0).mono ?_
      rintro e w2 ⟨rfl, b2⟩
      refine hK _ _ ?_
      clear hK K
      (try simp only [Act.put, List.setIfInBounds_toArray, List.set_cons_zero, List.set_cons_succ])
      have B2 := Lib.hid (below_step DRW.out b2)
      clear b2
      refine wpAny_take (i := 10) (oi := { dst := some 64, op := Op.extract (Operand.tmp 63) 0, type := 9, pos := "show.go:254", after := #[{ on := 9, ground := Ground.data }], guard := none }) (v := .string ⟨t.toArray⟩) rfl (by kernel_rfl) (by kernel_rfl) (by kernel_rfl) (fun _ _ _ h => h) (Or.inl ⟨by rfl, fun w => by go_simp⟩) ?_
      (try simp only [Act.put, List.setIfInBounds_toArray, List.set_cons_zero, List.set_cons_succ])
      refine wpAny_take (i := 11) (oi := { dst := some 65, op := Op.extract (Operand.tmp 63) 1, type := 24, pos := "show.go:254", after := #[{ on := 9, ground := Ground.data }], guard := none }) (v := .int .i64 (0)) rfl (by kernel_rfl) (by kernel_rfl) (by kernel_rfl) (fun _ _ _ h => h) (Or.inl ⟨by rfl, fun w => by go_simp⟩) ?_
      (try simp only [Act.put, List.setIfInBounds_toArray, List.set_cons_zero, List.set_cons_succ])
      refine wpAny_ready (rs := [12]) (by kernel_rfl) (by simp) ?_
      refine AllReady.cons (o := { dst := some 66, op := Op.call { callee := Callee.value (Operand.func 67), args := #[Operand.tmp 64, Operand.tmp 65], argTypes := #[9, 24] }, type := 9, pos := "show.go:254", after := #[{ on := 10, ground := Ground.data }, { on := 11, ground := Ground.data }, { on := 9, ground := Ground.chain }], guard := none }) rfl (fun K hK => ?_) AllReady.nil
      rw [if_pos (by rfl)]
      go_simp
      refine (made7_ok _ _).mono ?_
      rintro e w3 ⟨rfl, rfl⟩
      refine hK _ _ ?_
      clear hK K
      (try simp only [Act.put, List.setIfInBounds_toArray, List.set_cons_zero, List.set_cons_succ])
      refine wpAny_take (i := 13) (oi := { dst := some 4, op := Op.assign (Operand.tmp 66), type := 9, pos := "show.go:254", after := #[{ on := 12, ground := Ground.data }, { on := 12, ground := Ground.chain }, { on := 0, ground := Ground.phase }, { on := 1, ground := Ground.phase }, { on := 2, ground := Ground.phase }, { on := 3, ground := Ground.phase }, { on := 4, ground := Ground.phase }, { on := 5, ground := Ground.phase }, { on := 6, ground := Ground.phase }, { on := 7, ground := Ground.phase }, { on := 8, ground := Ground.phase }, { on := 9, ground := Ground.phase }, { on := 10, ground := Ground.phase }, { on := 11, ground := Ground.phase }, { on := 12, ground := Ground.phase }], guard := none }) (v := .string ⟨t.toArray⟩) rfl (by kernel_rfl) (by kernel_rfl) (by kernel_rfl) (fun _ _ _ h => h) (Or.inl ⟨by rfl, fun w => by go_simp⟩) ?_
      (try simp only [Act.put, List.setIfInBounds_toArray, List.set_cons_zero, List.set_cons_succ])
      refine wpAny_done (by kernel_rfl) ?_ _
      go_wp2_with fail
      go_ret
      exact HZ.out _ B2.out
    refine AllReady.cons (o := { dst := some 59, op := Op.load 9 (Operand.tmp 58), type := 9, pos := "show.go:254", after := #[{ on := 4, ground := Ground.data }], guard := none }) rfl (fun K hK => ?_) ?_
    · refine step_load7 rfl 9 _ rfl (.pointer (some ⟨q, off + 1, none⟩)) rfl _ HL1.out ?_
      refine hK _ _ ?_
      clear hK K
      (try simp only [Act.put, List.setIfInBounds_toArray, List.set_cons_zero, List.set_cons_succ])
      refine wpAny_ready (rs := [2, 8]) (by kernel_rfl) (by simp) ?_
      refine AllReady.cons (o := { dst := some 56, op := Op.load 9 (Operand.tmp 55), type := 9, pos := "show.go:254", after := #[{ on := 1, ground := Ground.data }], guard := none }) rfl (fun K hK => ?_) ?_
      · refine step_load7 rfl 9 _ rfl (.pointer (some ⟨q, off, none⟩)) rfl _ HL0.out ?_
        refine hK _ _ ?_
        clear hK K
        (try simp only [Act.put, List.setIfInBounds_toArray, List.set_cons_zero, List.set_cons_succ])
        refine wpAny_ready (rs := [8]) (by kernel_rfl) (by simp) ?_
        refine AllReady.cons (o := { dst := some 62, op := Op.load 9 (Operand.tmp 61), type := 9, pos := "show.go:254", after := #[{ on := 7, ground := Ground.data }], guard := none }) rfl (fun K hK => ?_) AllReady.nil
        refine step_load7 rfl 9 _ rfl (.pointer (some ⟨q, off + 2, none⟩)) rfl _ HL2.out ?_
        refine hK _ _ ?_
        clear hK K
        (try simp only [Act.put, List.setIfInBounds_toArray, List.set_cons_zero, List.set_cons_succ])
        refine wpAny_ready (rs := [9]) (by kernel_rfl) (by simp) ?_
        refine AllReady.cons (o := { dst := some 63, op := Op.call { callee := Callee.value (Operand.func 95), args := #[Operand.tmp 56, Operand.tmp 59, Operand.tmp 62], argTypes := #[9, 9, 9] }, type := 25, pos := "show.go:254", after := #[{ on := 2, ground := Ground.data }, { on := 5, ground := Ground.data }, { on := 8, ground := Ground.data }], guard := none }) rfl (fun K hK => ?_) AllReady.nil
        rw [if_pos (by rfl)]
        go_simp
        refine (MC.out V0).mono ?_
        rintro e w2 ⟨rfl, b2⟩
        refine hK _ _ ?_
        clear hK K
        (try simp only [Act.put, List.setIfInBounds_toArray, List.set_cons_zero, List.set_cons_succ])
        have B2 := Lib.hid (below_step DRW.out b2)
        clear b2
        refine wpAny_take (i := 10) (oi := { dst := some 64, op := Op.extract (Operand.tmp 63) 0, type := 9, pos := "show.go:254", after := #[{ on := 9, ground := Ground.data }], guard := none }) (v := .string ⟨t.toArray⟩) rfl (by kernel_rfl) (by kernel_rfl) (by kernel_rfl) (fun _ _ _ h => h) (Or.inl ⟨by rfl, fun w => by go_simp⟩) ?_
        (try simp only [Act.put, List.setIfInBounds_toArray, List.set_cons_zero, List.set_cons_succ])
        refine wpAny_take (i := 11) (oi := { dst := some 65, op := Op.extract (Operand.tmp 63) 1, type := 24, pos := "show.go:254", after := #[{ on := 9, ground := Ground.data }], guard := none }) (v := .int .i64 (0)) rfl (by kernel_rfl) (by kernel_rfl) (by kernel_rfl) (fun _ _ _ h => h) (Or.inl ⟨by rfl, fun w => by go_simp⟩) ?_
        (try simp only [Act.put, List.setIfInBounds_toArray, List.set_cons_zero, List.set_cons_succ])
        refine wpAny_ready (rs := [12]) (by kernel_rfl) (by simp) ?_
        refine AllReady.cons (o := { dst := some 66, op := Op.call { callee := Callee.value (Operand.func 67), args := #[Operand.tmp 64, Operand.tmp 65], argTypes := #[9, 24] }, type := 9, pos := "show.go:254", after := #[{ on := 10, ground := Ground.data }, { on := 11, ground := Ground.data }, { on := 9, ground := Ground.chain }], guard := none }) rfl (fun K hK => ?_) AllReady.nil
        rw [if_pos (by rfl)]
        go_simp
        refine (made7_ok _ _).mono ?_
        rintro e w3 ⟨rfl, rfl⟩
        refine hK _ _ ?_
        clear hK K
        (try simp only [Act.put, List.setIfInBounds_toArray, List.set_cons_zero, List.set_cons_succ])
        refine wpAny_take (i := 13) (oi := { dst := some 4, op := Op.assign (Operand.tmp 66), type := 9, pos := "show.go:254", after := #[{ on := 12, ground := Ground.data }, { on := 12, ground := Ground.chain }, { on := 0, ground := Ground.phase }, { on := 1, ground := Ground.phase }, { on := 2, ground := Ground.phase }, { on := 3, ground := Ground.phase }, { on := 4, ground := Ground.phase }, { on := 5, ground := Ground.phase }, { on := 6, ground := Ground.phase }, { on := 7, ground := Ground.phase }, { on := 8, ground := Ground.phase }, { on := 9, ground := Ground.phase }, { on := 10, ground := Ground.phase }, { on := 11, ground := Ground.phase }, { on := 12, ground := Ground.phase }], guard := none }) (v := .string ⟨t.toArray⟩) rfl (by kernel_rfl) (by kernel_rfl) (by kernel_rfl) (fun _ _ _ h => h) (Or.inl ⟨by rfl, fun w => by go_simp⟩) ?_
        (try simp only [Act.put, List.setIfInBounds_toArray, List.set_cons_zero, List.set_cons_succ])
        refine wpAny_done (by kernel_rfl) ?_ _
        go_wp2_with fail
        go_ret
        exact HZ.out _ B2.out
      refine AllReady.cons (o := { dst := some 62, op := Op.load 9 (Operand.tmp 61), type := 9, pos := "show.go:254", after := #[{ on := 7, ground := Ground.data }], guard := none }) rfl (fun K hK => ?_) AllReady.nil
      refine step_load7 rfl 9 _ rfl (.pointer (some ⟨q, off + 2, none⟩)) rfl _ HL2.out ?_
      refine hK _ _ ?_
      clear hK K
      (try simp only [Act.put, List.setIfInBounds_toArray, List.set_cons_zero, List.set_cons_succ])
      refine wpAny_ready (rs := [2]) (by kernel_rfl) (by simp) ?_
      refine AllReady.cons (o := { dst := some 56, op := Op.load 9 (Operand.tmp 55), type := 9, pos := "show.go:254", after := #[{ on := 1, ground := Ground.data }], guard := none }) rfl (fun K hK => ?_) AllReady.nil
      refine step_load7 rfl 9 _ rfl (.pointer (some ⟨q, off, none⟩)) rfl _ HL0.out ?_
      refine hK _ _ ?_
      clear hK K
      (try simp only [Act.put, List.setIfInBounds_toArray, List.set_cons_zero, List.set_cons_succ])
      refine wpAny_ready (rs := [9]) (by kernel_rfl) (by simp) ?_
      refine AllReady.cons (o := { dst := some 63, op := Op.call { callee := Callee.value (Operand.func 95), args := #[Operand.tmp 56, Operand.tmp 59, Operand.tmp 62], argTypes := #[9, 9, 9] }, type := 25, pos := "show.go:254", after := #[{ on := 2, ground := Ground.data }, { on := 5, ground := Ground.data }, { on := 8, ground := Ground.data }], guard := none }) rfl (fun K hK => ?_) AllReady.nil
      rw [if_pos (by rfl)]
      go_simp
      refine (MC.out V0).mono ?_
      rintro e w2 ⟨rfl, b2⟩
      refine hK _ _ ?_
      clear hK K
      (try simp only [Act.put, List.setIfInBounds_toArray, List.set_cons_zero, List.set_cons_succ])
      have B2 := Lib.hid (below_step DRW.out b2)
      clear b2
      refine wpAny_take (i := 10) (oi := { dst := some 64, op := Op.extract (Operand.tmp 63) 0, type := 9, pos := "show.go:254", after := #[{ on := 9, ground := Ground.data }], guard := none }) (v := .string ⟨t.toArray⟩) rfl (by kernel_rfl) (by kernel_rfl) (by kernel_rfl) (fun _ _ _ h => h) (Or.inl ⟨by rfl, fun w => by go_simp⟩) ?_
      (try simp only [Act.put, List.setIfInBounds_toArray, List.set_cons_zero, List.set_cons_succ])
      refine wpAny_take (i := 11) (oi := { dst := some 65, op := Op.extract (Operand.tmp 63) 1, type := 24, pos := "show.go:254", after := #[{ on := 9, ground := Ground.data }], guard := none }) (v := .int .i64 (0)) rfl (by kernel_rfl) (by kernel_rfl) (by kernel_rfl) (fun _ _ _ h => h) (Or.inl ⟨by rfl, fun w => by go_simp⟩) ?_
      (try simp only [Act.put, List.setIfInBounds_toArray, List.set_cons_zero, List.set_cons_succ])
      refine wpAny_ready (rs := [12]) (by kernel_rfl) (by simp) ?_
      refine AllReady.cons (o := { dst := some 66, op := Op.call { callee := Callee.value (Operand.func 67), args := #[Operand.tmp 64, Operand.tmp 65], argTypes := #[9, 24] }, type := 9, pos := "show.go:254", after := #[{ on := 10, ground := Ground.data }, { on := 11, ground := Ground.data }, { on := 9, ground := Ground.chain }], guard := none }) rfl (fun K hK => ?_) AllReady.nil
      rw [if_pos (by rfl)]
      go_simp
      refine (made7_ok _ _).mono ?_
      rintro e w3 ⟨rfl, rfl⟩
      refine hK _ _ ?_
      clear hK K
      (try simp only [Act.put, List.setIfInBounds_toArray, List.set_cons_zero, List.set_cons_succ])
      refine wpAny_take (i := 13) (oi := { dst := some 4, op := Op.assign (Operand.tmp 66), type := 9, pos := "show.go:254", after := #[{ on := 12, ground := Ground.data }, { on := 12, ground := Ground.chain }, { on := 0, ground := Ground.phase }, { on := 1, ground := Ground.phase }, { on := 2, ground := Ground.phase }, { on := 3, ground := Ground.phase }, { on := 4, ground := Ground.phase }, { on := 5, ground := Ground.phase }, { on := 6, ground := Ground.phase }, { on := 7, ground := Ground.phase }, { on := 8, ground := Ground.phase }, { on := 9, ground := Ground.phase }, { on := 10, ground := Ground.phase }, { on := 11, ground := Ground.phase }, { on := 12, ground := Ground.phase }], guard := none }) (v := .string ⟨t.toArray⟩) rfl (by kernel_rfl) (by kernel_rfl) (by kernel_rfl) (fun _ _ _ h => h) (Or.inl ⟨by rfl, fun w => by go_simp⟩) ?_
      (try simp only [Act.put, List.setIfInBounds_toArray, List.set_cons_zero, List.set_cons_succ])
      refine wpAny_done (by kernel_rfl) ?_ _
      go_wp2_with fail
      go_ret
      exact HZ.out _ B2.out
    refine AllReady.cons (o := { dst := some 62, op := Op.load 9 (Operand.tmp 61), type := 9, pos := "show.go:254", after := #[{ on := 7, ground := Ground.data }], guard := none }) rfl (fun K hK => ?_) AllReady.nil
    refine step_load7 rfl 9 _ rfl (.pointer (some ⟨q, off + 2, none⟩)) rfl _ HL2.out ?_
    refine hK _ _ ?_
    clear hK K
    (try simp only [Act.put, List.setIfInBounds_toArray, List.set_cons_zero, List.set_cons_succ])
    refine wpAny_ready (rs := [2, 5]) (by kernel_rfl) (by simp) ?_
    refine AllReady.cons (o := { dst := some 56, op := Op.load 9 (Operand.tmp 55), type := 9, pos := "show.go:254", after := #[{ on := 1, ground := Ground.data }], guard := none }) rfl (fun K hK => ?_) ?_
    · refine step_load7 rfl 9 _ rfl (.pointer (some ⟨q, off, none⟩)) rfl _ HL0.out ?_
      refine hK _ _ ?_
      clear hK K
      (try simp only [Act.put, List.setIfInBounds_toArray, List.set_cons_zero, List.set_cons_succ])
      refine wpAny_ready (rs := [5]) (by kernel_rfl) (by simp) ?_
      refine AllReady.cons (o := { dst := some 59, op := Op.load 9 (Operand.tmp 58), type := 9, pos := "show.go:254", after := #[{ on := 4, ground := Ground.data }], guard := none }) rfl (fun K hK => ?_) AllReady.nil
      refine step_load7 rfl 9 _ rfl (.pointer (some ⟨q, off + 1, none⟩)) rfl _ HL1.out ?_
      refine hK _ _ ?_
      clear hK K
      (try simp only [Act.put, List.setIfInBounds_toArray, List.set_cons_zero, List.set_cons_succ])
      refine wpAny_ready (rs := [9]) (by kernel_rfl) (by simp) ?_
      refine AllReady.cons (o := { dst := some 63, op := Op.call { callee := Callee.value (Operand.func 95), args := #[Operand.tmp 56, Operand.tmp 59, Operand.tmp 62], argTypes := #[9, 9, 9] }, type := 25, pos := "show.go:254", after := #[{ on := 2, ground := Ground.data }, { on := 5, ground := Ground.data }, { on := 8, ground := Ground.data }], guard := none }) rfl (fun K hK => ?_) AllReady.nil
      rw [if_pos (by rfl)]
      go_simp
      refine (MC.out V0).mono ?_
      rintro e w2 ⟨rfl, b2⟩
      refine hK _ _ ?_
      clear hK K
      (try simp only [Act.put, List.setIfInBounds_toArray, List.set_cons_zero, List.set_cons_succ])
      have B2 := Lib.hid (below_step DRW.out b2)
      clear b2
      refine wpAny_take (i := 10) (oi := { dst := some 64, op := Op.extract (Operand.tmp 63) 0, type := 9, pos := "show.go:254", after := #[{ on := 9, ground := Ground.data }], guard := none }) (v := .string ⟨t.toArray⟩) rfl (by kernel_rfl) (by kernel_rfl) (by kernel_rfl) (fun _ _ _ h => h) (Or.inl ⟨by rfl, fun w => by go_simp⟩) ?_
      (try simp only [Act.put, List.setIfInBounds_toArray, List.set_cons_zero, List.set_cons_succ])
      refine wpAny_take (i := 11) (oi := { dst := some 65, op := Op.extract (Operand.tmp 63) 1, type := 24, pos := "show.go:254", after := #[{ on := 9, ground := Ground.data }], guard := none }) (v := .int .i64 (0)) rfl (by kernel_rfl) (by kernel_rfl) (by kernel_rfl) (fun _ _ _ h => h) (Or.inl ⟨by rfl, fun w => by go_simp⟩) ?_
      (try simp only [Act.put, List.setIfInBounds_toArray, List.set_cons_zero, List.set_cons_succ])
      refine wpAny_ready (rs := [12]) (by kernel_rfl) (by simp) ?_
      refine AllReady.cons (o := { dst := some 66, op := Op.call { callee := Callee.value (Operand.func 67), args := #[Operand.tmp 64, Operand.tmp 65], argTypes := #[9, 24] }, type := 9, pos := "show.go:254", after := #[{ on := 10, ground := Ground.data }, { on := 11, ground := Ground.data }, { on := 9, ground := Ground.chain }], guard := none }) rfl (fun K hK => ?_) AllReady.nil
      rw [if_pos (by rfl)]
      go_simp
      refine (made7_ok _ _).mono ?_
      rintro e w3 ⟨rfl, rfl⟩
      refine hK _ _ ?_
      clear hK K
      (try simp only [Act.put, List.setIfInBounds_toArray, List.set_cons_zero, List.set_cons_succ])
      refine wpAny_take (i := 13) (oi := { dst := some 4, op := Op.assign (Operand.tmp 66), type := 9, pos := "show.go:254", after := #[{ on := 12, ground := Ground.data }, { on := 12, ground := Ground.chain }, { on := 0, ground := Ground.phase }, { on := 1, ground := Ground.phase }, { on := 2, ground := Ground.phase }, { on := 3, ground := Ground.phase }, { on := 4, ground := Ground.phase }, { on := 5, ground := Ground.phase }, { on := 6, ground := Ground.phase }, { on := 7, ground := Ground.phase }, { on := 8, ground := Ground.phase }, { on := 9, ground := Ground.phase }, { on := 10, ground := Ground.phase }, { on := 11, ground := Ground.phase }, { on := 12, ground := Ground.phase }], guard := none }) (v := .string ⟨t.toArray⟩) rfl (by kernel_rfl) (by kernel_rfl) (by kernel_rfl) (fun _ _ _ h => h) (Or.inl ⟨by rfl, fun w => by go_simp⟩) ?_
      (try simp only [Act.put, List.setIfInBounds_toArray, List.set_cons_zero, List.set_cons_succ])
      refine wpAny_done (by kernel_rfl) ?_ _
      go_wp2_with fail
      go_ret
      exact HZ.out _ B2.out
    refine AllReady.cons (o := { dst := some 59, op := Op.load 9 (Operand.tmp 58), type := 9, pos := "show.go:254", after := #[{ on := 4, ground := Ground.data }], guard := none }) rfl (fun K hK => ?_) AllReady.nil
    refine step_load7 rfl 9 _ rfl (.pointer (some ⟨q, off + 1, none⟩)) rfl _ HL1.out ?_
    refine hK _ _ ?_
    clear hK K
    (try simp only [Act.put, List.setIfInBounds_toArray, List.set_cons_zero, List.set_cons_succ])
    refine wpAny_ready (rs := [2]) (by kernel_rfl) (by simp) ?_
    refine AllReady.cons (o := { dst := some 56, op := Op.load 9 (Operand.tmp 55), type := 9, pos := "show.go:254", after := #[{ on := 1, ground := Ground.data }], guard := none }) rfl (fun K hK => ?_) AllReady.nil
    refine step_load7 rfl 9 _ rfl (.pointer (some ⟨q, off, none⟩)) rfl _ HL0.out ?_
    refine hK _ _ ?_
    clear hK K
    (try simp only [Act.put, List.setIfInBounds_toArray, List.set_cons_zero, List.set_cons_succ])
    refine wpAny_ready (rs := [9]) (by kernel_rfl) (by simp) ?_
    refine AllReady.cons (o := { dst := some 63, op := Op.call { callee := Callee.value (Operand.func 95), args := #[Operand.tmp 56, Operand.tmp 59, Operand.tmp 62], argTypes := #[9, 9, 9] }, type := 25, pos := "show.go:254", after := #[{ on := 2, ground := Ground.data }, { on := 5, ground := Ground.data }, { on := 8, ground := Ground.data }], guard := none }) rfl (fun K hK => ?_) AllReady.nil
    rw [if_pos (by rfl)]
    go_simp
    refine (MC.out V0).mono ?_
    rintro e w2 ⟨rfl, b2⟩
    refine hK _ _ ?_
    clear hK K
    (try simp only [Act.put, List.setIfInBounds_toArray, List.set_cons_zero, List.set_cons_succ])
    have B2 := Lib.hid (below_step DRW.out b2)
    clear b2
    refine wpAny_take (i := 10) (oi := { dst := some 64, op := Op.extract (Operand.tmp 63) 0, type := 9, pos := "show.go:254", after := #[{ on := 9, ground := Ground.data }], guard := none }) (v := .string ⟨t.toArray⟩) rfl (by kernel_rfl) (by kernel_rfl) (by kernel_rfl) (fun _ _ _ h => h) (Or.inl ⟨by rfl, fun w => by go_simp⟩) ?_
    (try simp only [Act.put, List.setIfInBounds_toArray, List.set_cons_zero, List.set_cons_succ])
    refine wpAny_take (i := 11) (oi := { dst := some 65, op := Op.extract (Operand.tmp 63) 1, type := 24, pos := "show.go:254", after := #[{ on := 9, ground := Ground.data }], guard := none }) (v := .int .i64 (0)) rfl (by kernel_rfl) (by kernel_rfl) (by kernel_rfl) (fun _ _ _ h => h) (Or.inl ⟨by rfl, fun w => by go_simp⟩) ?_
    (try simp only [Act.put, List.setIfInBounds_toArray, List.set_cons_zero, List.set_cons_succ])
    refine wpAny_ready (rs := [12]) (by kernel_rfl) (by simp) ?_
    refine AllReady.cons (o := { dst := some 66, op := Op.call { callee := Callee.value (Operand.func 67), args := #[Operand.tmp 64, Operand.tmp 65], argTypes := #[9, 24] }, type := 9, pos := "show.go:254", after := #[{ on := 10, ground := Ground.data }, { on := 11, ground := Ground.data }, { on := 9, ground := Ground.chain }], guard := none }) rfl (fun K hK => ?_) AllReady.nil
    rw [if_pos (by rfl)]
    go_simp
    refine (made7_ok _ _).mono ?_
    rintro e w3 ⟨rfl, rfl⟩
    refine hK _ _ ?_
    clear hK K
    (try simp only [Act.put, List.setIfInBounds_toArray, List.set_cons_zero, List.set_cons_succ])
    refine wpAny_take (i := 13) (oi := { dst := some 4, op := Op.assign (Operand.tmp 66), type := 9, pos := "show.go:254", after := #[{ on := 12, ground := Ground.data }, { on := 12, ground := Ground.chain }, { on := 0, ground := Ground.phase }, { on := 1, ground := Ground.phase }, { on := 2, ground := Ground.phase }, { on := 3, ground := Ground.phase }, { on := 4, ground := Ground.phase }, { on := 5, ground := Ground.phase }, { on := 6, ground := Ground.phase }, { on := 7, ground := Ground.phase }, { on := 8, ground := Ground.phase }, { on := 9, ground := Ground.phase }, { on := 10, ground := Ground.phase }, { on := 11, ground := Ground.phase }, { on := 12, ground := Ground.phase }], guard := none }) (v := .string ⟨t.toArray⟩) rfl (by kernel_rfl) (by kernel_rfl) (by kernel_rfl) (fun _ _ _ h => h) (Or.inl ⟨by rfl, fun w => by go_simp⟩) ?_
    (try simp only [Act.put, List.setIfInBounds_toArray, List.set_cons_zero, List.set_cons_succ])
    refine wpAny_done (by kernel_rfl) ?_ _
    go_wp2_with fail
    go_ret
    exact HZ.out _ B2.out
  · have HE := Lib.hid he
    have HZ : Hid (∀ V, Below w.heap.size w V → BuiltPost (t, e) w boom7 V) := Lib.hid (fun V h => BuiltPost.no HE.out h)
    clear he
    go_enter Tryz.func68, Tryz.ntmps68
    go_wp2_with fail
    obtain ⟨V0, hV0⟩ : ∃ U, U = World.drew w := ⟨_, rfl⟩
    have hl0 : (Instr.loadAt 9 (.pointer (some ⟨q, off, none⟩))).run Tryz.prog V0 = .ok (.string a0) V0 := by rw [hV0]; have hd : (World.drew w).cell? ⟨q, off, none⟩ = some (.string a0) := c0; go_simp
    have hl1 : (Instr.loadAt 9 (.pointer (some ⟨q, off + 1, none⟩))).run Tryz.prog V0 = .ok (.string a1) V0 := by rw [hV0]; have hd : (World.drew w).cell? ⟨q, off + 1, none⟩ = some (.string a1) := c1; go_simp
    have hl2 : (Instr.loadAt 9 (.pointer (some ⟨q, off + 2, none⟩))).run Tryz.prog V0 = .ok (.string a2) V0 := by rw [hV0]; have hd : (World.drew w).cell? ⟨q, off + 2, none⟩ = some (.string a2) := c2; go_simp
    have DRW : Hid (Below w.heap.size w V0) := Lib.hid (by rw [hV0]; exact (Below.refl _ w).drew)
    have HL0 := Lib.hid hl0
    have HL1 := Lib.hid hl1
    have HL2 := Lib.hid hl2
    have HV0 := Lib.hid hV0
    clear hV0 hl0 c0 hl1 c1 hl2 c2
    refine wp_region_any (by kernel_rfl) ?_
    change wpAny _ _ _ _ _ _ _ (World.drew w)
    rw [← HV0.out]
    clear HV0
    refine wpAny_take (i := 0) (oi := { dst := some 54, op := Op.move (Operand.tmp 1), type := 29, pos := "show.go:254", after := #[], guard := none }) (v := .slice (some ⟨q, off, none⟩) 3 cap) rfl (by kernel_rfl) (by kernel_rfl) (by kernel_rfl) (fun _ _ _ h => h) (Or.inl ⟨by rfl, fun w => by go_simp⟩) ?_
    (try simp only [Act.put, List.setIfInBounds_toArray, List.set_cons_zero, List.set_cons_succ])
    refine wpAny_take (i := 1) (oi := { dst := some 55, op := Op.indexAddr 29 (Operand.tmp 54) (Operand.const (Value.int IntKind.i64 0)), type := 0, pos := "show.go:254", after := #[{ on := 0, ground := Ground.data }], guard := none }) (v := .pointer (some ⟨q, off, none⟩)) rfl (by kernel_rfl) (by kernel_rfl) (by kernel_rfl) (fun _ _ _ h => h) (Or.inl ⟨by rfl, fun w => by go_simp⟩) ?_
    (try simp only [Act.put, List.setIfInBounds_toArray, List.set_cons_zero, List.set_cons_succ])
    refine wpAny_take (i := 3) (oi := { dst := some 57, op := Op.move (Operand.tmp 1), type := 29, pos := "show.go:254", after := #[], guard := none }) (v := .slice (some ⟨q, off, none⟩) 3 cap) rfl (by kernel_rfl) (by kernel_rfl) (by kernel_rfl) (fun _ _ _ h => h) (Or.inl ⟨by rfl, fun w => by go_simp⟩) ?_
    (try simp only [Act.put, List.setIfInBounds_toArray, List.set_cons_zero, List.set_cons_succ])
    refine wpAny_take (i := 4) (oi := { dst := some 58, op := Op.indexAddr 29 (Operand.tmp 57) (Operand.const (Value.int IntKind.i64 1)), type := 0, pos := "show.go:254", after := #[{ on := 3, ground := Ground.data }], guard := none }) (v := .pointer (some ⟨q, off + 1, none⟩)) rfl (by kernel_rfl) (by kernel_rfl) (by kernel_rfl) (fun _ _ _ h => h) (Or.inl ⟨by rfl, fun w => by go_simp⟩) ?_
    (try simp only [Act.put, List.setIfInBounds_toArray, List.set_cons_zero, List.set_cons_succ])
    refine wpAny_take (i := 6) (oi := { dst := some 60, op := Op.move (Operand.tmp 1), type := 29, pos := "show.go:254", after := #[], guard := none }) (v := .slice (some ⟨q, off, none⟩) 3 cap) rfl (by kernel_rfl) (by kernel_rfl) (by kernel_rfl) (fun _ _ _ h => h) (Or.inl ⟨by rfl, fun w => by go_simp⟩) ?_
    (try simp only [Act.put, List.setIfInBounds_toArray, List.set_cons_zero, List.set_cons_succ])
    refine wpAny_take (i := 7) (oi := { dst := some 61, op := Op.indexAddr 29 (Operand.tmp 60) (Operand.const (Value.int IntKind.i64 2)), type := 0, pos := "show.go:254", after := #[{ on := 6, ground := Ground.data }], guard := none }) (v := .pointer (some ⟨q, off + 2, none⟩)) rfl (by kernel_rfl) (by kernel_rfl) (by kernel_rfl) (fun _ _ _ h => h) (Or.inl ⟨by rfl, fun w => by go_simp⟩) ?_
    (try simp only [Act.put, List.setIfInBounds_toArray, List.set_cons_zero, List.set_cons_succ])
    refine wpAny_ready (rs := [2, 5, 8]) (by kernel_rfl) (by simp) ?_
    refine AllReady.cons (o := { dst := some 56, op := Op.load 9 (Operand.tmp 55), type := 9, pos := "show.go:254", after := #[{ on := 1, ground := Ground.data }], guard := none }) rfl (fun K hK => ?_) ?_
    · refine step_load7 rfl 9 _ rfl (.pointer (some ⟨q, off, none⟩)) rfl _ HL0.out ?_
      refine hK _ _ ?_
      clear hK K
      (try simp only [Act.put, List.setIfInBounds_toArray, List.set_cons_zero, List.set_cons_succ])
      refine wpAny_ready (rs := [5, 8]) (by kernel_rfl) (by simp) ?_
      refine AllReady.cons (o := { dst := some 59, op := Op.load 9 (Operand.tmp 58), type := 9, pos := "show.go:254", after := #[{ on := 4, ground := Ground.data }], guard := none }) rfl (fun K hK => ?_) ?_
      · refine step_load7 rfl 9 _ rfl (.pointer (some ⟨q, off + 1, none⟩)) rfl _ HL1.out ?_
        refine hK _ _ ?_
        clear hK K
        (try simp only [Act.put, List.setIfInBounds_toArray, List.set_cons_zero, List.set_cons_succ])
        refine wpAny_ready (rs := [8]) (by kernel_rfl) (by simp) ?_
        refine AllReady.cons (o := { dst := some 62, op := Op.load 9 (Operand.tmp 61), type := 9, pos := "show.go:254", after := #[{ on := 7, ground := Ground.data }], guard := none }) rfl (fun K hK => ?_) AllReady.nil
        refine step_load7 rfl 9 _ rfl (.pointer (some ⟨q, off + 2, none⟩)) rfl _ HL2.out ?_
        refine hK _ _ ?_
        clear hK K
        (try simp only [Act.put, List.setIfInBounds_toArray, List.set_cons_zero, List.set_cons_succ])
        refine wpAny_ready (rs := [9]) (by kernel_rfl) (by simp) ?_
        refine AllReady.cons (o := { dst := some 63, op := Op.call { callee := Callee.value (Operand.func 95), args := #[Operand.tmp 56, Operand.tmp 59, Operand.tmp 62], argTypes := #[9, 9, 9] }, type := 25, pos := "show.go:254", after := #[{ on := 2, ground := Ground.data }, { on := 5, ground := Ground.data }, { on := 8, ground := Ground.data }], guard := none }) rfl (fun K hK => ?_) AllReady.nil
        rw [if_pos (by rfl)]
        go_simp
        refine (MC.out V0).mono ?_
        rintro e w2 ⟨rfl, b2⟩
        refine hK _ _ ?_
        clear hK K
        (try simp only [Act.put, List.setIfInBounds_toArray, List.set_cons_zero, List.set_cons_succ])
        have B2 := Lib.hid (below_step DRW.out b2)
        clear b2
        refine wpAny_take (i := 10) (oi := { dst := some 64, op := Op.extract (Operand.tmp 63) 0, type := 9, pos := "show.go:254", after := #[{ on := 9, ground := Ground.data }], guard := none }) (v := .string ⟨t.toArray⟩) rfl (by kernel_rfl) (by kernel_rfl) (by kernel_rfl) (fun _ _ _ h => h) (Or.inl ⟨by rfl, fun w => by go_simp⟩) ?_
        (try simp only [Act.put, List.setIfInBounds_toArray, List.set_cons_zero, List.set_cons_succ])
        refine wpAny_take (i := 11) (oi := { dst := some 65, op := Op.extract (Operand.tmp 63) 1, type := 24, pos := "show.go:254", after := #[{ on := 9, ground := Ground.data }], guard := none }) (v := .int .i64 ((e : Nat) : Int)) rfl (by kernel_rfl) (by kernel_rfl) (by kernel_rfl) (fun _ _ _ h => h) (Or.inl ⟨by rfl, fun w => by go_simp⟩) ?_
        (try simp only [Act.put, List.setIfInBounds_toArray, List.set_cons_zero, List.set_cons_succ])
        refine wpAny_ready (rs := [12]) (by kernel_rfl) (by simp) ?_
        refine AllReady.cons (o := { dst := some 66, op := Op.call { callee := Callee.value (Operand.func 67), args := #[Operand.tmp 64, Operand.tmp 65], argTypes := #[9, 24] }, type := 9, pos := "show.go:254", after := #[{ on := 10, ground := Ground.data }, { on := 11, ground := Ground.data }, { on := 9, ground := Ground.chain }], guard := none }) rfl (fun K hK => ?_) AllReady.nil
        rw [if_pos (by rfl)]
        go_simp
        refine (made7_bad _ _ HE.out _).mono ?_
        rintro e w3 ⟨rfl, rfl⟩
        exact ⟨rfl, HZ.out _ B2.out⟩
      refine AllReady.cons (o := { dst := some 62, op := Op.load 9 (Operand.tmp 61), type := 9, pos := "show.go:254", after := #[{ on := 7, ground := Ground.data }], guard := none }) rfl (fun K hK => ?_) AllReady.nil
      refine step_load7 rfl 9 _ rfl (.pointer (some ⟨q, off + 2, none⟩)) rfl _ HL2.out ?_
      refine hK _ _ ?_
      clear hK K
      (try simp only [Act.put, List.setIfInBounds_toArray, List.set_cons_zero, List.set_cons_succ])
      refine wpAny_ready (rs := [5]) (by kernel_rfl) (by simp) ?_
      refine AllReady.cons (o := { dst := some 59, op := Op.load 9 (Operand.tmp 58), type := 9, pos := "show.go:254", after := #[{ on := 4, ground := Ground.data }], guard := none }) rfl (fun K hK => ?_) AllReady.nil
      refine step_load7 rfl 9 _ rfl (.pointer (some ⟨q, off + 1, none⟩)) rfl _ HL1.out ?_
      refine hK _ _ ?_
      clear hK K
      (try simp only [Act.put, List.setIfInBounds_toArray, List.set_cons_zero, List.set_cons_succ])
      refine wpAny_ready (rs := [9]) (by kernel_rfl) (by simp) ?_
      refine AllReady.cons (o := { dst := some 63, op := Op.call { callee := Callee.value (Operand.func 95), args := #[Operand.tmp 56, Operand.tmp 59, Operand.tmp 62], argTypes := #[9, 9, 9] }, type := 25, pos := "show.go:254", after := #[{ on := 2, ground := Ground.data }, { on := 5, ground := Ground.data }, { on := 8, ground := Ground.data }], guard := none }) rfl (fun K hK => ?_) AllReady.nil
      rw [if_pos (by rfl)]
      go_simp
      refine (MC.out V0).mono ?_
      rintro e w2 ⟨rfl, b2⟩
      refine hK _ _ ?_
      clear hK K
      (try simp only [Act.put, List.setIfInBounds_toArray, List.set_cons_zero, List.set_cons_succ])
      have B2 := Lib.hid (below_step DRW.out b2)
      clear b2
      refine wpAny_take (i := 10) (oi := { dst := some 64, op := Op.extract (Operand.tmp 63) 0, type := 9, pos := "show.go:254", after := #[{ on := 9, ground := Ground.data }], guard := none }) (v := .string ⟨t.toArray⟩) rfl (by kernel_rfl) (by kernel_rfl) (by kernel_rfl) (fun _ _ _ h => h) (Or.inl ⟨by rfl, fun w => by go_simp⟩) ?_
      (try simp only [Act.put, List.setIfInBounds_toArray, List.set_cons_zero, List.set_cons_succ])
      refine wpAny_take (i := 11) (oi := { dst := some 65, op := Op.extract (Operand.tmp 63) 1, type := 24, pos := "show.go:254", after := #[{ on := 9, ground := Ground.data }], guard := none }) (v := .int .i64 ((e : Nat) : Int)) rfl (by kernel_rfl) (by kernel_rfl) (by kernel_rfl) (fun _ _ _ h => h) (Or.inl ⟨by rfl, fun w => by go_simp⟩) ?_
      (try simp only [Act.put, List.setIfInBounds_toArray, List.set_cons_zero, List.set_cons_succ])
      refine wpAny_ready (rs := [12]) (by kernel_rfl) (by simp) ?_
      refine AllReady.cons (o := { dst := some 66, op := Op.call { callee := Callee.value (Operand.func 67), args := #[Operand.tmp 64, Operand.tmp 65], argTypes := #[9, 24] }, type := 9, pos := "show.go:254", after := #[{ on := 10, ground := Ground.data }, { on := 11, ground := Ground.data }, { on := 9, ground := Ground.chain }], guard := none }) rfl (fun K hK => ?_) AllReady.nil
      rw [if_pos (by rfl)]
      go_simp
      refine (made7_bad _ _ HE.out _).mono ?_
      rintro e w3 ⟨rfl, rfl⟩
      exact ⟨rfl, HZ.out _ B2.out⟩
    refine AllReady.cons (o := { dst := some 59, op := Op.load 9 (Operand.tmp 58), type := 9, pos := "show.go:254", after := #[{ on := 4, ground := Ground.data }], guard := none }) rfl (fun K hK => ?_) ?_
    · refine step_load7 rfl 9 _ rfl (.pointer (some ⟨q, off + 1, none⟩)) rfl _ HL1.out ?_
      refine hK _ _ ?_
      clear hK K
      (try simp only [Act.put, List.setIfInBounds_toArray, List.set_cons_zero, List.set_cons_succ])
      refine wpAny_ready (rs := [2, 8]) (by kernel_rfl) (by simp) ?_
      refine AllReady.cons (o := { dst := some 56, op := Op.load 9 (Operand.tmp 55), type := 9, pos := "show.go:254", after := #[{ on := 1, ground := Ground.data }], guard := none }) rfl (fun K hK => ?_) ?_
      · refine step_load7 rfl 9 _ rfl (.pointer (some ⟨q, off, none⟩)) rfl _ HL0.out ?_
        refine hK _ _ ?_
        clear hK K
        (try simp only [Act.put, List.setIfInBounds_toArray, List.set_cons_zero, List.set_cons_succ])
        refine wpAny_ready (rs := [8]) (by kernel_rfl) (by simp) ?_
        refine AllReady.cons (o := { dst := some 62, op := Op.load 9 (Operand.tmp 61), type := 9, pos := "show.go:254", after := #[{ on := 7, ground := Ground.data }], guard := none }) rfl (fun K hK => ?_) AllReady.nil
        refine step_load7 rfl 9 _ rfl (.pointer (some ⟨q, off + 2, none⟩)) rfl _ HL2.out ?_
        refine hK _ _ ?_
        clear hK K
        (try simp only [Act.put, List.setIfInBounds_toArray, List.set_cons_zero, List.set_cons_succ])
        refine wpAny_ready (rs := [9]) (by kernel_rfl) (by simp) ?_
        refine AllReady.cons (o := { dst := some 63, op := Op.call { callee := Callee.value (Operand.func 95), args := #[Operand.tmp 56, Operand.tmp 59, Operand.tmp 62], argTypes := #[9, 9, 9] }, type := 25, pos := "show.go:254", after := #[{ on := 2, ground := Ground.data }, { on := 5, ground := Ground.data }, { on := 8, ground := Ground.data }], guard := none }) rfl (fun K hK => ?_) AllReady.nil
        rw [if_pos (by rfl)]
        go_simp
        refine (MC.out V0).mono ?_
        rintro e w2 ⟨rfl, b2⟩
        refine hK _ _ ?_
        clear hK K
        (try simp only [Act.put, List.setIfInBounds_toArray, List.set_cons_zero, List.set_cons_succ])
        have B2 := Lib.hid (below_step DRW.out b2)
        clear b2
        refine wpAny_take (i := 10) (oi := { dst := some 64, op := Op.extract (Operand.tmp 63) 0, type := 9, pos := "show.go:254", after := #[{ on := 9, ground := Ground.data }], guard := none }) (v := .string ⟨t.toArray⟩) rfl (by kernel_rfl) (by kernel_rfl) (by kernel_rfl) (fun _ _ _ h => h) (Or.inl ⟨by rfl, fun w => by go_simp⟩) ?_
        (try simp only [Act.put, List.setIfInBounds_toArray, List.set_cons_zero, List.set_cons_succ])
        refine wpAny_take (i := 11) (oi := { dst := some 65, op := Op.extract (Operand.tmp 63) 1, type := 24, pos := "show.go:254", after := #[{ on := 9, ground := Ground.data }], guard := none }) (v := .int .i64 ((e : Nat) : Int)) rfl (by kernel_rfl) (by kernel_rfl) (by kernel_rfl) (fun _ _ _ h => h) (Or.inl ⟨by rfl, fun w => by go_simp⟩) ?_
        (try simp only [Act.put, List.setIfInBounds_toArray, List.set_cons_zero, List.set_cons_succ])
        refine wpAny_ready (rs := [12]) (by kernel_rfl) (by simp) ?_
        refine AllReady.cons (o := { dst := some 66, op := Op.call { callee := Callee.value (Operand.func 67), args := #[Operand.tmp 64, Operand.tmp 65], argTypes := #[9, 24] }, type := 9, pos := "show.go:254", after := #[{ on := 10, ground := Ground.data }, { on := 11, ground := Ground.data }, { on := 9, ground := Ground.chain }], guard := none }) rfl (fun K hK => ?_) AllReady.nil
        rw [if_pos (by rfl)]
        go_simp
        refine (made7_bad _ _ HE.out _).mono ?_
        rintro e w3 ⟨rfl, rfl⟩
        exact ⟨rfl, HZ.out _ B2.out⟩
      refine AllReady.cons (o := { dst := some 62, op := Op.load 9 (Operand.tmp 61), type := 9, pos := "show.go:254", after := #[{ on := 7, ground := Ground.data }], guard := none }) rfl (fun K hK => ?_) AllReady.nil
      refine step_load7 rfl 9 _ rfl (.pointer (some ⟨q, off + 2, none⟩)) rfl _ HL2.out ?_
      refine hK _ _ ?_
      clear hK K
      (try simp only [Act.put, List.setIfInBounds_toArray, List.set_cons_zero, List.set_cons_succ])
      refine wpAny_ready (rs := [2]) (by kernel_rfl) (by simp) ?_
      refine AllReady.cons (o := { dst := some 56, op := Op.load 9 (Operand.tmp 55), type := 9, pos := "show.go:254", after := #[{ on := 1, ground := Ground.data }], guard := none }) rfl (fun K hK => ?_) AllReady.nil
      refine step_load7 rfl 9 _ rfl (.pointer (some ⟨q, off, none⟩)) rfl _ HL0.out ?_
      refine hK _ _ ?_
      clear hK K
      (try simp only [Act.put, List.setIfInBounds_toArray, List.set_cons_zero, List.set_cons_succ])
      refine wpAny_ready (rs := [9]) (by kernel_rfl) (by simp) ?_
      refine AllReady.cons (o := { dst := some 63, op := Op.call { callee := Callee.value (Operand.func 95), args := #[Operand.tmp 56, Operand.tmp 59, Operand.tmp 62], argTypes := #[9, 9, 9] }, type := 25, pos := "show.go:254", after := #[{ on := 2, ground := Ground.data }, { on := 5, ground := Ground.data }, { on := 8, ground := Ground.data }], guard := none }) rfl (fun K hK => ?_) AllReady.nil
      rw [if_pos (by rfl)]
      go_simp
      refine (MC.out V0).mono ?_
      rintro e w2 ⟨rfl, b2⟩
      refine hK _ _ ?_
      clear hK K
      (try simp only [Act.put, List.setIfInBounds_toArray, List.set_cons_zero, List.set_cons_succ])
      have B2 := Lib.hid (below_step DRW.out b2)
      clear b2
      refine wpAny_take (i := 10) (oi := { dst := some 64, op := Op.extract (Operand.tmp 63) 0, type := 9, pos := "show.go:254", after := #[{ on := 9, ground := Ground.data }], guard := none }) (v := .string ⟨t.toArray⟩) rfl (by kernel_rfl) (by kernel_rfl) (by kernel_rfl) (fun _ _ _ h => h) (Or.inl ⟨by rfl, fun w => by go_simp⟩) ?_
      (try simp only [Act.put, List.setIfInBounds_toArray, List.set_cons_zero, List.set_cons_succ])
      refine wpAny_take (i := 11) (oi := { dst := some 65, op := Op.extract (Operand.tmp 63) 1, type := 24, pos := "show.go:254", after := #[{ on := 9, ground := Ground.data }], guard := none }) (v := .int .i64 ((e : Nat) : Int)) rfl (by kernel_rfl) (by kernel_rfl) (by kernel_rfl) (fun _ _ _ h => h) (Or.inl ⟨by rfl, fun w => by go_simp⟩) ?_
      (try simp only [Act.put, List.setIfInBounds_toArray, List.set_cons_zero, List.set_cons_succ])
      refine wpAny_ready (rs := [12]) (by kernel_rfl) (by simp) ?_
      refine AllReady.cons (o := { dst := some 66, op := Op.call { callee := Callee.value (Operand.func 67), args := #[Operand.tmp 64, Operand.tmp 65], argTypes := #[9, 24] }, type := 9, pos := "show.go:254", after := #[{ on := 10, ground := Ground.data }, { on := 11, ground := Ground.data }, { on := 9, ground := Ground.chain }], guard := none }) rfl (fun K hK => ?_) AllReady.nil
      rw [if_pos (by rfl)]
      go_simp
      refine (made7_bad _ _ HE.out _).mono ?_
      rintro e w3 ⟨rfl, rfl⟩
      exact ⟨rfl, HZ.out _ B2.out⟩
    refine AllReady.cons (o := { dst := some 62, op := Op.load 9 (Operand.tmp 61), type := 9, pos := "show.go:254", after := #[{ on := 7, ground := Ground.data }], guard := none }) rfl (fun K hK => ?_) AllReady.nil
    refine step_load7 rfl 9 _ rfl (.pointer (some ⟨q, off + 2, none⟩)) rfl _ HL2.out ?_
    refine hK _ _ ?_
    clear hK K
    (try simp only [Act.put, List.setIfInBounds_toArray, List.set_cons_zero, List.set_cons_succ])
    refine wpAny_ready (rs := [2, 5]) (by kernel_rfl) (by simp) ?_
    refine AllReady.cons (o := { dst := some 56, op := Op.load 9 (Operand.tmp 55), type := 9, pos := "show.go:254", after := #[{ on := 1, ground := Ground.data }], guard := none }) rfl (fun K hK => ?_) ?_
    · refine step_load7 rfl 9 _ rfl (.pointer (some ⟨q, off, none⟩)) rfl _ HL0.out ?_
      refine hK _ _ ?_
      clear hK K
      (try simp only [Act.put, List.setIfInBounds_toArray, List.set_cons_zero, List.set_cons_succ])
      refine wpAny_ready (rs := [5]) (by kernel_rfl) (by simp) ?_
      refine AllReady.cons (o := { dst := some 59, op := Op.load 9 (Operand.tmp 58), type := 9, pos := "show.go:254", after := #[{ on := 4, ground := Ground.data }], guard := none }) rfl (fun K hK => ?_) AllReady.nil
      refine step_load7 rfl 9 _ rfl (.pointer (some ⟨q, off + 1, none⟩)) rfl _ HL1.out ?_
      refine hK _ _ ?_
      clear hK K
      (try simp only [Act.put, List.setIfInBounds_toArray, List.set_cons_zero, List.set_cons_succ])
      refine wpAny_ready (rs := [9]) (by kernel_rfl) (by simp) ?_
      refine AllReady.cons (o := { dst := some 63, op := Op.call { callee := Callee.value (Operand.func 95), args := #[Operand.tmp 56, Operand.tmp 59, Operand.tmp 62], argTypes := #[9, 9, 9] }, type := 25, pos := "show.go:254", after := #[{ on := 2, ground := Ground.data }, { on := 5, ground := Ground.data }, { on := 8, ground := Ground.data }], guard := none }) rfl (fun K hK => ?_) AllReady.nil
      rw [if_pos (by rfl)]
      go_simp
      refine (MC.out V0).mono ?_
      rintro e w2 ⟨rfl, b2⟩
      refine hK _ _ ?_
      clear hK K
      (try simp only [Act.put, List.setIfInBounds_toArray, List.set_cons_zero, List.set_cons_succ])
      have B2 := Lib.hid (below_step DRW.out b2)
      clear b2
      refine wpAny_take (i := 10) (oi := { dst := some 64, op := Op.extract (Operand.tmp 63) 0, type := 9, pos := "show.go:254", after := #[{ on := 9, ground := Ground.data }], guard := none }) (v := .string ⟨t.toArray⟩) rfl (by kernel_rfl) (by kernel_rfl) (by kernel_rfl) (fun _ _ _ h => h) (Or.inl ⟨by rfl, fun w => by go_simp⟩) ?_
      (try simp only [Act.put, List.setIfInBounds_toArray, List.set_cons_zero, List.set_cons_succ])
      refine wpAny_take (i := 11) (oi := { dst := some 65, op := Op.extract (Operand.tmp 63) 1, type := 24, pos := "show.go:254", after := #[{ on := 9, ground := Ground.data }], guard := none }) (v := .int .i64 ((e : Nat) : Int)) rfl (by kernel_rfl) (by kernel_rfl) (by kernel_rfl) (fun _ _ _ h => h) (Or.inl ⟨by rfl, fun w => by go_simp⟩) ?_
      (try simp only [Act.put, List.setIfInBounds_toArray, List.set_cons_zero, List.set_cons_succ])
      refine wpAny_ready (rs := [12]) (by kernel_rfl) (by simp) ?_
      refine AllReady.cons (o := { dst := some 66, op := Op.call { callee := Callee.value (Operand.func 67), args := #[Operand.tmp 64, Operand.tmp 65], argTypes := #[9, 24] }, type := 9, pos := "show.go:254", after := #[{ on := 10, ground := Ground.data }, { on := 11, ground := Ground.data }, { on := 9, ground := Ground.chain }], guard := none }) rfl (fun K hK => ?_) AllReady.nil
      rw [if_pos (by rfl)]
      go_simp
      refine (made7_bad _ _ HE.out _).mono ?_
      rintro e w3 ⟨rfl, rfl⟩
      exact ⟨rfl, HZ.out _ B2.out⟩
    refine AllReady.cons (o := { dst := some 59, op := Op.load 9 (Operand.tmp 58), type := 9, pos := "show.go:254", after := #[{ on := 4, ground := Ground.data }], guard := none }) rfl (fun K hK => ?_) AllReady.nil
    refine step_load7 rfl 9 _ rfl (.pointer (some ⟨q, off + 1, none⟩)) rfl _ HL1.out ?_
    refine hK _ _ ?_
    clear hK K
    (try simp only [Act.put, List.setIfInBounds_toArray, List.set_cons_zero, List.set_cons_succ])
    refine wpAny_ready (rs := [2]) (by kernel_rfl) (by simp) ?_
    refine AllReady.cons (o := { dst := some 56, op := Op.load 9 (Operand.tmp 55), type := 9, pos := "show.go:254", after := #[{ on := 1, ground := Ground.data }], guard := none }) rfl (fun K hK => ?_) AllReady.nil
    refine step_load7 rfl 9 _ rfl (.pointer (some ⟨q, off, none⟩)) rfl _ HL0.out ?_
    refine hK _ _ ?_
    clear hK K
    (try simp only [Act.put, List.setIfInBounds_toArray, List.set_cons_zero, List.set_cons_succ])
    refine wpAny_ready (rs := [9]) (by kernel_rfl) (by simp) ?_
    refine AllReady.cons (o := { dst := some 63, op := Op.call { callee := Callee.value (Operand.func 95), args := #[Operand.tmp 56, Operand.tmp 59, Operand.tmp 62], argTypes := #[9, 9, 9] }, type := 25, pos := "show.go:254", after := #[{ on := 2, ground := Ground.data }, { on := 5, ground := Ground.data }, { on := 8, ground := Ground.data }], guard := none }) rfl (fun K hK => ?_) AllReady.nil
    rw [if_pos (by rfl)]
    go_simp
    refine (MC.out V0).mono ?_
    rintro e w2 ⟨rfl, b2⟩
    refine hK _ _ ?_
    clear hK K
    (try simp only [Act.put, List.setIfInBounds_toArray, List.set_cons_zero, List.set_cons_succ])
    have B2 := Lib.hid (below_step DRW.out b2)
    clear b2
    refine wpAny_take (i := 10) (oi := { dst := some 64, op := Op.extract (Operand.tmp 63) 0, type := 9, pos := "show.go:254", after := #[{ on := 9, ground := Ground.data }], guard := none }) (v := .string ⟨t.toArray⟩) rfl (by kernel_rfl) (by kernel_rfl) (by kernel_rfl) (fun _ _ _ h => h) (Or.inl ⟨by rfl, fun w => by go_simp⟩) ?_
    (try simp only [Act.put, List.setIfInBounds_toArray, List.set_cons_zero, List.set_cons_succ])
    refine wpAny_take (i := 11) (oi := { dst := some 65, op := Op.extract (Operand.tmp 63) 1, type := 24, pos := "show.go:254", after := #[{ on := 9, ground := Ground.data }], guard := none }) (v := .int .i64 ((e : Nat) : Int)) rfl (by kernel_rfl) (by kernel_rfl) (by kernel_rfl) (fun _ _ _ h => h) (Or.inl ⟨by rfl, fun w => by go_simp⟩) ?_
    (try simp only [Act.put, List.setIfInBounds_toArray, List.set_cons_zero, List.set_cons_succ])
    refine wpAny_ready (rs := [12]) (by kernel_rfl) (by simp) ?_
    refine AllReady.cons (o := { dst := some 66, op := Op.call { callee := Callee.value (Operand.func 67), args := #[Operand.tmp 64, Operand.tmp 65], argTypes := #[9, 24] }, type := 9, pos := "show.go:254", after := #[{ on := 10, ground := Ground.data }, { on := 11, ground := Ground.data }, { on := 9, ground := Ground.chain }], guard := none }) rfl (fun K hK => ?_) AllReady.nil
    rw [if_pos (by rfl)]
    go_simp
    refine (made7_bad _ _ HE.out _).mono ?_
    rintro e w3 ⟨rfl, rfl⟩
    exact ⟨rfl, HZ.out _ B2.out⟩
end Go.Proofs.YtiehhlolhhjgpaaGreatDoor.Pl
