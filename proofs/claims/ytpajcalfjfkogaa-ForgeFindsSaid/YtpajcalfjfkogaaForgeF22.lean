/- The program's own run of steps: perform. -/
import Derived.Test.YtpajcalfjfkogaaForgeF21
import Derived.Test.YtpajcalfjfkogaaForgeF12
namespace Go.Proofs.Ytpajcalfjfkogaa.Pl
open Go.RowKit Go.Shelf
attribute [local go_sem] Oper.semAt_some

theorem do_info (a b c d e : Value) : (Try.prog.info? 75).map (·.size) = some (#[a, b, c, d, e].size) := by kernel_rfl
theorem do_one (R : Nat) (fN fT fL : Bool) (g : Fn) (r : Nat) : (#[.int .i64 R, .bool fN, .bool fT, .bool fL, .func g #[ptr11 r] #[]] : Array Value).all (·.oneCell') = true := by
  rw [Array.all_eq_true_iff_forall_mem]
  intro x hx
  simp only [List.mem_toArray, List.mem_cons, List.not_mem_nil, or_false] at hx
  rcases hx with rfl | rfl | rfl | rfl | rfl <;> rfl
theorem do_zero : (#[.int .i64 0, .bool false, .bool false, .bool false, .nilFunc] : Array Value).all (·.oneCell') = true := by
  rw [Array.all_eq_true_iff_forall_mem]
  intro x hx
  simp only [List.mem_toArray, List.mem_cons, List.not_mem_nil, or_false] at hx
  rcases hx with rfl | rfl | rfl | rfl | rfl <;> rfl
theorem func_some (df : FuncId) (c : Array Value) (V : World) : (binOp .neq 73 (.func (.func df) c #[]) .nilFunc).run Try.prog V = .ok (.bool true) V := by kernel_rfl
theorem func_none (V : World) : (binOp .neq 73 .nilFunc .nilFunc).run Try.prog V = .ok (.bool false) V := by kernel_rfl
theorem call_do (f : Nat) (args : Array Value) (V : World) : (callFunc (doF f) args).run Try.prog V = .ok (.enter (doF f) args) V := by
  unfold doF
  repeat' split
  all_goals kernel_rfl
/-- Behind two new boxes: a step, what its kind does. -/
theorem two_boxes (wr : World) (cs ds : Array Value) : ∃ W2, W2 = ((wr.alloc (.cells cs 46)).alloc (.cells #[.int .i64 0, .bool false, .bool false, .bool false, .nilFunc] 75)).setRow (wr.heap.size + 1) ds ∧
    ((wr.alloc (.cells cs 46)).alloc (.cells #[.int .i64 0, .bool false, .bool false, .bool false, .nilFunc] 75)).heap[wr.heap.size + 1]? = some (.cells #[.int .i64 0, .bool false, .bool false, .bool false, .nilFunc] 75 (0, 0)) ∧
    W2.heap[wr.heap.size]? = some (.cells cs 46 (0, 0)) ∧ W2.heap[wr.heap.size + 1]? = some (.cells ds 75 (0, 0)) ∧ Below wr.heap.size wr W2 := by
  refine ⟨_, rfl, ?_⟩
  have n1 : (wr.alloc (.cells cs 46)).heap.size = wr.heap.size + 1 := by simp
  have a0 := Go.heap_alloc_new wr (.cells cs 46)
  have a1 := Go.heap_alloc_new (wr.alloc (.cells cs 46)) (.cells #[.int .i64 0, .bool false, .bool false, .bool false, .nilFunc] 75)
  rw [n1] at a1
  have a2 : ((wr.alloc (.cells cs 46)).alloc (.cells #[.int .i64 0, .bool false, .bool false, .bool false, .nilFunc] 75)).heap[wr.heap.size]? = some (.cells cs 46 (0, 0)) := (Below.heap_alloc _ _ _ (by omega)).trans a0
  have h2 := ((Below.refl wr.heap.size wr).alloc (Nat.le_refl _) (.cells cs 46)).alloc (by simp) (.cells #[.int .i64 0, .bool false, .bool false, .bool false, .nilFunc] 75)
  exact ⟨a1, (setRow_other _ _ _ _ (by omega)).trans a2, setRow_heap _ _ _ _ _ _ a1, ⟨h2.os, h2.tape, h2.output, by simpa [World.setRow] using h2.size, fun k hk => (setRow_other _ _ _ _ (by omega)).trans (h2.block k hk)⟩⟩
/-- The run, while it is going on: n: its first block; sv: what was seen; v: the terms so far. -/
structure PfAt (n : Nat) (W : World) (sv v : Value) (L : List ByteArray) : Prop where
  b0 : Boxed W n 22 (.slice none 0 0)
  b1 : Boxed W (n + 1) 3 (.int .i64 0)
  b2 : Boxed W (n + 2) 27 (.int .i64 0)
  run : W.heap[n + 3]? = some (.cells #[sv, v] 69 (0, 0))
  ptr : Boxed W (n + 4) 67 (ptr11 (n + 3))
  own : OwnT W (n + 5) v L
  lt : n + 5 ≤ W.heap.size
theorem PfAt.below {n : Nat} {W W' : World} {sv v : Value} {L : List ByteArray} (h : PfAt n W sv v L) (hb : Below W.heap.size W W') : PfAt n W' sv v L :=
  have g : ∀ b o, W.heap[b]? = some o → W'.heap[b]? = some o := fun b _ k => (hb.block b (Array.getElem?_eq_some_iff.1 k).1).trans k
  ⟨g _ _ h.b0, g _ _ h.b1, g _ _ h.b2, g _ _ h.run, g _ _ h.ptr, ownT_below h.own hb, Nat.le_trans h.lt hb.size⟩
theorem ownT_other {W W' : World} {B : Nat} {v : Value} {l : List ByteArray} (h : OwnT W B v l) (hb : ∀ b, B ≤ b → b < W.heap.size → W'.heap[b]? = W.heap[b]?) : OwnT W' B v l := by
  refine ⟨h.1, ?_⟩
  rcases h.2 with hn | ⟨g, cap, cur, hv, hbg, hg, rest⟩
  · exact .inl hn
  · exact .inr ⟨g, cap, cur, hv, hbg, (hb g hbg (Array.getElem?_eq_some_iff.1 hg).1).trans hg, rest⟩
/-- What is thrown, is caught, and told. -/
theorem perform_boom {tmps : Array Value} {R : Ending → World → Prop} {n z c : Nat} {W : World} {sv : Value} {L : List ByteArray} {ao : Option Addr} {cap : Nat} (h4 : tmps.getD 4 undef = ptr11 n) (h5 : tmps.getD 5 undef = ptr11 (n + 1)) (h6 : tmps.getD 6 undef = ptr11 (n + 2))
    (h : PfAt n W sv (.slice ao L.length cap) L) (hz : L.length = z)
    (hR : ∀ V, Below n W V → R (.returned (.tuple #[.slice none 0 0, .int .i64 z, .int .i64 c])) V) :
    CallsD Try.prog 38 #[ptr11 (n + 4), ptr11 n, ptr11 (n + 1), ptr11 (n + 2)] (.panicking [{ v := .iface 27 (.int .i64 c), recovered := false }]) W fun
      | .returned _, u', w' => Leaves Try.prog Try.f22 tmps R [] (settle u') w'
      | .panicked chain, u', w' => Leaves Try.prog Try.f22 tmps R [] (raised u' chain) w'
      | .outgrown, _, w' => R .outgrown w' := by
  have cr : W.cell? ⟨n + 3, 1, none⟩ = some (.slice ao L.length cap) := cell_of_row _ _ _ _ _ _ h.run
  refine (catch11_thrown (n + 4) (n + 3) n (n + 1) (n + 2) L.length c ao cap W _ _ _ (by omega) (by omega) (by omega) h.ptr.cell cr h.b0 h.b1 h.b2).mono ?_
  rintro e u' v' ⟨rfl, rfl, rfl⟩
  have g0 := ((h.b0.set (.slice none 0 0)).other (B' := n + 1) (by omega) (.int .i64 L.length)).other (B' := n + 2) (by omega) (.int .i64 c)
  have g1 := ((h.b1.other (B' := n) (by omega) (.slice none 0 0)).set (.int .i64 L.length)).other (B' := n + 2) (by omega) (.int .i64 c)
  have g2 := ((h.b2.other (B' := n) (by omega) (.slice none 0 0)).other (B' := n + 1) (by omega) (.int .i64 L.length)).set (.int .i64 c)
  have gB := (((Below.refl n W).setCell (p := ⟨n, 0, none⟩) (Nat.le_refl _) (.slice none 0 0)).setCell (p := ⟨n + 1, 0, none⟩) (Nat.le_succ _) (.int .i64 L.length)).setCell (p := ⟨n + 2, 0, none⟩) (Nat.le_add_right _ _) (.int .i64 c)
  refine ⟨_, perform_results _ n L.length c (.slice none 0 0) _ h4 h5 h6 g0 g1 g2, ?_⟩
  rw [hz] at gB ⊢
  exact hR _ gB
theorem cell_grown {W w5 : World} {o : Obj} {row : Option Nat} {b k : Nat} {u : Value} (hg : (W.alloc o).grownBy w5 row) (hb : b < W.heap.size) (hne : some b ≠ row) (h : W.cell? ⟨b, k, none⟩ = some u) : w5.cell? ⟨b, k, none⟩ = some u := by
  have h1 : w5.heap[b]? = W.heap[b]? := (hg.block b (by simp; omega) hne).trans (Below.heap_alloc W o b hb)
  unfold World.cell? at h ⊢
  simp only at h ⊢
  rw [h1]
  exact h
theorem cell_set {W : World} {b c k i : Nat} {u v : Value} (hne : b ≠ c) (h : W.cell? ⟨b, k, none⟩ = some u) : (W.setCell ⟨c, i, none⟩ v).cell? ⟨b, k, none⟩ = some u := by
  have h1 := Below.heap_setCell W ⟨c, i, none⟩ v b hne
  unfold World.cell? at h ⊢
  simp only at h ⊢
  rw [h1]
  exact h
/-- One term more. -/
theorem pf_push {n : Nat} {W w5 : World} {sv v v' : Value} {L : List ByteArray} {z : ByteArray} {md : Nat} {k : TypeId} {X : List (Lit × Value)} (h : PfAt n W sv v L) (hm : MapV W k md X) (ho : OwnT w5 (n + 5) v' (L ++ [z])) (hg : (W.alloc (.cells #[.string z] 9)).grownBy w5 v.ownBlock) :
    PfAt n (w5.setCell ⟨n + 3, 1, none⟩ v') sv v' (L ++ [z]) ∧ MapV (w5.setCell ⟨n + 3, 1, none⟩ v') k md X ∧ Below n W (w5.setCell ⟨n + 3, 1, none⟩ v') := by
  have hlt := h.lt
  have hown : ∀ b, v.ownBlock = some b → n + 5 ≤ b := fun b hb => (h.own.lt _ hb).1
  have g : ∀ b o, b < n + 5 → W.heap[b]? = some o → w5.heap[b]? = some o := fun b o hb k => (hg.block b (by simp; omega) (fun e => by have := hown b e.symm; omega)).trans ((Below.heap_alloc W _ b (by omega)).trans k)
  have g2 : ∀ b o, b < n + 5 → b ≠ n + 3 → W.heap[b]? = some o → (w5.setCell ⟨n + 3, 1, none⟩ v').heap[b]? = some o := fun b o hb hne k => (Below.heap_setCell w5 ⟨n + 3, 1, none⟩ v' b hne).trans (g b o hb k)
  have hsz := hg.size
  rw [World.size_alloc] at hsz
  refine ⟨⟨g2 _ _ (by omega) (by omega) h.b0, g2 _ _ (by omega) (by omega) h.b1, g2 _ _ (by omega) (by omega) h.b2, ?_, g2 _ _ (by omega) (by omega) h.ptr, ownT_other ho (fun b hb _ => Below.heap_setCell w5 ⟨n + 3, 1, none⟩ v' b (by show b ≠ n + 3; omega)), by simp [World.setCell]; omega⟩, ?_, ?_⟩
  · have := heap_setCell_same w5 (n + 3) 1 #[sv, v] 69 v' (g _ _ (by omega) h.run)
    simpa using this
  · obtain ⟨es, clock, he⟩ := hm.ex
    have hmd := hm.lt
    have hne3 : md ≠ n + 3 := fun e => by
      have := h.run
      rw [← e, he] at this
      cases this
    have hneo : some md ≠ v.ownBlock := fun e => by
      rcases h.own.2 with ⟨rfl, _⟩ | ⟨gg, cap, cur, rfl, _, hgg, _⟩
      · cases e
      · cases e
        rw [he] at hgg
        cases hgg
    exact hm.of_block ((Below.heap_setCell w5 ⟨n + 3, 1, none⟩ v' md hne3).trans ((hg.block md (by simp; omega) hneo).trans (Below.heap_alloc W _ md hmd)))
  · exact (((Below.refl n W).alloc (by omega) _).grown hg (by simp; omega) (fun b hb => by have := hown b hb; omega)).setCell (p := ⟨n + 3, 1, none⟩) (by show n ≤ n + 3; omega) v'
theorem run_row {n : Nat} {W w5 : World} {sv v : Value} {L : List ByteArray} {z : ByteArray} (h : PfAt n W sv v L) (hg : (W.alloc (.cells #[.string z] 9)).grownBy w5 v.ownBlock) : w5.heap[n + 3]? = some (.cells #[sv, v] 69 (0, 0)) :=
  (hg.block (n + 3) (by have := h.lt; simp; omega) (fun e => by have := (h.own.lt _ e.symm).1; omega)).trans ((Below.heap_alloc W _ (n + 3) (by have := h.lt; omega)).trans h.run)
theorem frozen_row {W : World} {b k : Nat} {cs : Array Value} {t : TypeId} (h : W.heap[b]? = some (.cells cs t (0, 0))) : W.frozen? ⟨b, k, none⟩ = false := by
  unfold World.frozen?
  simp [h]
/-- An append in a drawn region. -/
theorem wpOp_app11 {ops : Array Oper} {o : Oper} {a : Act} {K : Act → World → Prop} {Q : Exit → Act → World → Prop} (hw : Region.wanted o (yielded ops a.tmps) = true) (s x : Operand)
    (ho : o.op = .call { callee := .builtin .append, args := #[s, x], argTypes := #[22, 22] }) (hty : o.type = 22) {W1 : World} {n₀ : Nat} {v : Value} {l : List ByteArray} (y : ByteArray) (hs : a.eval s = v) (hx : a.eval x = .slice (some ⟨W1.heap.size, 0, none⟩) 1 1)
    (hrow : OwnT W1 n₀ v l) (hn : n₀ ≤ W1.heap.size) (hl : l.length ≤ 1000000000)
    (h : ∀ v' w', OwnT w' n₀ v' (l ++ [y]) → (W1.alloc (.cells #[.string y] 9)).grownBy w' v.ownBlock → K (a.put o.dst v') w') :
    if Region.wanted o (yielded ops a.tmps) = true then Oper.wp Try.prog o a (W1.alloc (.cells #[.string y] 9)) K Q else K (a.put o.dst undef) (W1.alloc (.cells #[.string y] 9)) := by
  rw [if_pos hw]
  obtain ⟨v', w', hr, h2, h3, h4⟩ := app10_run y hrow hn hl
  unfold Oper.wp execOp
  simp only [ho, hty, resolve, invoke, builtin, Sem.run_bind, Sem.run_pure, Result.andThen_ok, List.map_toArray, List.map_cons, List.map_nil, hs, hx, hr]
  exact h v' w' h2 h3
/-- What perform is to answer. -/
def PerformC (was : List ByteArray) (ss : List Stp) (w : World) : Ending → World → Prop := fun e w' => (∃ v L, e = .returned (.tuple #[v, .int .i64 (termsP (was.map bl) ss).2.1, .int .i64 (termsP (was.map bl) ss).2.2]) ∧ OwnT w' w.heap.size v L ∧ L.map bl = (termsP (was.map bl) ss).1) ∧ Below w.heap.size w w'
set_option maxHeartbeats 8000000 in
set_option maxRecDepth 100000 in
theorem perform_none (ss : List Stp) (so : Option Addr) (sc : Nat) (was : List ByteArray) (wo : Option Addr) (wc : Nat) (h : ss.length = 0 ∨ 32768 < ss.length) (w : World) :
    Calls Try.prog 22 #[.slice wo was.length wc, .slice so ss.length sc] w (PerformC was ss w) := by
  have hT : ∃ c : Nat, termsP (was.map bl) ss = ([], 0, c) ∧ (ss.length = 0 ∧ c = 3 ∨ 32768 < ss.length ∧ c = 5) := by
    unfold termsP
    rcases h with h | h
    · exact ⟨3, by rw [if_pos h], .inl ⟨h, rfl⟩⟩
    · exact ⟨5, by rw [if_neg (by omega), if_pos h], .inr ⟨h, rfl⟩⟩
  obtain ⟨c, hT, hc⟩ := hT
  unfold PerformC
  rw [hT]
  generalize ss.length = m at *
  generalize was.length = n at *
  obtain ⟨W0, hW0⟩ : ∃ V, V = ((w.alloc (.cells #[.slice none 0 0] 22)).alloc (.cells #[.int .i64 0] 3)).alloc (.cells #[.int .i64 c] 27) := ⟨_, rfl⟩
  have b0 : Boxed W0 w.heap.size 22 (.slice none 0 0) := by rw [hW0]; exact ((Boxed.new w _ _).alloc _).alloc _
  have b1 : Boxed W0 (w.heap.size + 1) 3 (.int .i64 0) := by rw [hW0]; have h := (Boxed.new (w.alloc (.cells #[.slice none 0 0] 22)) 3 (.int .i64 0)).alloc (.cells #[.int .i64 c] 27); simpa using h
  have b2 : Boxed W0 (w.heap.size + 2) 27 (.int .i64 c) := by rw [hW0]; have h := Boxed.new ((w.alloc (.cells #[.slice none 0 0] 22)).alloc (.cells #[.int .i64 0] 3)) 27 (.int .i64 c); simpa using h
  have B0 : Below w.heap.size w W0 := by rw [hW0]; exact (((Below.refl _ w).alloc (Nat.le_refl _) _).alloc (by simp) _).alloc (by simp; omega) _
  have fin : ∀ (tmps : Array Value), tmps.getD 4 undef = ptr11 w.heap.size → tmps.getD 5 undef = ptr11 (w.heap.size + 1) → tmps.getD 6 undef = ptr11 (w.heap.size + 2) →
      ∃ v, (results Try.f22 tmps).run Try.prog W0 = .ok v W0 ∧ ((∃ v' L, Ending.returned v = .returned (.tuple #[v', .int .i64 (0 : Nat), .int .i64 c]) ∧ OwnT W0 w.heap.size v' L ∧ L.map bl = []) ∧ Below w.heap.size w W0) := fun tmps h4 h5 h6 =>
    ⟨_, perform_results _ w.heap.size 0 c (.slice none 0 0) tmps h4 h5 h6 b0 b1 b2, ⟨_, [], rfl, ownT_nil _ _, rfl⟩, B0⟩
  have FIN := Lib.hid fin
  have HW0 := Lib.hid hW0
  clear fin b0 b1 b2 B0 hW0 hT h
  rcases hc with ⟨rfl, rfl⟩ | ⟨hm, rfl⟩
  · go_enter_defers Try.func22, Try.ntmps22
    go_wp2_with fail
    have h := FIN.out
    rw [HW0.out] at h
    exact h _ rfl rfl rfl
  · have hm' : (32768 : Int) < (m : Int) := by omega
    have hm0 : ((m : Int) == 0) = false := by rw [beq_eq_false_iff_ne]; omega
    go_enter_defers Try.func22, Try.ntmps22
    go_wp2_with fail
    have h := FIN.out
    rw [HW0.out] at h
    exact h _ rfl rfl rfl
set_option maxHeartbeats 8000000 in
set_option maxRecDepth 100000 in
theorem perform_any (ss : List Stp) (so : Option Addr) (sc : Nat) (was : List ByteArray) (wo : Option Addr) (wc : Nat) (hs : ∀ x ∈ was, x.size ≤ 281474976710656) (ht : ∀ s ∈ ss, s.text.size ≤ 281474976710656) (w : World) (hrow : StpRow w so ss) (hwas : TxtRow w wo was) :
    Calls Try.prog 22 #[.slice wo was.length wc, .slice so ss.length sc] w (PerformC was ss w) := by
  by_cases hbig : ss.length = 0 ∨ 32768 < ss.length
  · exact perform_none ss so sc was wo wc hbig w
  unfold PerformC
  obtain ⟨T, hT⟩ : ∃ T, T = termsP (was.map bl) ss := ⟨_, rfl⟩
  rw [← hT]
  unfold termsP at hT
  rw [if_neg (fun e => hbig (.inl e)), if_neg (fun e => hbig (.inr e))] at hT
  obtain ⟨m, hm⟩ : ∃ m, m = ss.length := ⟨_, rfl⟩
  have HM := Lib.hid hm
  rw [← hm] at hbig ⊢
  have h0 : ((m : Int) == 0) = false := by rw [beq_eq_false_iff_ne]; omega
  have h1 : ¬ (32768 : Int) < (m : Int) := by omega
  have HMS : Hid (m ≤ 32768) := Lib.hid (by omega)
  have HROW := Lib.hid (fun V (hV : Below w.heap.size w V) => hrow.below hV)
  have HWAS := Lib.hid (fun V (hV : Below w.heap.size w V) => hwas.below hV)
  have HS := Lib.hid hs
  have HTT := Lib.hid ht
  have HT := Lib.hid hT
  generalize hwn : was.length = wn at *
  have HWN := Lib.hid hwn
  have HD := Lib.hid (fun r V => doings11_any r V)
  clear hs ht hrow hwas hm hT hwn hbig
  obtain ⟨W5, hW5⟩ : ∃ V, V = ((((w.alloc (.cells #[.slice none 0 0] 22)).alloc (.cells #[.int .i64 0] 3)).alloc (.cells #[.int .i64 0] 27)).alloc (.cells #[.slice wo wn wc, .slice none 0 0] 69)).alloc (.cells #[.pointer (some ⟨w.heap.size + 1 + 1 + 1, 0, none⟩)] 67) := ⟨_, rfl⟩
  have P5 : Hid (PfAt w.heap.size W5 (.slice wo wn wc) (.slice none 0 0) []) := Lib.hid (by
    have a0 := Go.heap_alloc_new w (.cells #[.slice none 0 0] 22)
    have a1 := Go.heap_alloc_new (w.alloc (.cells #[.slice none 0 0] 22)) (.cells #[.int .i64 0] 3)
    have a2 := Go.heap_alloc_new ((w.alloc (.cells #[.slice none 0 0] 22)).alloc (.cells #[.int .i64 0] 3)) (.cells #[.int .i64 0] 27)
    have a3 := Go.heap_alloc_new (((w.alloc (.cells #[.slice none 0 0] 22)).alloc (.cells #[.int .i64 0] 3)).alloc (.cells #[.int .i64 0] 27)) (.cells #[.slice wo wn wc, .slice none 0 0] 69)
    have a4 := Go.heap_alloc_new ((((w.alloc (.cells #[.slice none 0 0] 22)).alloc (.cells #[.int .i64 0] 3)).alloc (.cells #[.int .i64 0] 27)).alloc (.cells #[.slice wo wn wc, .slice none 0 0] 69)) (.cells #[.pointer (some ⟨w.heap.size + 1 + 1 + 1, 0, none⟩)] 67)
    simp only [World.size_alloc] at a1 a2 a3 a4
    have up : ∀ (V : World) (o : Obj) (b : Nat) (x : Obj), V.heap[b]? = some x → (V.alloc o).heap[b]? = some x := fun V o b x h => (Below.heap_alloc V o b (Array.getElem?_eq_some_iff.1 h).1).trans h
    rw [hW5]
    exact ⟨up _ _ _ _ (up _ _ _ _ (up _ _ _ _ (up _ _ _ _ a0))), up _ _ _ _ (up _ _ _ _ (up _ _ _ _ a1)), up _ _ _ _ (up _ _ _ _ a2), up _ _ _ _ a3, a4, ownT_nil _ _, by simp⟩)
  have B5 : Hid (Below w.heap.size w W5) := Lib.hid (by
    rw [hW5]
    exact (((((Below.refl _ w).alloc (Nat.le_refl _) _).alloc (by simp) _).alloc (by simp; omega) _).alloc (by simp; omega) _).alloc (by simp; omega) _)
  have HW5 := Lib.hid hW5
  clear hW5
  have hfs := func_some
  have hfn := func_none
  go_enter_defers Try.func22, Try.ntmps22
  go_wp2_with fail
  rw [← HW5.out]
  simp only [Nat.add_assoc, Nat.reduceAdd]
  clear HW5
  refine (HD.out _ _).mono ?_; rintro e w6 ⟨⟨md, rfl, hmd⟩, b6⟩
  have P6 := Lib.hid (P5.out.below b6)
  have B6 := Lib.hid (below_step B5.out b6)
  have M6 := Lib.hid hmd
  clear HD b6 hmd P5 B5
  go_wp2_with fail
  go_loopw [26] (fun iv wr => ∃ (j : Nat) (v : Value) (L : List ByteArray), iv = .int .i64 j ∧ j ≤ m ∧ L.length = j ∧ Hid (PfAt w.heap.size wr (.slice wo wn wc) v L) ∧ Hid (MapV wr 5 md (doT (w.heap.size + 3))) ∧ Hid (∀ x ∈ L, checkP (bl x) = 0) ∧ Hid (T = stepsP (was.map bl) (ss.drop j) (L.map bl)) ∧ Hid (Below w.heap.size w wr)) (fun iv _ => m - (intOf iv).toNat)
  case atStart => exact ⟨0, _, [], rfl, Nat.zero_le _, rfl, P6, M6, Lib.hid (fun x h => by cases h), Lib.hid (by rw [HT.out]; rfl), B6⟩
  case round =>
    clear HT P6 M6 B6
    obtain ⟨j, v, L, rfl, hjm, hLj, hpf, hmv, hval, hst, hb⟩ := hrel
    by_cases hj : j < m
    · have hj' : (j : Int) < (m : Int) := by omega
      have hjl : j < ss.length := by rw [← HM.out]; exact hj
      rcases HROW.out _ hb.out with e | ⟨b, off, rfl, hlt, hc⟩
      · exfalso
        rw [e] at hjl
        exact absurd hjl (Nat.not_lt_zero _)
      obtain ⟨⟨lo, lc, hcs, hil, hlo⟩, hfit⟩ := hc j hjl
      rw [Nat.mul_comm 7 j] at hcs
      have HTX := Lib.hid (HTT.out _ (List.getElem_mem hjl))
      have hst2 : T = stepsP (was.map bl) (ss[j] :: ss.drop (j + 1)) (L.map bl) := by rw [hst.out, List.drop_eq_getElem_cons hjl]
      generalize ss[j] = s at *
      obtain ⟨ao, cap, rfl, hrl⟩ := ownT_row hpf.out.own
      have OB : Hid (∀ b, (Value.slice ao j cap).ownBlock = some b → b < wr.heap.size) := Lib.hid (fun b hb2 => (hpf.out.own.lt b (by rw [← hb2, hLj])).2)
      have HLT : Hid (w.heap.size + 5 ≤ wr.heap.size) := Lib.hid hpf.out.lt
      obtain ⟨R, hR⟩ : ∃ R, R = stepP (was.map bl) (L.map bl) s := ⟨_, rfl⟩
      have HWNW : Hid (was.length = wn) := HWN
      have HDO := Lib.hid (fun V (hV : Below wr.heap.size wr V) (h : maySt s j = true) => do11_any (w.heap.size + 3) s lo lc was wo wc L ao cap (by rw [hLj]; exact h) hval.out HS.out HTX.out V (by
        have h1 := (hpf.out.below hV).run
        rw [← HWNW.out] at h1
        exact ⟨h1, HWAS.out V (below_step hb.out hV), hrl.below hV⟩) (hil.below hV))
      rw [← hR] at HDO
      have hone : oneP (was.map bl) (L.map bl) s = if maySt s j = true then R else ([], 2) := by rw [oneP, List.length_map, hLj, hR]
      have HONE : Hid (∀ x, maySt s j = true → R.2 = x → x ≠ 0 → T = ([], j, x)) := Lib.hid (fun x h e hx => by
        rw [hst2, stepsP, hone, if_pos h, if_neg (by rw [e]; exact hx), List.length_map, hLj, e])
      have HBAD : Hid (maySt s j = false → T = ([], j, 2)) := Lib.hid (fun h => by
        have h2 : oneP (was.map bl) (L.map bl) s = ([], 2) := by rw [hone, if_neg (by rw [h]; simp)]
        rw [hst2, stepsP, h2, if_neg (show ¬ (([], 2) : List UInt8 × Nat).2 = 0 by decide), List.length_map, hLj])
      have HGO : Hid (maySt s j = true → R.2 = 0 → T = stepsP (was.map bl) (ss.drop (j + 1)) ((L ++ [tb11 R.1]).map bl)) := Lib.hid (fun h e => by
        rw [hst2, stepsP, hone, if_pos h, if_pos e, List.map_append]
        rfl)
      have HVAL : Hid (maySt s j = true → R.2 = 0 → ∀ x ∈ L ++ [tb11 R.1], checkP (bl x) = 0) := Lib.hid (fun h e x hx => by
        rcases List.mem_append.1 hx with hx | hx
        · exact hval.out x hx
        · rw [List.mem_singleton.1 hx]
          refine one_valid (was := was.map bl) (l := L.map bl) (s := s) (fun y hy => ?_) ?_
          · obtain ⟨z, hz, rfl⟩ := List.mem_map.1 hy
            exact hval.out z hz
          · rw [hone, if_pos h]
            exact Prod.ext rfl e)
      have g : ∀ k, (hk : k < 7) → wr.cell? ⟨b, off + j * 7 + k, none⟩ = some ((stpCells s lo lc)[k]'hk) := fun k hk => hcs k hk
      have x0 : wr.cell? ⟨b, off + j * 7, none⟩ = some (.int .u8 s.fn) := g 0 (by decide)
      have x1 : wr.cell? ⟨b, off + j * 7 + 1, none⟩ = some (.int .i64 s.a) := g 1 (by decide)
      have x2 : wr.cell? ⟨b, off + j * 7 + 2, none⟩ = some (.int .i64 s.b) := g 2 (by decide)
      have x3 : wr.cell? ⟨b, off + j * 7 + 3, none⟩ = some (.int .i64 s.c) := g 3 (by decide)
      have x4 : wr.cell? ⟨b, off + j * 7 + 4, none⟩ = some (.int .i64 s.n) := g 4 (by decide)
      have x5 : wr.cell? ⟨b, off + j * 7 + 5, none⟩ = some (.string s.text) := g 5 (by decide)
      have x6 : wr.cell? ⟨b, off + j * 7 + 6, none⟩ = some (.slice lo s.list.length lc) := g 6 (by decide)
      have HLJ := Lib.hid hLj
      have HFIT := Lib.hid (fun V (hV : Below wr.heap.size wr V) => fits11_any (refsOf s.fn) (namesN s.fn) (namesT s.fn) (namesL s.fn) (.func (doF s.fn)) (w.heap.size + 3) s lo lc j hfit.2.2.2.2.2.2.1 V (hil.below hV))
      have HFN : Hid (s.fn ≤ 255) := Lib.hid hfit.1
      unfold stpV at HFIT HDO
      clear hst hst2 hR hone hcs hil hlo hfit hlt hc hrl hLj HTX g
      by_cases h19 : 1 ≤ s.fn ∧ s.fn ≤ 9
      · have HLK := Lib.hid (fun V (hV : Below wr.heap.size wr V) => ((hmv.out.below hV).look keyed_u8 Try.underlying71 (zero_do V) (key_u8 HFN.out) (do_in h19)).1)
        rw [← may_fits h19] at HFIT
        obtain ⟨f, sa, sb, sd, sn, tx, li⟩ := s
        dsimp only at x0 x1 x2 x3 x4 x5 x6 HFIT HDO HLK HFN
        have hcf := call_do f
        generalize doF f = df at *
        generalize refsOf f = dr at *
        generalize namesN f = dn at *
        generalize namesT f = dt at *
        generalize namesL f = dl at *
        generalize li.length = r at *
        generalize maySt ⟨f, sa, sb, sd, sn, tx, li⟩ j = my at *
        obtain ⟨W2, hW2, n0, s2, k2, b2⟩ := two_boxes wr #[.int .u8 f, .int .i64 sa, .int .i64 sb, .int .i64 sd, .int .i64 sn, .string tx, .slice lo r lc] #[.int .i64 dr, .bool dn, .bool dt, .bool dl, .func (.func df) #[ptr11 (w.heap.size + 3)] #[]]
        have N0 := Lib.hid n0
        have HW2 := Lib.hid hW2
        have S2 := Lib.hid s2
        have K2 := Lib.hid k2
        have B2 := Lib.hid b2
        clear h19 n0 hW2 s2 k2 b2
        go_wp2_with (first | (refine wpList_store_row rfl 75 _ _ rfl (wr.heap.size + 1) #[.int .i64 dr, .bool dn, .bool dt, .bool dl, .func (.func df) #[ptr11 (w.heap.size + 3)] #[]] rfl rfl 75 #[.int .i64 0, .bool false, .bool false, .bool false, .nilFunc] N0.out (do_info _ _ _ _ _) rfl (do_one _ _ _ _ _ _) ?_; rw [← HW2.out]) | (at_lookup; refine wpList_lookV rfl _ _ 71 false rfl _ _ _ rfl rfl (HLK.out _ ((Below.refl _ _).alloc (Nat.le_refl _) _)) ?_) | fail)
        have HPF : Hid (PfAt w.heap.size W2 (.slice wo wn wc) (.slice ao j cap) L) := Lib.hid (by rw [← HLJ.out]; exact hpf.out.below B2.out)
        have BW2 := Lib.hid (below_step hb.out B2.out)
        have M2 := Lib.hid (hmv.out.below B2.out)
        have KS : W2.cell? ⟨w.heap.size + 4, 0, none⟩ = some (ptr11 (w.heap.size + 3)) ∧ W2.cell? ⟨w.heap.size + 3, 1, none⟩ = some (.slice ao j cap) ∧ W2.cell? ⟨wr.heap.size + 1, 0, none⟩ = some (.int .i64 dr) ∧ W2.cell? ⟨wr.heap.size + 1, 1, none⟩ = some (.bool dn) ∧ W2.cell? ⟨wr.heap.size + 1, 2, none⟩ = some (.bool dt) ∧ W2.cell? ⟨wr.heap.size + 1, 3, none⟩ = some (.bool dl) ∧ W2.cell? ⟨wr.heap.size + 1, 4, none⟩ = some (.func (.func df) #[ptr11 (w.heap.size + 3)] #[]) ∧ W2.cell? ⟨wr.heap.size, 0, none⟩ = some (.int .u8 f) ∧ W2.cell? ⟨wr.heap.size, 1, none⟩ = some (.int .i64 sa) ∧ W2.cell? ⟨wr.heap.size, 2, none⟩ = some (.int .i64 sb) ∧ W2.cell? ⟨wr.heap.size, 3, none⟩ = some (.int .i64 sd) ∧ W2.cell? ⟨wr.heap.size, 4, none⟩ = some (.int .i64 sn) ∧ W2.cell? ⟨wr.heap.size, 5, none⟩ = some (.string tx) ∧ W2.cell? ⟨wr.heap.size, 6, none⟩ = some (.slice lo r lc) :=
          ⟨HPF.out.ptr.cell, cell_of_row _ _ _ _ _ _ HPF.out.run, cell_of_row _ _ _ _ _ _ K2.out, cell_of_row _ _ _ _ _ _ K2.out, cell_of_row _ _ _ _ _ _ K2.out, cell_of_row _ _ _ _ _ _ K2.out, cell_of_row _ _ _ _ _ _ K2.out, cell_of_row _ _ _ _ _ _ S2.out, cell_of_row _ _ _ _ _ _ S2.out, cell_of_row _ _ _ _ _ _ S2.out, cell_of_row _ _ _ _ _ _ S2.out, cell_of_row _ _ _ _ _ _ S2.out, cell_of_row _ _ _ _ _ _ S2.out, cell_of_row _ _ _ _ _ _ S2.out⟩
        have BD : Hid (Below wr.heap.size wr W2.drew) := Lib.hid (below_step B2.out (drew11 W2))
        have HF2 := Lib.hid (HFIT.out W2.drew BD.out)
        have SZ2 := Lib.hid (show wr.heap.size ≤ W2.heap.size from B2.out.size)
        clear hpf hmv x0 x1 x2 x3 x4 x5 x6 N0 HW2 S2 K2 HFIT HLK
        cases my with
        | false =>
          have HH := Lib.hid (HBAD.out rfl)
          clear HDO HONE HBAD HGO HVAL
          refine wp_region_held_drew (S := fun W => W.cell? ⟨w.heap.size + 4, 0, none⟩ = some (ptr11 (w.heap.size + 3)) ∧ W.cell? ⟨w.heap.size + 3, 1, none⟩ = some (.slice ao j cap) ∧ W.cell? ⟨wr.heap.size + 1, 0, none⟩ = some (.int .i64 dr) ∧ W.cell? ⟨wr.heap.size + 1, 1, none⟩ = some (.bool dn) ∧ W.cell? ⟨wr.heap.size + 1, 2, none⟩ = some (.bool dt) ∧ W.cell? ⟨wr.heap.size + 1, 3, none⟩ = some (.bool dl) ∧ W.cell? ⟨wr.heap.size + 1, 4, none⟩ = some (.func (.func df) #[ptr11 (w.heap.size + 3)] #[]) ∧ W.cell? ⟨wr.heap.size, 0, none⟩ = some (.int .u8 f) ∧ W.cell? ⟨wr.heap.size, 1, none⟩ = some (.int .i64 sa) ∧ W.cell? ⟨wr.heap.size, 2, none⟩ = some (.int .i64 sb) ∧ W.cell? ⟨wr.heap.size, 3, none⟩ = some (.int .i64 sd) ∧ W.cell? ⟨wr.heap.size, 4, none⟩ = some (.int .i64 sn) ∧ W.cell? ⟨wr.heap.size, 5, none⟩ = some (.string tx) ∧ W.cell? ⟨wr.heap.size, 6, none⟩ = some (.slice lo r lc)) (by kernel_rfl) (by first | assumption | (exact KS)) (fun hHeld => ?_)
          refine wpAnyH_take (i := 0) (oi := { dst := some 34, op := Op.fieldAddr 75 (Operand.tmp 11) 4, type := 0, pos := "forge.go:136", after := #[], guard := none }) (v := ?_) rfl (by kernel_rfl) (by kernel_rfl) (by kernel_rfl) (fun c a w h => hq11 (k := 34) (by decide) h) (Or.inl ⟨by rfl, ?_⟩) (by assumption) ?_
          rotate_left 1
          · (intro w hSw; (try dsimp only at hSw); go_simp; try with_reducible rfl)
          (try simp only [Act.put, List.setIfInBounds_toArray, List.set_cons_zero, List.set_cons_succ])
          refine wpAnyH_take (i := 1) (oi := { dst := some 35, op := Op.load 73 (Operand.tmp 34), type := 73, pos := "forge.go:136", after := #[{ on := 0, ground := Ground.data }], guard := none }) (v := ?_) rfl (by kernel_rfl) (by kernel_rfl) (by kernel_rfl) (fun c a w h => hq11 (k := 35) (by decide) h) (Or.inl ⟨by rfl, ?_⟩) (by assumption) ?_
          rotate_left 1
          · (intro w hSw; (try dsimp only at hSw); go_simp; try with_reducible rfl)
          (try simp only [Act.put, List.setIfInBounds_toArray, List.set_cons_zero, List.set_cons_succ])
          refine wpAnyH_take (i := 2) (oi := { dst := some 36, op := Op.binOp BinOp.neq 73 (Operand.tmp 35) (Operand.const Value.nilFunc) 73, type := 4, pos := "forge.go:136", after := #[{ on := 1, ground := Ground.data }], guard := none }) (v := ?_) rfl (by kernel_rfl) (by kernel_rfl) (by kernel_rfl) (fun c a w h => hq11 (k := 36) (by decide) h) (Or.inl ⟨by rfl, ?_⟩) (by assumption) ?_
          rotate_left 1
          · (intro w hSw; (try dsimp only at hSw); go_simp; try with_reducible rfl)
          (try simp only [Act.put, List.setIfInBounds_toArray, List.set_cons_zero, List.set_cons_succ])
          refine wpAnyH_take (i := 3) (oi := { dst := some 37, op := Op.move (Operand.tmp 36), type := 4, pos := "forge.go:136", after := #[{ on := 2, ground := Ground.data }], guard := none }) (v := ?_) rfl (by kernel_rfl) (by kernel_rfl) (by kernel_rfl) (fun c a w h => hq11 (k := 37) (by decide) h) (Or.inl ⟨by rfl, ?_⟩) (by assumption) ?_
          rotate_left 1
          · (intro w hSw; (try dsimp only at hSw); go_simp; try with_reducible rfl)
          (try simp only [Act.put, List.setIfInBounds_toArray, List.set_cons_zero, List.set_cons_succ])
          refine wpAnyH_take (i := 4) (oi := { dst := some 38, op := Op.load 75 (Operand.tmp 11), type := 75, pos := "forge.go:136", after := #[{ on := 3, ground := Ground.guard }], guard := some (3, true) }) (v := ?_) rfl (by kernel_rfl) (by kernel_rfl) (by kernel_rfl) (fun c a w h => hq11 (k := 38) (by decide) h) (Or.inl ⟨by rfl, ?_⟩) (by assumption) ?_
          rotate_left 1
          · (intro w hSw; (try dsimp only at hSw); go_simp; try with_reducible rfl)
          (try simp only [Act.put, List.setIfInBounds_toArray, List.set_cons_zero, List.set_cons_succ])
          refine wpAnyH_take (i := 5) (oi := { dst := some 39, op := Op.load 46 (Operand.tmp 10), type := 46, pos := "forge.go:136", after := #[{ on := 3, ground := Ground.guard }], guard := some (3, true) }) (v := ?_) rfl (by kernel_rfl) (by kernel_rfl) (by kernel_rfl) (fun c a w h => hq11 (k := 39) (by decide) h) (Or.inl ⟨by rfl, ?_⟩) (by assumption) ?_
          rotate_left 1
          · (intro w hSw; (try dsimp only at hSw); go_simp; try with_reducible rfl)
          (try simp only [Act.put, List.setIfInBounds_toArray, List.set_cons_zero, List.set_cons_succ])
          refine wpAnyH_take (i := 6) (oi := { dst := some 40, op := Op.load 67 (Operand.tmp 7), type := 67, pos := "forge.go:136", after := #[{ on := 3, ground := Ground.guard }], guard := some (3, true) }) (v := ?_) rfl (by kernel_rfl) (by kernel_rfl) (by kernel_rfl) (fun c a w h => hq11 (k := 40) (by decide) h) (Or.inl ⟨by rfl, ?_⟩) (by assumption) ?_
          rotate_left 1
          · (intro w hSw; (try dsimp only at hSw); go_simp; try with_reducible rfl)
          (try simp only [Act.put, List.setIfInBounds_toArray, List.set_cons_zero, List.set_cons_succ])
          refine wpAnyH_take (i := 7) (oi := { dst := some 41, op := Op.nilCheck (Operand.tmp 40), type := 0, pos := "forge.go:136", after := #[{ on := 6, ground := Ground.data }, { on := 3, ground := Ground.guard }], guard := some (3, true) }) (v := ?_) rfl (by kernel_rfl) (by kernel_rfl) (by kernel_rfl) (fun c a w h => hq11 (k := 41) (by decide) h) (Or.inl ⟨by rfl, ?_⟩) (by assumption) ?_
          rotate_left 1
          · (intro w hSw; (try dsimp only at hSw); go_simp; try with_reducible rfl)
          (try simp only [Act.put, List.setIfInBounds_toArray, List.set_cons_zero, List.set_cons_succ])
          refine wpAnyH_take (i := 8) (oi := { dst := some 42, op := Op.fieldAddr 69 (Operand.tmp 41) 1, type := 0, pos := "forge.go:136", after := #[{ on := 7, ground := Ground.data }, { on := 3, ground := Ground.guard }], guard := some (3, true) }) (v := ?_) rfl (by kernel_rfl) (by kernel_rfl) (by kernel_rfl) (fun c a w h => hq11 (k := 42) (by decide) h) (Or.inl ⟨by rfl, ?_⟩) (by assumption) ?_
          rotate_left 1
          · (intro w hSw; (try dsimp only at hSw); go_simp; try with_reducible rfl)
          (try simp only [Act.put, List.setIfInBounds_toArray, List.set_cons_zero, List.set_cons_succ])
          refine wpAnyH_take (i := 9) (oi := { dst := some 43, op := Op.load 22 (Operand.tmp 42), type := 22, pos := "forge.go:136", after := #[{ on := 8, ground := Ground.data }, { on := 3, ground := Ground.guard }], guard := some (3, true) }) (v := ?_) rfl (by kernel_rfl) (by kernel_rfl) (by kernel_rfl) (fun c a w h => hq11 (k := 43) (by decide) h) (Or.inl ⟨by rfl, ?_⟩) (by assumption) ?_
          rotate_left 1
          · (intro w hSw; (try dsimp only at hSw); go_simp; try with_reducible rfl)
          (try simp only [Act.put, List.setIfInBounds_toArray, List.set_cons_zero, List.set_cons_succ])
          refine wpAnyH_take (i := 10) (oi := { dst := some 44, op := Op.call { callee := Callee.builtin Builtin.len, args := #[Operand.tmp 43], argTypes := #[22] }, type := 3, pos := "forge.go:136", after := #[{ on := 9, ground := Ground.data }, { on := 3, ground := Ground.guard }], guard := some (3, true) }) (v := ?_) rfl (by kernel_rfl) (by kernel_rfl) (by kernel_rfl) (fun c a w h => hq11 (k := 44) (by decide) h) (Or.inl ⟨by rfl, ?_⟩) (by assumption) ?_
          rotate_left 1
          · (intro w hSw; (try dsimp only at hSw); go_simp; try with_reducible rfl)
          (try simp only [Act.put, List.setIfInBounds_toArray, List.set_cons_zero, List.set_cons_succ])
          refine wpAnyH_ready (rs := [11]) (by kernel_rfl) (by simp) ?_
          refine AllReadyH.cons (o := { dst := some 45, op := Op.call { callee := Callee.value (Operand.func 41), args := #[Operand.tmp 38, Operand.tmp 39, Operand.tmp 44], argTypes := #[75, 46, 3] }, type := 4, pos := "forge.go:136", after := #[{ on := 4, ground := Ground.data }, { on := 5, ground := Ground.data }, { on := 10, ground := Ground.data }, { on := 3, ground := Ground.chain }, { on := 3, ground := Ground.guard }], guard := some (3, true) }) rfl (fun K hK => ?_) AllReadyH.nil
          go_simp
          refine HF2.out.mono ?_; rintro e wa ⟨rfl, ba⟩
          refine hK.out _ _ (by exact ⟨cell_keep ba KS.1, cell_keep ba KS.2.1, cell_keep ba KS.2.2.1, cell_keep ba KS.2.2.2.1, cell_keep ba KS.2.2.2.2.1, cell_keep ba KS.2.2.2.2.2.1, cell_keep ba KS.2.2.2.2.2.2.1, cell_keep ba KS.2.2.2.2.2.2.2.1, cell_keep ba KS.2.2.2.2.2.2.2.2.1, cell_keep ba KS.2.2.2.2.2.2.2.2.2.1, cell_keep ba KS.2.2.2.2.2.2.2.2.2.2.1, cell_keep ba KS.2.2.2.2.2.2.2.2.2.2.2.1, cell_keep ba KS.2.2.2.2.2.2.2.2.2.2.2.2.1, cell_keep ba KS.2.2.2.2.2.2.2.2.2.2.2.2.2⟩) (fun hHeld => ?_)
          clear hK K
          (try simp only [Act.put, List.setIfInBounds_toArray, List.set_cons_zero, List.set_cons_succ])
          refine wpAnyH_take (i := 12) (oi := { dst := some 46, op := Op.pick (Operand.tmp 37) (Operand.tmp 45) (Operand.const (Value.bool false)), type := 4, pos := "forge.go:136", after := #[{ on := 3, ground := Ground.data }, { on := 11, ground := Ground.data }], guard := none }) (v := ?_) rfl (by kernel_rfl) (by kernel_rfl) (by kernel_rfl) (fun c a w h => hq11 (k := 46) (by decide) h) (Or.inl ⟨by rfl, ?_⟩) (by assumption) ?_
          rotate_left 1
          · (intro w hSw; (try dsimp only at hSw); go_simp; try with_reducible rfl)
          (try simp only [Act.put, List.setIfInBounds_toArray, List.set_cons_zero, List.set_cons_succ])
          refine wpAnyH_ready (rs := [13]) (by kernel_rfl) (by simp) ?_
          refine AllReadyH.cons (o := { dst := some 47, op := Op.call { callee := Callee.value (Operand.func 40), args := #[Operand.tmp 46, Operand.const (Value.int IntKind.i64 2)], argTypes := #[4, 27] }, type := 0, pos := "forge.go:136", after := #[{ on := 12, ground := Ground.data }, { on := 11, ground := Ground.chain }], guard := none }) rfl (fun K hK => ?_) AllReadyH.nil
          go_simp
          go_at_call 40
          refine (need11_bad 2 _).mono ?_; rintro e w2 ⟨rfl, rfl⟩
          refine leaves_cons (f := 38) (args := #[ptr11 (w.heap.size + 4), ptr11 w.heap.size, ptr11 (w.heap.size + 1), ptr11 (w.heap.size + 2)]) (by simp) (by simp [go_sem]) ?_
          refine perform_boom (z := j) (c := 2) (ao := ao) (cap := cap) (L := L) rfl rfl rfl (by rw [HLJ.out]; exact HPF.out.below (below_step (drew11 W2) ba)) HLJ.out (fun V hV => ?_)
          rw [HH.out]
          exact ⟨⟨_, [], rfl, ownT_nil _ _, rfl⟩, (below_step BW2.out (below_step (drew11 W2) ba)).trans hV⟩
        | true =>
          go_region_held3 (fun W => W.cell? ⟨w.heap.size + 4, 0, none⟩ = some (ptr11 (w.heap.size + 3)) ∧ W.cell? ⟨w.heap.size + 3, 1, none⟩ = some (.slice ao j cap) ∧ W.cell? ⟨wr.heap.size + 1, 0, none⟩ = some (.int .i64 dr) ∧ W.cell? ⟨wr.heap.size + 1, 1, none⟩ = some (.bool dn) ∧ W.cell? ⟨wr.heap.size + 1, 2, none⟩ = some (.bool dt) ∧ W.cell? ⟨wr.heap.size + 1, 3, none⟩ = some (.bool dl) ∧ W.cell? ⟨wr.heap.size + 1, 4, none⟩ = some (.func (.func df) #[ptr11 (w.heap.size + 3)] #[]) ∧ W.cell? ⟨wr.heap.size, 0, none⟩ = some (.int .u8 f) ∧ W.cell? ⟨wr.heap.size, 1, none⟩ = some (.int .i64 sa) ∧ W.cell? ⟨wr.heap.size, 2, none⟩ = some (.int .i64 sb) ∧ W.cell? ⟨wr.heap.size, 3, none⟩ = some (.int .i64 sd) ∧ W.cell? ⟨wr.heap.size, 4, none⟩ = some (.int .i64 sn) ∧ W.cell? ⟨wr.heap.size, 5, none⟩ = some (.string tx) ∧ W.cell? ⟨wr.heap.size, 6, none⟩ = some (.slice lo r lc)) (first | assumption) (first | (go_at_call 41; (with_reducible refine HF2.out.mono ?_); rintro e wa ⟨rfl, ba⟩; have KA : wa.cell? ⟨w.heap.size + 4, 0, none⟩ = some (ptr11 (w.heap.size + 3)) ∧ wa.cell? ⟨w.heap.size + 3, 1, none⟩ = some (.slice ao j cap) ∧ wa.cell? ⟨wr.heap.size + 1, 0, none⟩ = some (.int .i64 dr) ∧ wa.cell? ⟨wr.heap.size + 1, 1, none⟩ = some (.bool dn) ∧ wa.cell? ⟨wr.heap.size + 1, 2, none⟩ = some (.bool dt) ∧ wa.cell? ⟨wr.heap.size + 1, 3, none⟩ = some (.bool dl) ∧ wa.cell? ⟨wr.heap.size + 1, 4, none⟩ = some (.func (.func df) #[ptr11 (w.heap.size + 3)] #[]) ∧ wa.cell? ⟨wr.heap.size, 0, none⟩ = some (.int .u8 f) ∧ wa.cell? ⟨wr.heap.size, 1, none⟩ = some (.int .i64 sa) ∧ wa.cell? ⟨wr.heap.size, 2, none⟩ = some (.int .i64 sb) ∧ wa.cell? ⟨wr.heap.size, 3, none⟩ = some (.int .i64 sd) ∧ wa.cell? ⟨wr.heap.size, 4, none⟩ = some (.int .i64 sn) ∧ wa.cell? ⟨wr.heap.size, 5, none⟩ = some (.string tx) ∧ wa.cell? ⟨wr.heap.size, 6, none⟩ = some (.slice lo r lc) := ⟨cell_keep ba KS.1, cell_keep ba KS.2.1, cell_keep ba KS.2.2.1, cell_keep ba KS.2.2.2.1, cell_keep ba KS.2.2.2.2.1, cell_keep ba KS.2.2.2.2.2.1, cell_keep ba KS.2.2.2.2.2.2.1, cell_keep ba KS.2.2.2.2.2.2.2.1, cell_keep ba KS.2.2.2.2.2.2.2.2.1, cell_keep ba KS.2.2.2.2.2.2.2.2.2.1, cell_keep ba KS.2.2.2.2.2.2.2.2.2.2.1, cell_keep ba KS.2.2.2.2.2.2.2.2.2.2.2.1, cell_keep ba KS.2.2.2.2.2.2.2.2.2.2.2.2.1, cell_keep ba KS.2.2.2.2.2.2.2.2.2.2.2.2.2⟩; have BA := Lib.hid (below_step (drew11 W2) ba); clear ba) | (go_at_call 40; refine (need11_ok 2 _).mono ?_; rintro e w2 ⟨rfl, h2⟩; rw [h2]; clear h2 w2))
          have HD3 := Lib.hid (HDO.out wa.drew (below_step B2.out (below_step BA.out (drew11 wa))) trivial)
          have HPF3 := Lib.hid (HPF.out.below (below_step BA.out (drew11 wa)))
          have M3 := Lib.hid (M2.out.below (below_step BA.out (drew11 wa)))
          have BW3 := Lib.hid (below_step BW2.out (below_step BA.out (drew11 wa)))
          have KS3 : wa.drew.cell? ⟨w.heap.size + 4, 0, none⟩ = some (ptr11 (w.heap.size + 3)) ∧ wa.drew.cell? ⟨wr.heap.size + 1, 4, none⟩ = some (.func (.func df) #[ptr11 (w.heap.size + 3)] #[]) ∧ wa.drew.cell? ⟨wr.heap.size, 0, none⟩ = some (.int .u8 f) ∧ wa.drew.cell? ⟨wr.heap.size, 1, none⟩ = some (.int .i64 sa) ∧ wa.drew.cell? ⟨wr.heap.size, 2, none⟩ = some (.int .i64 sb) ∧ wa.drew.cell? ⟨wr.heap.size, 3, none⟩ = some (.int .i64 sd) ∧ wa.drew.cell? ⟨wr.heap.size, 4, none⟩ = some (.int .i64 sn) ∧ wa.drew.cell? ⟨wr.heap.size, 5, none⟩ = some (.string tx) ∧ wa.drew.cell? ⟨wr.heap.size, 6, none⟩ = some (.slice lo r lc) := ⟨KA.1, KA.2.2.2.2.2.2.1, KA.2.2.2.2.2.2.2.1, KA.2.2.2.2.2.2.2.2.1, KA.2.2.2.2.2.2.2.2.2.1, KA.2.2.2.2.2.2.2.2.2.2.1, KA.2.2.2.2.2.2.2.2.2.2.2.1, KA.2.2.2.2.2.2.2.2.2.2.2.2.1, KA.2.2.2.2.2.2.2.2.2.2.2.2.2⟩
          have cv3 : wa.drew.cell? ⟨w.heap.size + 3, 1, none⟩ = some (.slice ao j cap) := KA.2.1
          have SZ3 : Hid (wr.heap.size + 2 ≤ wa.drew.heap.size) := Lib.hid (World.block_lt_of_cell? _ _ KS3.2.1)
          have NE4 : Hid (some (w.heap.size + 4) ≠ (Value.slice ao j cap).ownBlock ∧ some wr.heap.size ≠ (Value.slice ao j cap).ownBlock ∧ some (wr.heap.size + 1) ≠ (Value.slice ao j cap).ownBlock) := Lib.hid ⟨fun e => by have := (HPF3.out.own.lt _ e.symm).1; omega, fun e => by have := OB.out _ e.symm; omega, fun e => by have := OB.out _ e.symm; omega⟩
          have NE5 : Hid (wr.heap.size + 1 ≠ w.heap.size + 3 ∧ wr.heap.size ≠ w.heap.size + 3) := Lib.hid (by have := HLT.out; omega)
          clear KS KA HF2 BD HPF M2 BW2 BA B2 SZ2 HDO HFN
          obtain ⟨R1, x⟩ := R
          (try dsimp only at HONE HGO HVAL)
          by_cases hx : x = 0
          · subst hx
            have HG := Lib.hid (HGO.out trivial rfl)
            have HV := Lib.hid (HVAL.out trivial rfl)
            have HLL : Hid (L.length ≤ 1000000000) := Lib.hid (by have := HMS.out; rw [HLJ.out]; omega)
            have HD4 : Hid (Calls Try.prog df #[ptr11 (w.heap.size + 3), .agg #[.int .u8 f, .int .i64 sa, .int .i64 sb, .int .i64 sd, .int .i64 sn, .string tx, .slice lo r lc]] wa.drew fun e w' => e = .returned (.string (tb11 R1)) ∧ Below wa.drew.heap.size wa.drew w') := Lib.hid (HD3.out.mono (fun e w' h => ⟨h.1, h.2⟩))
            clear HONE HGO HVAL HD3
            (try dsimp only at HG HV)
            generalize tb11 R1 = z at *
            go_wp2_with fail
            refine wp_region_held_drew (S := fun W => W.cell? ⟨w.heap.size + 4, 0, none⟩ = some (ptr11 (w.heap.size + 3)) ∧ W.cell? ⟨wr.heap.size + 1, 4, none⟩ = some (.func (.func df) #[ptr11 (w.heap.size + 3)] #[]) ∧ W.cell? ⟨wr.heap.size, 0, none⟩ = some (.int .u8 f) ∧ W.cell? ⟨wr.heap.size, 1, none⟩ = some (.int .i64 sa) ∧ W.cell? ⟨wr.heap.size, 2, none⟩ = some (.int .i64 sb) ∧ W.cell? ⟨wr.heap.size, 3, none⟩ = some (.int .i64 sd) ∧ W.cell? ⟨wr.heap.size, 4, none⟩ = some (.int .i64 sn) ∧ W.cell? ⟨wr.heap.size, 5, none⟩ = some (.string tx) ∧ W.cell? ⟨wr.heap.size, 6, none⟩ = some (.slice lo r lc)) (by kernel_rfl) (by first | assumption | (exact KS3)) (fun hHeld => ?_)
            refine wpAnyH_take (i := 0) (oi := { dst := some 48, op := Op.load 67 (Operand.tmp 7), type := 67, pos := "forge.go:137", after := #[], guard := none }) (v := ?_) rfl (by kernel_rfl) (by kernel_rfl) (by kernel_rfl) (fun c a w h => hq11 (k := 48) (by decide) h) (Or.inl ⟨by rfl, ?_⟩) (by assumption) ?_
            rotate_left 1
            · (intro w hSw; (try dsimp only at hSw); go_simp; try with_reducible rfl)
            (try simp only [Act.put, List.setIfInBounds_toArray, List.set_cons_zero, List.set_cons_succ])
            refine wpAnyH_take (i := 1) (oi := { dst := some 49, op := Op.load 67 (Operand.tmp 7), type := 67, pos := "forge.go:137", after := #[], guard := none }) (v := ?_) rfl (by kernel_rfl) (by kernel_rfl) (by kernel_rfl) (fun c a w h => hq11 (k := 49) (by decide) h) (Or.inl ⟨by rfl, ?_⟩) (by assumption) ?_
            rotate_left 1
            · (intro w hSw; (try dsimp only at hSw); go_simp; try with_reducible rfl)
            (try simp only [Act.put, List.setIfInBounds_toArray, List.set_cons_zero, List.set_cons_succ])
            refine wpAnyH_take (i := 2) (oi := { dst := some 50, op := Op.nilCheck (Operand.tmp 49), type := 0, pos := "forge.go:137", after := #[{ on := 1, ground := Ground.data }], guard := none }) (v := ?_) rfl (by kernel_rfl) (by kernel_rfl) (by kernel_rfl) (fun c a w h => hq11 (k := 50) (by decide) h) (Or.inl ⟨by rfl, ?_⟩) (by assumption) ?_
            rotate_left 1
            · (intro w hSw; (try dsimp only at hSw); go_simp; try with_reducible rfl)
            (try simp only [Act.put, List.setIfInBounds_toArray, List.set_cons_zero, List.set_cons_succ])
            refine wpAnyH_take (i := 3) (oi := { dst := some 51, op := Op.fieldAddr 69 (Operand.tmp 50) 1, type := 0, pos := "forge.go:137", after := #[{ on := 2, ground := Ground.data }], guard := none }) (v := ?_) rfl (by kernel_rfl) (by kernel_rfl) (by kernel_rfl) (fun c a w h => hq11 (k := 51) (by decide) h) (Or.inl ⟨by rfl, ?_⟩) (by assumption) ?_
            rotate_left 1
            · (intro w hSw; (try dsimp only at hSw); go_simp; try with_reducible rfl)
            (try simp only [Act.put, List.setIfInBounds_toArray, List.set_cons_zero, List.set_cons_succ])
            refine wpAnyH_take (i := 5) (oi := { dst := some 53, op := Op.fieldAddr 75 (Operand.tmp 11) 4, type := 0, pos := "forge.go:137", after := #[], guard := none }) (v := ?_) rfl (by kernel_rfl) (by kernel_rfl) (by kernel_rfl) (fun c a w h => hq11 (k := 53) (by decide) h) (Or.inl ⟨by rfl, ?_⟩) (by assumption) ?_
            rotate_left 1
            · (intro w hSw; (try dsimp only at hSw); go_simp; try with_reducible rfl)
            (try simp only [Act.put, List.setIfInBounds_toArray, List.set_cons_zero, List.set_cons_succ])
            refine wpAnyH_take (i := 6) (oi := { dst := some 54, op := Op.load 73 (Operand.tmp 53), type := 73, pos := "forge.go:137", after := #[{ on := 5, ground := Ground.data }], guard := none }) (v := ?_) rfl (by kernel_rfl) (by kernel_rfl) (by kernel_rfl) (fun c a w h => hq11 (k := 54) (by decide) h) (Or.inl ⟨by rfl, ?_⟩) (by assumption) ?_
            rotate_left 1
            · (intro w hSw; (try dsimp only at hSw); go_simp; try with_reducible rfl)
            (try simp only [Act.put, List.setIfInBounds_toArray, List.set_cons_zero, List.set_cons_succ])
            refine wpAnyH_take (i := 7) (oi := { dst := some 55, op := Op.load 46 (Operand.tmp 10), type := 46, pos := "forge.go:137", after := #[], guard := none }) (v := ?_) rfl (by kernel_rfl) (by kernel_rfl) (by kernel_rfl) (fun c a w h => hq11 (k := 55) (by decide) h) (Or.inl ⟨by rfl, ?_⟩) (by assumption) ?_
            rotate_left 1
            · (intro w hSw; (try dsimp only at hSw); go_simp; try with_reducible rfl)
            (try simp only [Act.put, List.setIfInBounds_toArray, List.set_cons_zero, List.set_cons_succ])
            refine wpAnyH_ready (rs := [4, 8]) (by kernel_rfl) (by simp) ?_
            refine AllReadyH.cons (o := { dst := some 52, op := Op.load 22 (Operand.tmp 51), type := 22, pos := "forge.go:137", after := #[{ on := 3, ground := Ground.data }], guard := none }) rfl (fun K hK => ?_) ?_
            · go_simp
              refine hK.out _ _ (by exact KS3) (fun hHeld => ?_)
              clear hK K
              (try simp only [Act.put, List.setIfInBounds_toArray, List.set_cons_zero, List.set_cons_succ])
              refine wpAnyH_ready (rs := [8]) (by kernel_rfl) (by simp) ?_
              refine AllReadyH.cons (o := { dst := some 56, op := Op.call { callee := Callee.value (Operand.tmp 54), args := #[Operand.tmp 55], argTypes := #[46] }, type := 9, pos := "forge.go:137", after := #[{ on := 6, ground := Ground.data }, { on := 7, ground := Ground.data }], guard := none }) rfl (fun K hK => ?_) AllReadyH.nil
              go_simp
              refine HD4.out.mono ?_; rintro e w4 ⟨rfl, b4⟩
              have KS4 : w4.cell? ⟨w.heap.size + 4, 0, none⟩ = some (ptr11 (w.heap.size + 3)) ∧ w4.cell? ⟨wr.heap.size + 1, 4, none⟩ = some (.func (.func df) #[ptr11 (w.heap.size + 3)] #[]) ∧ w4.cell? ⟨wr.heap.size, 0, none⟩ = some (.int .u8 f) ∧ w4.cell? ⟨wr.heap.size, 1, none⟩ = some (.int .i64 sa) ∧ w4.cell? ⟨wr.heap.size, 2, none⟩ = some (.int .i64 sb) ∧ w4.cell? ⟨wr.heap.size, 3, none⟩ = some (.int .i64 sd) ∧ w4.cell? ⟨wr.heap.size, 4, none⟩ = some (.int .i64 sn) ∧ w4.cell? ⟨wr.heap.size, 5, none⟩ = some (.string tx) ∧ w4.cell? ⟨wr.heap.size, 6, none⟩ = some (.slice lo r lc) := ⟨cell_keep b4 KS3.1, cell_keep b4 KS3.2.1, cell_keep b4 KS3.2.2.1, cell_keep b4 KS3.2.2.2.1, cell_keep b4 KS3.2.2.2.2.1, cell_keep b4 KS3.2.2.2.2.2.1, cell_keep b4 KS3.2.2.2.2.2.2.1, cell_keep b4 KS3.2.2.2.2.2.2.2.1, cell_keep b4 KS3.2.2.2.2.2.2.2.2⟩
              have cv4 := cell_keep b4 cv3
              have O4 := Lib.hid (ownT_below HPF3.out.own b4)
              have P4 := Lib.hid (HPF3.out.below b4)
              have M4 := Lib.hid (M3.out.below b4)
              have B4 := Lib.hid (below_step BW3.out b4)
              have SZ4 := Lib.hid (Nat.le_trans HPF3.out.lt b4.size)
              clear b4
              refine hK.out _ _ (by exact KS4) (fun hHeld => ?_)
              clear hK K
              (try simp only [Act.put, List.setIfInBounds_toArray, List.set_cons_zero, List.set_cons_succ])
              refine wpAnyH_ready (rs := [9]) (by kernel_rfl) (by simp) ?_
              refine AllReadyH.cons (o := { dst := some 57, op := Op.buildSlice 22 1 #[(0, Operand.tmp 56)], type := 22, pos := "forge.go:137", after := #[{ on := 8, ground := Ground.data }], guard := none }) rfl (fun K hK => ?_) AllReadyH.nil
              go_simp
              refine hK.out _ _ (by exact ⟨cell_keep ((Below.refl _ _).alloc (Nat.le_refl _) _) KS4.1, cell_keep ((Below.refl _ _).alloc (Nat.le_refl _) _) KS4.2.1, cell_keep ((Below.refl _ _).alloc (Nat.le_refl _) _) KS4.2.2.1, cell_keep ((Below.refl _ _).alloc (Nat.le_refl _) _) KS4.2.2.2.1, cell_keep ((Below.refl _ _).alloc (Nat.le_refl _) _) KS4.2.2.2.2.1, cell_keep ((Below.refl _ _).alloc (Nat.le_refl _) _) KS4.2.2.2.2.2.1, cell_keep ((Below.refl _ _).alloc (Nat.le_refl _) _) KS4.2.2.2.2.2.2.1, cell_keep ((Below.refl _ _).alloc (Nat.le_refl _) _) KS4.2.2.2.2.2.2.2.1, cell_keep ((Below.refl _ _).alloc (Nat.le_refl _) _) KS4.2.2.2.2.2.2.2.2⟩) (fun hHeld => ?_)
              clear hK K
              (try simp only [Act.put, List.setIfInBounds_toArray, List.set_cons_zero, List.set_cons_succ])
              refine wpAnyH_ready (rs := [10]) (by kernel_rfl) (by simp) ?_
              refine AllReadyH.cons (o := { dst := some 58, op := Op.call { callee := Callee.builtin Builtin.append, args := #[Operand.tmp 52, Operand.tmp 57], argTypes := #[22, 22] }, type := 22, pos := "forge.go:137", after := #[{ on := 4, ground := Ground.data }, { on := 9, ground := Ground.data }, { on := 8, ground := Ground.chain }], guard := none }) rfl (fun K hK => ?_) AllReadyH.nil
              refine wpOp_app11 (W1 := w4) (n₀ := w.heap.size + 5) (v := .slice ao j cap) (l := L) (by rfl) _ _ rfl rfl z rfl rfl O4.out SZ4.out HLL.out ?_
              intro v5 w5 ho5 hg5
              refine hK.out _ _ (by exact ⟨cell_grown hg5 (World.block_lt_of_cell? _ _ KS4.1) (NE4.out.1) KS4.1, cell_grown hg5 (World.block_lt_of_cell? _ _ KS4.2.1) (NE4.out.2.2) KS4.2.1, cell_grown hg5 (World.block_lt_of_cell? _ _ KS4.2.2.1) (NE4.out.2.1) KS4.2.2.1, cell_grown hg5 (World.block_lt_of_cell? _ _ KS4.2.2.2.1) (NE4.out.2.1) KS4.2.2.2.1, cell_grown hg5 (World.block_lt_of_cell? _ _ KS4.2.2.2.2.1) (NE4.out.2.1) KS4.2.2.2.2.1, cell_grown hg5 (World.block_lt_of_cell? _ _ KS4.2.2.2.2.2.1) (NE4.out.2.1) KS4.2.2.2.2.2.1, cell_grown hg5 (World.block_lt_of_cell? _ _ KS4.2.2.2.2.2.2.1) (NE4.out.2.1) KS4.2.2.2.2.2.2.1, cell_grown hg5 (World.block_lt_of_cell? _ _ KS4.2.2.2.2.2.2.2.1) (NE4.out.2.1) KS4.2.2.2.2.2.2.2.1, cell_grown hg5 (World.block_lt_of_cell? _ _ KS4.2.2.2.2.2.2.2.2) (NE4.out.2.1) KS4.2.2.2.2.2.2.2.2⟩) (fun hHeld => ?_)
              clear hK K
              (try simp only [Act.put, List.setIfInBounds_toArray, List.set_cons_zero, List.set_cons_succ])
              have hPM := pf_push P4.out M4.out ho5 hg5
              have PF9 := Lib.hid hPM.1
              have M9 := Lib.hid hPM.2.1
              have B9 := Lib.hid (B4.out.trans hPM.2.2)
              have r31 := run_row P4.out hg5
              have c31 := cell_of_row _ _ 1 _ _ _ r31
              have f31 : w5.frozen? ⟨w.heap.size + 3, 1, none⟩ = false := frozen_row r31
              obtain ⟨a5, c5, rfl, _⟩ := ownT_row ho5
              have KS5 : w5.cell? ⟨w.heap.size + 4, 0, none⟩ = some (ptr11 (w.heap.size + 3)) ∧ w5.cell? ⟨wr.heap.size + 1, 4, none⟩ = some (.func (.func df) #[ptr11 (w.heap.size + 3)] #[]) ∧ w5.cell? ⟨wr.heap.size, 0, none⟩ = some (.int .u8 f) ∧ w5.cell? ⟨wr.heap.size, 1, none⟩ = some (.int .i64 sa) ∧ w5.cell? ⟨wr.heap.size, 2, none⟩ = some (.int .i64 sb) ∧ w5.cell? ⟨wr.heap.size, 3, none⟩ = some (.int .i64 sd) ∧ w5.cell? ⟨wr.heap.size, 4, none⟩ = some (.int .i64 sn) ∧ w5.cell? ⟨wr.heap.size, 5, none⟩ = some (.string tx) ∧ w5.cell? ⟨wr.heap.size, 6, none⟩ = some (.slice lo r lc) := ⟨cell_grown hg5 (World.block_lt_of_cell? _ _ KS4.1) (NE4.out.1) KS4.1, cell_grown hg5 (World.block_lt_of_cell? _ _ KS4.2.1) (NE4.out.2.2) KS4.2.1, cell_grown hg5 (World.block_lt_of_cell? _ _ KS4.2.2.1) (NE4.out.2.1) KS4.2.2.1, cell_grown hg5 (World.block_lt_of_cell? _ _ KS4.2.2.2.1) (NE4.out.2.1) KS4.2.2.2.1, cell_grown hg5 (World.block_lt_of_cell? _ _ KS4.2.2.2.2.1) (NE4.out.2.1) KS4.2.2.2.2.1, cell_grown hg5 (World.block_lt_of_cell? _ _ KS4.2.2.2.2.2.1) (NE4.out.2.1) KS4.2.2.2.2.2.1, cell_grown hg5 (World.block_lt_of_cell? _ _ KS4.2.2.2.2.2.2.1) (NE4.out.2.1) KS4.2.2.2.2.2.2.1, cell_grown hg5 (World.block_lt_of_cell? _ _ KS4.2.2.2.2.2.2.2.1) (NE4.out.2.1) KS4.2.2.2.2.2.2.2.1, cell_grown hg5 (World.block_lt_of_cell? _ _ KS4.2.2.2.2.2.2.2.2) (NE4.out.2.1) KS4.2.2.2.2.2.2.2.2⟩
              clear hPM ho5 hg5 r31 KS4
              rw [show (L ++ [z]).length = j + 1 by rw [List.length_append, HLJ.out]; rfl] at PF9 M9 B9 ⊢
              refine wpAnyH_take (i := 11) (oi := { dst := some 59, op := Op.nilCheck (Operand.tmp 48), type := 0, pos := "forge.go:137", after := #[{ on := 0, ground := Ground.data }, { on := 0, ground := Ground.phase }, { on := 1, ground := Ground.phase }, { on := 2, ground := Ground.phase }, { on := 3, ground := Ground.phase }, { on := 4, ground := Ground.phase }, { on := 5, ground := Ground.phase }, { on := 6, ground := Ground.phase }, { on := 7, ground := Ground.phase }, { on := 8, ground := Ground.phase }, { on := 9, ground := Ground.phase }, { on := 10, ground := Ground.phase }], guard := none }) (v := ?_) rfl (by kernel_rfl) (by kernel_rfl) (by kernel_rfl) (fun c a w h => hq11 (k := 59) (by decide) h) (Or.inl ⟨by rfl, ?_⟩) (by assumption) ?_
              rotate_left 1
              · (intro w hSw; (try dsimp only at hSw); go_simp; try with_reducible rfl)
              (try simp only [Act.put, List.setIfInBounds_toArray, List.set_cons_zero, List.set_cons_succ])
              refine wpAnyH_take (i := 12) (oi := { dst := some 60, op := Op.fieldAddr 69 (Operand.tmp 59) 1, type := 0, pos := "forge.go:137", after := #[{ on := 11, ground := Ground.data }, { on := 0, ground := Ground.phase }, { on := 1, ground := Ground.phase }, { on := 2, ground := Ground.phase }, { on := 3, ground := Ground.phase }, { on := 4, ground := Ground.phase }, { on := 5, ground := Ground.phase }, { on := 6, ground := Ground.phase }, { on := 7, ground := Ground.phase }, { on := 8, ground := Ground.phase }, { on := 9, ground := Ground.phase }, { on := 10, ground := Ground.phase }], guard := none }) (v := ?_) rfl (by kernel_rfl) (by kernel_rfl) (by kernel_rfl) (fun c a w h => hq11 (k := 60) (by decide) h) (Or.inl ⟨by rfl, ?_⟩) (by assumption) ?_
              rotate_left 1
              · (intro w hSw; (try dsimp only at hSw); go_simp; try with_reducible rfl)
              (try simp only [Act.put, List.setIfInBounds_toArray, List.set_cons_zero, List.set_cons_succ])
              refine wpAnyH_ready (rs := [13]) (by kernel_rfl) (by simp) ?_
              refine AllReadyH.cons (o := { dst := none, op := Op.store 22 (Operand.tmp 60) (Operand.tmp 58), type := 0, pos := "forge.go:137", after := #[{ on := 12, ground := Ground.data }, { on := 10, ground := Ground.data }, { on := 10, ground := Ground.chain }, { on := 0, ground := Ground.phase }, { on := 1, ground := Ground.phase }, { on := 2, ground := Ground.phase }, { on := 3, ground := Ground.phase }, { on := 4, ground := Ground.phase }, { on := 5, ground := Ground.phase }, { on := 6, ground := Ground.phase }, { on := 7, ground := Ground.phase }, { on := 8, ground := Ground.phase }, { on := 9, ground := Ground.phase }, { on := 10, ground := Ground.phase }], guard := none }) rfl (fun K hK => ?_) AllReadyH.nil
              go_simp
              refine hK.out _ _ (by exact ⟨cell_set (by show w.heap.size + 4 ≠ w.heap.size + 3; omega) KS5.1, cell_set NE5.out.1 KS5.2.1, cell_set NE5.out.2 KS5.2.2.1, cell_set NE5.out.2 KS5.2.2.2.1, cell_set NE5.out.2 KS5.2.2.2.2.1, cell_set NE5.out.2 KS5.2.2.2.2.2.1, cell_set NE5.out.2 KS5.2.2.2.2.2.2.1, cell_set NE5.out.2 KS5.2.2.2.2.2.2.2.1, cell_set NE5.out.2 KS5.2.2.2.2.2.2.2.2⟩) (fun hHeld => ?_)
              clear hK K
              (try simp only [Act.put, List.setIfInBounds_toArray, List.set_cons_zero, List.set_cons_succ])
              refine wpAnyH_done (by kernel_rfl) ?_ _
              go_wp2_with fail
              go_roundw
              case rel => exact ⟨j + 1, _, L ++ [z], by go_num, by omega, by rw [List.length_append, HLJ.out]; rfl, PF9, M9, HV, HG, B9⟩
              case measure => simp [intOf]; omega
            refine AllReadyH.cons (o := { dst := some 56, op := Op.call { callee := Callee.value (Operand.tmp 54), args := #[Operand.tmp 55], argTypes := #[46] }, type := 9, pos := "forge.go:137", after := #[{ on := 6, ground := Ground.data }, { on := 7, ground := Ground.data }], guard := none }) rfl (fun K hK => ?_) AllReadyH.nil
            go_simp
            refine HD4.out.mono ?_; rintro e w4 ⟨rfl, b4⟩
            have KS4 : w4.cell? ⟨w.heap.size + 4, 0, none⟩ = some (ptr11 (w.heap.size + 3)) ∧ w4.cell? ⟨wr.heap.size + 1, 4, none⟩ = some (.func (.func df) #[ptr11 (w.heap.size + 3)] #[]) ∧ w4.cell? ⟨wr.heap.size, 0, none⟩ = some (.int .u8 f) ∧ w4.cell? ⟨wr.heap.size, 1, none⟩ = some (.int .i64 sa) ∧ w4.cell? ⟨wr.heap.size, 2, none⟩ = some (.int .i64 sb) ∧ w4.cell? ⟨wr.heap.size, 3, none⟩ = some (.int .i64 sd) ∧ w4.cell? ⟨wr.heap.size, 4, none⟩ = some (.int .i64 sn) ∧ w4.cell? ⟨wr.heap.size, 5, none⟩ = some (.string tx) ∧ w4.cell? ⟨wr.heap.size, 6, none⟩ = some (.slice lo r lc) := ⟨cell_keep b4 KS3.1, cell_keep b4 KS3.2.1, cell_keep b4 KS3.2.2.1, cell_keep b4 KS3.2.2.2.1, cell_keep b4 KS3.2.2.2.2.1, cell_keep b4 KS3.2.2.2.2.2.1, cell_keep b4 KS3.2.2.2.2.2.2.1, cell_keep b4 KS3.2.2.2.2.2.2.2.1, cell_keep b4 KS3.2.2.2.2.2.2.2.2⟩
            have cv4 := cell_keep b4 cv3
            have O4 := Lib.hid (ownT_below HPF3.out.own b4)
            have P4 := Lib.hid (HPF3.out.below b4)
            have M4 := Lib.hid (M3.out.below b4)
            have B4 := Lib.hid (below_step BW3.out b4)
            have SZ4 := Lib.hid (Nat.le_trans HPF3.out.lt b4.size)
            clear b4
            refine hK.out _ _ (by exact KS4) (fun hHeld => ?_)
            clear hK K
            (try simp only [Act.put, List.setIfInBounds_toArray, List.set_cons_zero, List.set_cons_succ])
            refine wpAnyH_ready (rs := [4, 9]) (by kernel_rfl) (by simp) ?_
            refine AllReadyH.cons (o := { dst := some 52, op := Op.load 22 (Operand.tmp 51), type := 22, pos := "forge.go:137", after := #[{ on := 3, ground := Ground.data }], guard := none }) rfl (fun K hK => ?_) ?_
            · go_simp
              refine hK.out _ _ (by exact KS4) (fun hHeld => ?_)
              clear hK K
              (try simp only [Act.put, List.setIfInBounds_toArray, List.set_cons_zero, List.set_cons_succ])
              refine wpAnyH_ready (rs := [9]) (by kernel_rfl) (by simp) ?_
              refine AllReadyH.cons (o := { dst := some 57, op := Op.buildSlice 22 1 #[(0, Operand.tmp 56)], type := 22, pos := "forge.go:137", after := #[{ on := 8, ground := Ground.data }], guard := none }) rfl (fun K hK => ?_) AllReadyH.nil
              go_simp
              refine hK.out _ _ (by exact ⟨cell_keep ((Below.refl _ _).alloc (Nat.le_refl _) _) KS4.1, cell_keep ((Below.refl _ _).alloc (Nat.le_refl _) _) KS4.2.1, cell_keep ((Below.refl _ _).alloc (Nat.le_refl _) _) KS4.2.2.1, cell_keep ((Below.refl _ _).alloc (Nat.le_refl _) _) KS4.2.2.2.1, cell_keep ((Below.refl _ _).alloc (Nat.le_refl _) _) KS4.2.2.2.2.1, cell_keep ((Below.refl _ _).alloc (Nat.le_refl _) _) KS4.2.2.2.2.2.1, cell_keep ((Below.refl _ _).alloc (Nat.le_refl _) _) KS4.2.2.2.2.2.2.1, cell_keep ((Below.refl _ _).alloc (Nat.le_refl _) _) KS4.2.2.2.2.2.2.2.1, cell_keep ((Below.refl _ _).alloc (Nat.le_refl _) _) KS4.2.2.2.2.2.2.2.2⟩) (fun hHeld => ?_)
              clear hK K
              (try simp only [Act.put, List.setIfInBounds_toArray, List.set_cons_zero, List.set_cons_succ])
              refine wpAnyH_ready (rs := [10]) (by kernel_rfl) (by simp) ?_
              refine AllReadyH.cons (o := { dst := some 58, op := Op.call { callee := Callee.builtin Builtin.append, args := #[Operand.tmp 52, Operand.tmp 57], argTypes := #[22, 22] }, type := 22, pos := "forge.go:137", after := #[{ on := 4, ground := Ground.data }, { on := 9, ground := Ground.data }, { on := 8, ground := Ground.chain }], guard := none }) rfl (fun K hK => ?_) AllReadyH.nil
              refine wpOp_app11 (W1 := w4) (n₀ := w.heap.size + 5) (v := .slice ao j cap) (l := L) (by rfl) _ _ rfl rfl z rfl rfl O4.out SZ4.out HLL.out ?_
              intro v5 w5 ho5 hg5
              refine hK.out _ _ (by exact ⟨cell_grown hg5 (World.block_lt_of_cell? _ _ KS4.1) (NE4.out.1) KS4.1, cell_grown hg5 (World.block_lt_of_cell? _ _ KS4.2.1) (NE4.out.2.2) KS4.2.1, cell_grown hg5 (World.block_lt_of_cell? _ _ KS4.2.2.1) (NE4.out.2.1) KS4.2.2.1, cell_grown hg5 (World.block_lt_of_cell? _ _ KS4.2.2.2.1) (NE4.out.2.1) KS4.2.2.2.1, cell_grown hg5 (World.block_lt_of_cell? _ _ KS4.2.2.2.2.1) (NE4.out.2.1) KS4.2.2.2.2.1, cell_grown hg5 (World.block_lt_of_cell? _ _ KS4.2.2.2.2.2.1) (NE4.out.2.1) KS4.2.2.2.2.2.1, cell_grown hg5 (World.block_lt_of_cell? _ _ KS4.2.2.2.2.2.2.1) (NE4.out.2.1) KS4.2.2.2.2.2.2.1, cell_grown hg5 (World.block_lt_of_cell? _ _ KS4.2.2.2.2.2.2.2.1) (NE4.out.2.1) KS4.2.2.2.2.2.2.2.1, cell_grown hg5 (World.block_lt_of_cell? _ _ KS4.2.2.2.2.2.2.2.2) (NE4.out.2.1) KS4.2.2.2.2.2.2.2.2⟩) (fun hHeld => ?_)
              clear hK K
              (try simp only [Act.put, List.setIfInBounds_toArray, List.set_cons_zero, List.set_cons_succ])
              have hPM := pf_push P4.out M4.out ho5 hg5
              have PF9 := Lib.hid hPM.1
              have M9 := Lib.hid hPM.2.1
              have B9 := Lib.hid (B4.out.trans hPM.2.2)
              have r31 := run_row P4.out hg5
              have c31 := cell_of_row _ _ 1 _ _ _ r31
              have f31 : w5.frozen? ⟨w.heap.size + 3, 1, none⟩ = false := frozen_row r31
              obtain ⟨a5, c5, rfl, _⟩ := ownT_row ho5
              have KS5 : w5.cell? ⟨w.heap.size + 4, 0, none⟩ = some (ptr11 (w.heap.size + 3)) ∧ w5.cell? ⟨wr.heap.size + 1, 4, none⟩ = some (.func (.func df) #[ptr11 (w.heap.size + 3)] #[]) ∧ w5.cell? ⟨wr.heap.size, 0, none⟩ = some (.int .u8 f) ∧ w5.cell? ⟨wr.heap.size, 1, none⟩ = some (.int .i64 sa) ∧ w5.cell? ⟨wr.heap.size, 2, none⟩ = some (.int .i64 sb) ∧ w5.cell? ⟨wr.heap.size, 3, none⟩ = some (.int .i64 sd) ∧ w5.cell? ⟨wr.heap.size, 4, none⟩ = some (.int .i64 sn) ∧ w5.cell? ⟨wr.heap.size, 5, none⟩ = some (.string tx) ∧ w5.cell? ⟨wr.heap.size, 6, none⟩ = some (.slice lo r lc) := ⟨cell_grown hg5 (World.block_lt_of_cell? _ _ KS4.1) (NE4.out.1) KS4.1, cell_grown hg5 (World.block_lt_of_cell? _ _ KS4.2.1) (NE4.out.2.2) KS4.2.1, cell_grown hg5 (World.block_lt_of_cell? _ _ KS4.2.2.1) (NE4.out.2.1) KS4.2.2.1, cell_grown hg5 (World.block_lt_of_cell? _ _ KS4.2.2.2.1) (NE4.out.2.1) KS4.2.2.2.1, cell_grown hg5 (World.block_lt_of_cell? _ _ KS4.2.2.2.2.1) (NE4.out.2.1) KS4.2.2.2.2.1, cell_grown hg5 (World.block_lt_of_cell? _ _ KS4.2.2.2.2.2.1) (NE4.out.2.1) KS4.2.2.2.2.2.1, cell_grown hg5 (World.block_lt_of_cell? _ _ KS4.2.2.2.2.2.2.1) (NE4.out.2.1) KS4.2.2.2.2.2.2.1, cell_grown hg5 (World.block_lt_of_cell? _ _ KS4.2.2.2.2.2.2.2.1) (NE4.out.2.1) KS4.2.2.2.2.2.2.2.1, cell_grown hg5 (World.block_lt_of_cell? _ _ KS4.2.2.2.2.2.2.2.2) (NE4.out.2.1) KS4.2.2.2.2.2.2.2.2⟩
              clear hPM ho5 hg5 r31 KS4
              rw [show (L ++ [z]).length = j + 1 by rw [List.length_append, HLJ.out]; rfl] at PF9 M9 B9 ⊢
              refine wpAnyH_take (i := 11) (oi := { dst := some 59, op := Op.nilCheck (Operand.tmp 48), type := 0, pos := "forge.go:137", after := #[{ on := 0, ground := Ground.data }, { on := 0, ground := Ground.phase }, { on := 1, ground := Ground.phase }, { on := 2, ground := Ground.phase }, { on := 3, ground := Ground.phase }, { on := 4, ground := Ground.phase }, { on := 5, ground := Ground.phase }, { on := 6, ground := Ground.phase }, { on := 7, ground := Ground.phase }, { on := 8, ground := Ground.phase }, { on := 9, ground := Ground.phase }, { on := 10, ground := Ground.phase }], guard := none }) (v := ?_) rfl (by kernel_rfl) (by kernel_rfl) (by kernel_rfl) (fun c a w h => hq11 (k := 59) (by decide) h) (Or.inl ⟨by rfl, ?_⟩) (by assumption) ?_
              rotate_left 1
              · (intro w hSw; (try dsimp only at hSw); go_simp; try with_reducible rfl)
              (try simp only [Act.put, List.setIfInBounds_toArray, List.set_cons_zero, List.set_cons_succ])
              refine wpAnyH_take (i := 12) (oi := { dst := some 60, op := Op.fieldAddr 69 (Operand.tmp 59) 1, type := 0, pos := "forge.go:137", after := #[{ on := 11, ground := Ground.data }, { on := 0, ground := Ground.phase }, { on := 1, ground := Ground.phase }, { on := 2, ground := Ground.phase }, { on := 3, ground := Ground.phase }, { on := 4, ground := Ground.phase }, { on := 5, ground := Ground.phase }, { on := 6, ground := Ground.phase }, { on := 7, ground := Ground.phase }, { on := 8, ground := Ground.phase }, { on := 9, ground := Ground.phase }, { on := 10, ground := Ground.phase }], guard := none }) (v := ?_) rfl (by kernel_rfl) (by kernel_rfl) (by kernel_rfl) (fun c a w h => hq11 (k := 60) (by decide) h) (Or.inl ⟨by rfl, ?_⟩) (by assumption) ?_
              rotate_left 1
              · (intro w hSw; (try dsimp only at hSw); go_simp; try with_reducible rfl)
              (try simp only [Act.put, List.setIfInBounds_toArray, List.set_cons_zero, List.set_cons_succ])
              refine wpAnyH_ready (rs := [13]) (by kernel_rfl) (by simp) ?_
              refine AllReadyH.cons (o := { dst := none, op := Op.store 22 (Operand.tmp 60) (Operand.tmp 58), type := 0, pos := "forge.go:137", after := #[{ on := 12, ground := Ground.data }, { on := 10, ground := Ground.data }, { on := 10, ground := Ground.chain }, { on := 0, ground := Ground.phase }, { on := 1, ground := Ground.phase }, { on := 2, ground := Ground.phase }, { on := 3, ground := Ground.phase }, { on := 4, ground := Ground.phase }, { on := 5, ground := Ground.phase }, { on := 6, ground := Ground.phase }, { on := 7, ground := Ground.phase }, { on := 8, ground := Ground.phase }, { on := 9, ground := Ground.phase }, { on := 10, ground := Ground.phase }], guard := none }) rfl (fun K hK => ?_) AllReadyH.nil
              go_simp
              refine hK.out _ _ (by exact ⟨cell_set (by show w.heap.size + 4 ≠ w.heap.size + 3; omega) KS5.1, cell_set NE5.out.1 KS5.2.1, cell_set NE5.out.2 KS5.2.2.1, cell_set NE5.out.2 KS5.2.2.2.1, cell_set NE5.out.2 KS5.2.2.2.2.1, cell_set NE5.out.2 KS5.2.2.2.2.2.1, cell_set NE5.out.2 KS5.2.2.2.2.2.2.1, cell_set NE5.out.2 KS5.2.2.2.2.2.2.2.1, cell_set NE5.out.2 KS5.2.2.2.2.2.2.2.2⟩) (fun hHeld => ?_)
              clear hK K
              (try simp only [Act.put, List.setIfInBounds_toArray, List.set_cons_zero, List.set_cons_succ])
              refine wpAnyH_done (by kernel_rfl) ?_ _
              go_wp2_with fail
              go_roundw
              case rel => exact ⟨j + 1, _, L ++ [z], by go_num, by omega, by rw [List.length_append, HLJ.out]; rfl, PF9, M9, HV, HG, B9⟩
              case measure => simp [intOf]; omega
            refine AllReadyH.cons (o := { dst := some 57, op := Op.buildSlice 22 1 #[(0, Operand.tmp 56)], type := 22, pos := "forge.go:137", after := #[{ on := 8, ground := Ground.data }], guard := none }) rfl (fun K hK => ?_) AllReadyH.nil
            go_simp
            refine hK.out _ _ (by exact ⟨cell_keep ((Below.refl _ _).alloc (Nat.le_refl _) _) KS4.1, cell_keep ((Below.refl _ _).alloc (Nat.le_refl _) _) KS4.2.1, cell_keep ((Below.refl _ _).alloc (Nat.le_refl _) _) KS4.2.2.1, cell_keep ((Below.refl _ _).alloc (Nat.le_refl _) _) KS4.2.2.2.1, cell_keep ((Below.refl _ _).alloc (Nat.le_refl _) _) KS4.2.2.2.2.1, cell_keep ((Below.refl _ _).alloc (Nat.le_refl _) _) KS4.2.2.2.2.2.1, cell_keep ((Below.refl _ _).alloc (Nat.le_refl _) _) KS4.2.2.2.2.2.2.1, cell_keep ((Below.refl _ _).alloc (Nat.le_refl _) _) KS4.2.2.2.2.2.2.2.1, cell_keep ((Below.refl _ _).alloc (Nat.le_refl _) _) KS4.2.2.2.2.2.2.2.2⟩) (fun hHeld => ?_)
            clear hK K
            (try simp only [Act.put, List.setIfInBounds_toArray, List.set_cons_zero, List.set_cons_succ])
            have cv5 := cell_keep ((Below.refl w4.heap.size w4).alloc (Nat.le_refl _) (.cells #[.string z] 9)) cv4
            refine wpAnyH_ready (rs := [4]) (by kernel_rfl) (by simp) ?_
            refine AllReadyH.cons (o := { dst := some 52, op := Op.load 22 (Operand.tmp 51), type := 22, pos := "forge.go:137", after := #[{ on := 3, ground := Ground.data }], guard := none }) rfl (fun K hK => ?_) AllReadyH.nil
            go_simp
            refine hK.out _ _ (by exact ⟨cell_keep ((Below.refl _ _).alloc (Nat.le_refl _) _) KS4.1, cell_keep ((Below.refl _ _).alloc (Nat.le_refl _) _) KS4.2.1, cell_keep ((Below.refl _ _).alloc (Nat.le_refl _) _) KS4.2.2.1, cell_keep ((Below.refl _ _).alloc (Nat.le_refl _) _) KS4.2.2.2.1, cell_keep ((Below.refl _ _).alloc (Nat.le_refl _) _) KS4.2.2.2.2.1, cell_keep ((Below.refl _ _).alloc (Nat.le_refl _) _) KS4.2.2.2.2.2.1, cell_keep ((Below.refl _ _).alloc (Nat.le_refl _) _) KS4.2.2.2.2.2.2.1, cell_keep ((Below.refl _ _).alloc (Nat.le_refl _) _) KS4.2.2.2.2.2.2.2.1, cell_keep ((Below.refl _ _).alloc (Nat.le_refl _) _) KS4.2.2.2.2.2.2.2.2⟩) (fun hHeld => ?_)
            clear hK K
            (try simp only [Act.put, List.setIfInBounds_toArray, List.set_cons_zero, List.set_cons_succ])
            clear cv5
            refine wpAnyH_ready (rs := [10]) (by kernel_rfl) (by simp) ?_
            refine AllReadyH.cons (o := { dst := some 58, op := Op.call { callee := Callee.builtin Builtin.append, args := #[Operand.tmp 52, Operand.tmp 57], argTypes := #[22, 22] }, type := 22, pos := "forge.go:137", after := #[{ on := 4, ground := Ground.data }, { on := 9, ground := Ground.data }, { on := 8, ground := Ground.chain }], guard := none }) rfl (fun K hK => ?_) AllReadyH.nil
            refine wpOp_app11 (W1 := w4) (n₀ := w.heap.size + 5) (v := .slice ao j cap) (l := L) (by rfl) _ _ rfl rfl z rfl rfl O4.out SZ4.out HLL.out ?_
            intro v5 w5 ho5 hg5
            refine hK.out _ _ (by exact ⟨cell_grown hg5 (World.block_lt_of_cell? _ _ KS4.1) (NE4.out.1) KS4.1, cell_grown hg5 (World.block_lt_of_cell? _ _ KS4.2.1) (NE4.out.2.2) KS4.2.1, cell_grown hg5 (World.block_lt_of_cell? _ _ KS4.2.2.1) (NE4.out.2.1) KS4.2.2.1, cell_grown hg5 (World.block_lt_of_cell? _ _ KS4.2.2.2.1) (NE4.out.2.1) KS4.2.2.2.1, cell_grown hg5 (World.block_lt_of_cell? _ _ KS4.2.2.2.2.1) (NE4.out.2.1) KS4.2.2.2.2.1, cell_grown hg5 (World.block_lt_of_cell? _ _ KS4.2.2.2.2.2.1) (NE4.out.2.1) KS4.2.2.2.2.2.1, cell_grown hg5 (World.block_lt_of_cell? _ _ KS4.2.2.2.2.2.2.1) (NE4.out.2.1) KS4.2.2.2.2.2.2.1, cell_grown hg5 (World.block_lt_of_cell? _ _ KS4.2.2.2.2.2.2.2.1) (NE4.out.2.1) KS4.2.2.2.2.2.2.2.1, cell_grown hg5 (World.block_lt_of_cell? _ _ KS4.2.2.2.2.2.2.2.2) (NE4.out.2.1) KS4.2.2.2.2.2.2.2.2⟩) (fun hHeld => ?_)
            clear hK K
            (try simp only [Act.put, List.setIfInBounds_toArray, List.set_cons_zero, List.set_cons_succ])
            have hPM := pf_push P4.out M4.out ho5 hg5
            have PF9 := Lib.hid hPM.1
            have M9 := Lib.hid hPM.2.1
            have B9 := Lib.hid (B4.out.trans hPM.2.2)
            have r31 := run_row P4.out hg5
            have c31 := cell_of_row _ _ 1 _ _ _ r31
            have f31 : w5.frozen? ⟨w.heap.size + 3, 1, none⟩ = false := frozen_row r31
            obtain ⟨a5, c5, rfl, _⟩ := ownT_row ho5
            have KS5 : w5.cell? ⟨w.heap.size + 4, 0, none⟩ = some (ptr11 (w.heap.size + 3)) ∧ w5.cell? ⟨wr.heap.size + 1, 4, none⟩ = some (.func (.func df) #[ptr11 (w.heap.size + 3)] #[]) ∧ w5.cell? ⟨wr.heap.size, 0, none⟩ = some (.int .u8 f) ∧ w5.cell? ⟨wr.heap.size, 1, none⟩ = some (.int .i64 sa) ∧ w5.cell? ⟨wr.heap.size, 2, none⟩ = some (.int .i64 sb) ∧ w5.cell? ⟨wr.heap.size, 3, none⟩ = some (.int .i64 sd) ∧ w5.cell? ⟨wr.heap.size, 4, none⟩ = some (.int .i64 sn) ∧ w5.cell? ⟨wr.heap.size, 5, none⟩ = some (.string tx) ∧ w5.cell? ⟨wr.heap.size, 6, none⟩ = some (.slice lo r lc) := ⟨cell_grown hg5 (World.block_lt_of_cell? _ _ KS4.1) (NE4.out.1) KS4.1, cell_grown hg5 (World.block_lt_of_cell? _ _ KS4.2.1) (NE4.out.2.2) KS4.2.1, cell_grown hg5 (World.block_lt_of_cell? _ _ KS4.2.2.1) (NE4.out.2.1) KS4.2.2.1, cell_grown hg5 (World.block_lt_of_cell? _ _ KS4.2.2.2.1) (NE4.out.2.1) KS4.2.2.2.1, cell_grown hg5 (World.block_lt_of_cell? _ _ KS4.2.2.2.2.1) (NE4.out.2.1) KS4.2.2.2.2.1, cell_grown hg5 (World.block_lt_of_cell? _ _ KS4.2.2.2.2.2.1) (NE4.out.2.1) KS4.2.2.2.2.2.1, cell_grown hg5 (World.block_lt_of_cell? _ _ KS4.2.2.2.2.2.2.1) (NE4.out.2.1) KS4.2.2.2.2.2.2.1, cell_grown hg5 (World.block_lt_of_cell? _ _ KS4.2.2.2.2.2.2.2.1) (NE4.out.2.1) KS4.2.2.2.2.2.2.2.1, cell_grown hg5 (World.block_lt_of_cell? _ _ KS4.2.2.2.2.2.2.2.2) (NE4.out.2.1) KS4.2.2.2.2.2.2.2.2⟩
            clear hPM ho5 hg5 r31 KS4
            rw [show (L ++ [z]).length = j + 1 by rw [List.length_append, HLJ.out]; rfl] at PF9 M9 B9 ⊢
            refine wpAnyH_take (i := 11) (oi := { dst := some 59, op := Op.nilCheck (Operand.tmp 48), type := 0, pos := "forge.go:137", after := #[{ on := 0, ground := Ground.data }, { on := 0, ground := Ground.phase }, { on := 1, ground := Ground.phase }, { on := 2, ground := Ground.phase }, { on := 3, ground := Ground.phase }, { on := 4, ground := Ground.phase }, { on := 5, ground := Ground.phase }, { on := 6, ground := Ground.phase }, { on := 7, ground := Ground.phase }, { on := 8, ground := Ground.phase }, { on := 9, ground := Ground.phase }, { on := 10, ground := Ground.phase }], guard := none }) (v := ?_) rfl (by kernel_rfl) (by kernel_rfl) (by kernel_rfl) (fun c a w h => hq11 (k := 59) (by decide) h) (Or.inl ⟨by rfl, ?_⟩) (by assumption) ?_
            rotate_left 1
            · (intro w hSw; (try dsimp only at hSw); go_simp; try with_reducible rfl)
            (try simp only [Act.put, List.setIfInBounds_toArray, List.set_cons_zero, List.set_cons_succ])
            refine wpAnyH_take (i := 12) (oi := { dst := some 60, op := Op.fieldAddr 69 (Operand.tmp 59) 1, type := 0, pos := "forge.go:137", after := #[{ on := 11, ground := Ground.data }, { on := 0, ground := Ground.phase }, { on := 1, ground := Ground.phase }, { on := 2, ground := Ground.phase }, { on := 3, ground := Ground.phase }, { on := 4, ground := Ground.phase }, { on := 5, ground := Ground.phase }, { on := 6, ground := Ground.phase }, { on := 7, ground := Ground.phase }, { on := 8, ground := Ground.phase }, { on := 9, ground := Ground.phase }, { on := 10, ground := Ground.phase }], guard := none }) (v := ?_) rfl (by kernel_rfl) (by kernel_rfl) (by kernel_rfl) (fun c a w h => hq11 (k := 60) (by decide) h) (Or.inl ⟨by rfl, ?_⟩) (by assumption) ?_
            rotate_left 1
            · (intro w hSw; (try dsimp only at hSw); go_simp; try with_reducible rfl)
            (try simp only [Act.put, List.setIfInBounds_toArray, List.set_cons_zero, List.set_cons_succ])
            refine wpAnyH_ready (rs := [13]) (by kernel_rfl) (by simp) ?_
            refine AllReadyH.cons (o := { dst := none, op := Op.store 22 (Operand.tmp 60) (Operand.tmp 58), type := 0, pos := "forge.go:137", after := #[{ on := 12, ground := Ground.data }, { on := 10, ground := Ground.data }, { on := 10, ground := Ground.chain }, { on := 0, ground := Ground.phase }, { on := 1, ground := Ground.phase }, { on := 2, ground := Ground.phase }, { on := 3, ground := Ground.phase }, { on := 4, ground := Ground.phase }, { on := 5, ground := Ground.phase }, { on := 6, ground := Ground.phase }, { on := 7, ground := Ground.phase }, { on := 8, ground := Ground.phase }, { on := 9, ground := Ground.phase }, { on := 10, ground := Ground.phase }], guard := none }) rfl (fun K hK => ?_) AllReadyH.nil
            go_simp
            refine hK.out _ _ (by exact ⟨cell_set (by show w.heap.size + 4 ≠ w.heap.size + 3; omega) KS5.1, cell_set NE5.out.1 KS5.2.1, cell_set NE5.out.2 KS5.2.2.1, cell_set NE5.out.2 KS5.2.2.2.1, cell_set NE5.out.2 KS5.2.2.2.2.1, cell_set NE5.out.2 KS5.2.2.2.2.2.1, cell_set NE5.out.2 KS5.2.2.2.2.2.2.1, cell_set NE5.out.2 KS5.2.2.2.2.2.2.2.1, cell_set NE5.out.2 KS5.2.2.2.2.2.2.2.2⟩) (fun hHeld => ?_)
            clear hK K
            (try simp only [Act.put, List.setIfInBounds_toArray, List.set_cons_zero, List.set_cons_succ])
            refine wpAnyH_done (by kernel_rfl) ?_ _
            go_wp2_with fail
            go_roundw
            case rel => exact ⟨j + 1, _, L ++ [z], by go_num, by omega, by rw [List.length_append, HLJ.out]; rfl, PF9, M9, HV, HG, B9⟩
            case measure => simp [intOf]; omega
          · have HH := Lib.hid (HONE.out x trivial rfl hx)
            have HD4 : Hid (Calls Try.prog df #[ptr11 (w.heap.size + 3), .agg #[.int .u8 f, .int .i64 sa, .int .i64 sb, .int .i64 sd, .int .i64 sn, .string tx, .slice lo r lc]] wa.drew fun e w' => e = boom11 x ∧ Below wa.drew.heap.size wa.drew w') := Lib.hid (HD3.out.mono (fun e w' h => ⟨by rw [h.1]; simp [hx], h.2⟩))
            clear HONE HGO HVAL HD3
            go_wp2_with fail
            refine wp_region_held_drew (S := fun W => W.cell? ⟨w.heap.size + 4, 0, none⟩ = some (ptr11 (w.heap.size + 3)) ∧ W.cell? ⟨wr.heap.size + 1, 4, none⟩ = some (.func (.func df) #[ptr11 (w.heap.size + 3)] #[]) ∧ W.cell? ⟨wr.heap.size, 0, none⟩ = some (.int .u8 f) ∧ W.cell? ⟨wr.heap.size, 1, none⟩ = some (.int .i64 sa) ∧ W.cell? ⟨wr.heap.size, 2, none⟩ = some (.int .i64 sb) ∧ W.cell? ⟨wr.heap.size, 3, none⟩ = some (.int .i64 sd) ∧ W.cell? ⟨wr.heap.size, 4, none⟩ = some (.int .i64 sn) ∧ W.cell? ⟨wr.heap.size, 5, none⟩ = some (.string tx) ∧ W.cell? ⟨wr.heap.size, 6, none⟩ = some (.slice lo r lc)) (by kernel_rfl) (by first | assumption | (exact KS3)) (fun hHeld => ?_)
            refine wpAnyH_take (i := 0) (oi := { dst := some 48, op := Op.load 67 (Operand.tmp 7), type := 67, pos := "forge.go:137", after := #[], guard := none }) (v := ?_) rfl (by kernel_rfl) (by kernel_rfl) (by kernel_rfl) (fun c a w h => hq11 (k := 48) (by decide) h) (Or.inl ⟨by rfl, ?_⟩) (by assumption) ?_
            rotate_left 1
            · (intro w hSw; (try dsimp only at hSw); go_simp; try with_reducible rfl)
            (try simp only [Act.put, List.setIfInBounds_toArray, List.set_cons_zero, List.set_cons_succ])
            refine wpAnyH_take (i := 1) (oi := { dst := some 49, op := Op.load 67 (Operand.tmp 7), type := 67, pos := "forge.go:137", after := #[], guard := none }) (v := ?_) rfl (by kernel_rfl) (by kernel_rfl) (by kernel_rfl) (fun c a w h => hq11 (k := 49) (by decide) h) (Or.inl ⟨by rfl, ?_⟩) (by assumption) ?_
            rotate_left 1
            · (intro w hSw; (try dsimp only at hSw); go_simp; try with_reducible rfl)
            (try simp only [Act.put, List.setIfInBounds_toArray, List.set_cons_zero, List.set_cons_succ])
            refine wpAnyH_take (i := 2) (oi := { dst := some 50, op := Op.nilCheck (Operand.tmp 49), type := 0, pos := "forge.go:137", after := #[{ on := 1, ground := Ground.data }], guard := none }) (v := ?_) rfl (by kernel_rfl) (by kernel_rfl) (by kernel_rfl) (fun c a w h => hq11 (k := 50) (by decide) h) (Or.inl ⟨by rfl, ?_⟩) (by assumption) ?_
            rotate_left 1
            · (intro w hSw; (try dsimp only at hSw); go_simp; try with_reducible rfl)
            (try simp only [Act.put, List.setIfInBounds_toArray, List.set_cons_zero, List.set_cons_succ])
            refine wpAnyH_take (i := 3) (oi := { dst := some 51, op := Op.fieldAddr 69 (Operand.tmp 50) 1, type := 0, pos := "forge.go:137", after := #[{ on := 2, ground := Ground.data }], guard := none }) (v := ?_) rfl (by kernel_rfl) (by kernel_rfl) (by kernel_rfl) (fun c a w h => hq11 (k := 51) (by decide) h) (Or.inl ⟨by rfl, ?_⟩) (by assumption) ?_
            rotate_left 1
            · (intro w hSw; (try dsimp only at hSw); go_simp; try with_reducible rfl)
            (try simp only [Act.put, List.setIfInBounds_toArray, List.set_cons_zero, List.set_cons_succ])
            refine wpAnyH_take (i := 5) (oi := { dst := some 53, op := Op.fieldAddr 75 (Operand.tmp 11) 4, type := 0, pos := "forge.go:137", after := #[], guard := none }) (v := ?_) rfl (by kernel_rfl) (by kernel_rfl) (by kernel_rfl) (fun c a w h => hq11 (k := 53) (by decide) h) (Or.inl ⟨by rfl, ?_⟩) (by assumption) ?_
            rotate_left 1
            · (intro w hSw; (try dsimp only at hSw); go_simp; try with_reducible rfl)
            (try simp only [Act.put, List.setIfInBounds_toArray, List.set_cons_zero, List.set_cons_succ])
            refine wpAnyH_take (i := 6) (oi := { dst := some 54, op := Op.load 73 (Operand.tmp 53), type := 73, pos := "forge.go:137", after := #[{ on := 5, ground := Ground.data }], guard := none }) (v := ?_) rfl (by kernel_rfl) (by kernel_rfl) (by kernel_rfl) (fun c a w h => hq11 (k := 54) (by decide) h) (Or.inl ⟨by rfl, ?_⟩) (by assumption) ?_
            rotate_left 1
            · (intro w hSw; (try dsimp only at hSw); go_simp; try with_reducible rfl)
            (try simp only [Act.put, List.setIfInBounds_toArray, List.set_cons_zero, List.set_cons_succ])
            refine wpAnyH_take (i := 7) (oi := { dst := some 55, op := Op.load 46 (Operand.tmp 10), type := 46, pos := "forge.go:137", after := #[], guard := none }) (v := ?_) rfl (by kernel_rfl) (by kernel_rfl) (by kernel_rfl) (fun c a w h => hq11 (k := 55) (by decide) h) (Or.inl ⟨by rfl, ?_⟩) (by assumption) ?_
            rotate_left 1
            · (intro w hSw; (try dsimp only at hSw); go_simp; try with_reducible rfl)
            (try simp only [Act.put, List.setIfInBounds_toArray, List.set_cons_zero, List.set_cons_succ])
            refine wpAnyH_ready (rs := [4, 8]) (by kernel_rfl) (by simp) ?_
            refine AllReadyH.cons (o := { dst := some 52, op := Op.load 22 (Operand.tmp 51), type := 22, pos := "forge.go:137", after := #[{ on := 3, ground := Ground.data }], guard := none }) rfl (fun K hK => ?_) ?_
            · go_simp
              refine hK.out _ _ (by exact KS3) (fun hHeld => ?_)
              clear hK K
              (try simp only [Act.put, List.setIfInBounds_toArray, List.set_cons_zero, List.set_cons_succ])
              refine wpAnyH_ready (rs := [8]) (by kernel_rfl) (by simp) ?_
              refine AllReadyH.cons (o := { dst := some 56, op := Op.call { callee := Callee.value (Operand.tmp 54), args := #[Operand.tmp 55], argTypes := #[46] }, type := 9, pos := "forge.go:137", after := #[{ on := 6, ground := Ground.data }, { on := 7, ground := Ground.data }], guard := none }) rfl (fun K hK => ?_) AllReadyH.nil
              go_simp
              refine HD4.out.mono ?_; rintro e w4 ⟨rfl, b4⟩
              refine leaves_cons (f := 38) (args := #[ptr11 (w.heap.size + 4), ptr11 w.heap.size, ptr11 (w.heap.size + 1), ptr11 (w.heap.size + 2)]) (by simp) (by simp [go_sem]) ?_
              refine perform_boom (z := j) (c := x) (ao := ao) (cap := cap) (L := L) rfl rfl rfl (by rw [HLJ.out]; exact HPF3.out.below b4) HLJ.out (fun V hV => ?_)
              rw [HH.out]
              exact ⟨⟨_, [], rfl, ownT_nil _ _, rfl⟩, (below_step BW3.out b4).trans hV⟩
            refine AllReadyH.cons (o := { dst := some 56, op := Op.call { callee := Callee.value (Operand.tmp 54), args := #[Operand.tmp 55], argTypes := #[46] }, type := 9, pos := "forge.go:137", after := #[{ on := 6, ground := Ground.data }, { on := 7, ground := Ground.data }], guard := none }) rfl (fun K hK => ?_) AllReadyH.nil
            go_simp
            refine HD4.out.mono ?_; rintro e w4 ⟨rfl, b4⟩
            refine leaves_cons (f := 38) (args := #[ptr11 (w.heap.size + 4), ptr11 w.heap.size, ptr11 (w.heap.size + 1), ptr11 (w.heap.size + 2)]) (by simp) (by simp [go_sem]) ?_
            refine perform_boom (z := j) (c := x) (ao := ao) (cap := cap) (L := L) rfl rfl rfl (by rw [HLJ.out]; exact HPF3.out.below b4) HLJ.out (fun V hV => ?_)
            rw [HH.out]
            exact ⟨⟨_, [], rfl, ownT_nil _ _, rfl⟩, (below_step BW3.out b4).trans hV⟩
      · have HH := Lib.hid (HBAD.out (may_none11 h19))
        have HLK := Lib.hid (fun V (hV : Below wr.heap.size wr V) => ((hmv.out.below hV).miss keyed_u8 Try.underlying71 (zero_do V) (key_u8 HFN.out) (do_out h19)).1)
        obtain ⟨f, sa, sb, sd, sn, tx, li⟩ := s
        dsimp only at x0 x1 x2 x3 x4 x5 x6 HLK HFN
        generalize li.length = r at *
        obtain ⟨W2, hW2, n0, s2, k2, b2⟩ := two_boxes wr #[.int .u8 f, .int .i64 sa, .int .i64 sb, .int .i64 sd, .int .i64 sn, .string tx, .slice lo r lc] #[.int .i64 0, .bool false, .bool false, .bool false, .nilFunc]
        have N0 := Lib.hid n0
        have HW2 := Lib.hid hW2
        have K2 := Lib.hid k2
        have B2 := Lib.hid b2
        clear h19 n0 hW2 s2 k2 b2 HFIT HDO HONE HBAD HGO HVAL
        go_wp2_with (first | (refine wpList_store_row rfl 75 _ _ rfl (wr.heap.size + 1) #[.int .i64 0, .bool false, .bool false, .bool false, .nilFunc] rfl rfl 75 #[.int .i64 0, .bool false, .bool false, .bool false, .nilFunc] N0.out (do_info _ _ _ _ _) rfl do_zero ?_; rw [← HW2.out]) | (at_lookup; refine wpList_lookV rfl _ _ 71 false rfl _ _ _ rfl rfl (HLK.out _ ((Below.refl _ _).alloc (Nat.le_refl _) _)) ?_) | fail)
        have HPF : Hid (PfAt w.heap.size W2 (.slice wo wn wc) (.slice ao j cap) L) := Lib.hid (by rw [← HLJ.out]; exact hpf.out.below B2.out)
        have BW2 := Lib.hid (below_step hb.out (below_step B2.out (drew11 W2)))
        have KS : W2.cell? ⟨wr.heap.size + 1, 4, none⟩ = some .nilFunc := cell_of_row _ _ _ _ _ _ K2.out
        clear hpf hmv x0 x1 x2 x3 x4 x5 x6 N0 HW2 K2 HLK
        refine wp_region_held_drew (S := fun W => W.cell? ⟨wr.heap.size + 1, 4, none⟩ = some .nilFunc) (by kernel_rfl) (by first | assumption | (exact KS)) (fun hHeld => ?_)
        refine wpAnyH_take (i := 0) (oi := { dst := some 34, op := Op.fieldAddr 75 (Operand.tmp 11) 4, type := 0, pos := "forge.go:136", after := #[], guard := none }) (v := ?_) rfl (by kernel_rfl) (by kernel_rfl) (by kernel_rfl) (fun c a w h => hq11 (k := 34) (by decide) h) (Or.inl ⟨by rfl, ?_⟩) (by assumption) ?_
        rotate_left 1
        · (intro w hSw; (try dsimp only at hSw); go_simp; try with_reducible rfl)
        (try simp only [Act.put, List.setIfInBounds_toArray, List.set_cons_zero, List.set_cons_succ])
        refine wpAnyH_take (i := 1) (oi := { dst := some 35, op := Op.load 73 (Operand.tmp 34), type := 73, pos := "forge.go:136", after := #[{ on := 0, ground := Ground.data }], guard := none }) (v := ?_) rfl (by kernel_rfl) (by kernel_rfl) (by kernel_rfl) (fun c a w h => hq11 (k := 35) (by decide) h) (Or.inl ⟨by rfl, ?_⟩) (by assumption) ?_
        rotate_left 1
        · (intro w hSw; (try dsimp only at hSw); go_simp; try with_reducible rfl)
        (try simp only [Act.put, List.setIfInBounds_toArray, List.set_cons_zero, List.set_cons_succ])
        refine wpAnyH_take (i := 2) (oi := { dst := some 36, op := Op.binOp BinOp.neq 73 (Operand.tmp 35) (Operand.const Value.nilFunc) 73, type := 4, pos := "forge.go:136", after := #[{ on := 1, ground := Ground.data }], guard := none }) (v := ?_) rfl (by kernel_rfl) (by kernel_rfl) (by kernel_rfl) (fun c a w h => hq11 (k := 36) (by decide) h) (Or.inl ⟨by rfl, ?_⟩) (by assumption) ?_
        rotate_left 1
        · (intro w hSw; (try dsimp only at hSw); go_simp; try with_reducible rfl)
        (try simp only [Act.put, List.setIfInBounds_toArray, List.set_cons_zero, List.set_cons_succ])
        refine wpAnyH_take (i := 3) (oi := { dst := some 37, op := Op.move (Operand.tmp 36), type := 4, pos := "forge.go:136", after := #[{ on := 2, ground := Ground.data }], guard := none }) (v := ?_) rfl (by kernel_rfl) (by kernel_rfl) (by kernel_rfl) (fun c a w h => hq11 (k := 37) (by decide) h) (Or.inl ⟨by rfl, ?_⟩) (by assumption) ?_
        rotate_left 1
        · (intro w hSw; (try dsimp only at hSw); go_simp; try with_reducible rfl)
        (try simp only [Act.put, List.setIfInBounds_toArray, List.set_cons_zero, List.set_cons_succ])
        refine wpAnyH_take (i := 4) (oi := { dst := some 38, op := Op.load 75 (Operand.tmp 11), type := 75, pos := "forge.go:136", after := #[{ on := 3, ground := Ground.guard }], guard := some (3, true) }) (v := undef) rfl (by kernel_rfl) (by kernel_rfl) (by kernel_rfl) (fun c a w h => hq11 (k := 38) (by decide) h) (Or.inr ⟨by rfl, rfl⟩) (by assumption) ?_
        (try simp only [Act.put, List.setIfInBounds_toArray, List.set_cons_zero, List.set_cons_succ])
        refine wpAnyH_take (i := 5) (oi := { dst := some 39, op := Op.load 46 (Operand.tmp 10), type := 46, pos := "forge.go:136", after := #[{ on := 3, ground := Ground.guard }], guard := some (3, true) }) (v := undef) rfl (by kernel_rfl) (by kernel_rfl) (by kernel_rfl) (fun c a w h => hq11 (k := 39) (by decide) h) (Or.inr ⟨by rfl, rfl⟩) (by assumption) ?_
        (try simp only [Act.put, List.setIfInBounds_toArray, List.set_cons_zero, List.set_cons_succ])
        refine wpAnyH_take (i := 6) (oi := { dst := some 40, op := Op.load 67 (Operand.tmp 7), type := 67, pos := "forge.go:136", after := #[{ on := 3, ground := Ground.guard }], guard := some (3, true) }) (v := undef) rfl (by kernel_rfl) (by kernel_rfl) (by kernel_rfl) (fun c a w h => hq11 (k := 40) (by decide) h) (Or.inr ⟨by rfl, rfl⟩) (by assumption) ?_
        (try simp only [Act.put, List.setIfInBounds_toArray, List.set_cons_zero, List.set_cons_succ])
        refine wpAnyH_take (i := 7) (oi := { dst := some 41, op := Op.nilCheck (Operand.tmp 40), type := 0, pos := "forge.go:136", after := #[{ on := 6, ground := Ground.data }, { on := 3, ground := Ground.guard }], guard := some (3, true) }) (v := undef) rfl (by kernel_rfl) (by kernel_rfl) (by kernel_rfl) (fun c a w h => hq11 (k := 41) (by decide) h) (Or.inr ⟨by rfl, rfl⟩) (by assumption) ?_
        (try simp only [Act.put, List.setIfInBounds_toArray, List.set_cons_zero, List.set_cons_succ])
        refine wpAnyH_take (i := 8) (oi := { dst := some 42, op := Op.fieldAddr 69 (Operand.tmp 41) 1, type := 0, pos := "forge.go:136", after := #[{ on := 7, ground := Ground.data }, { on := 3, ground := Ground.guard }], guard := some (3, true) }) (v := undef) rfl (by kernel_rfl) (by kernel_rfl) (by kernel_rfl) (fun c a w h => hq11 (k := 42) (by decide) h) (Or.inr ⟨by rfl, rfl⟩) (by assumption) ?_
        (try simp only [Act.put, List.setIfInBounds_toArray, List.set_cons_zero, List.set_cons_succ])
        refine wpAnyH_take (i := 9) (oi := { dst := some 43, op := Op.load 22 (Operand.tmp 42), type := 22, pos := "forge.go:136", after := #[{ on := 8, ground := Ground.data }, { on := 3, ground := Ground.guard }], guard := some (3, true) }) (v := undef) rfl (by kernel_rfl) (by kernel_rfl) (by kernel_rfl) (fun c a w h => hq11 (k := 43) (by decide) h) (Or.inr ⟨by rfl, rfl⟩) (by assumption) ?_
        (try simp only [Act.put, List.setIfInBounds_toArray, List.set_cons_zero, List.set_cons_succ])
        refine wpAnyH_take (i := 10) (oi := { dst := some 44, op := Op.call { callee := Callee.builtin Builtin.len, args := #[Operand.tmp 43], argTypes := #[22] }, type := 3, pos := "forge.go:136", after := #[{ on := 9, ground := Ground.data }, { on := 3, ground := Ground.guard }], guard := some (3, true) }) (v := undef) rfl (by kernel_rfl) (by kernel_rfl) (by kernel_rfl) (fun c a w h => hq11 (k := 44) (by decide) h) (Or.inr ⟨by rfl, rfl⟩) (by assumption) ?_
        (try simp only [Act.put, List.setIfInBounds_toArray, List.set_cons_zero, List.set_cons_succ])
        refine wpAnyH_take (i := 11) (oi := { dst := some 45, op := Op.call { callee := Callee.value (Operand.func 41), args := #[Operand.tmp 38, Operand.tmp 39, Operand.tmp 44], argTypes := #[75, 46, 3] }, type := 4, pos := "forge.go:136", after := #[{ on := 4, ground := Ground.data }, { on := 5, ground := Ground.data }, { on := 10, ground := Ground.data }, { on := 3, ground := Ground.chain }, { on := 3, ground := Ground.guard }], guard := some (3, true) }) (v := undef) rfl (by kernel_rfl) (by kernel_rfl) (by kernel_rfl) (fun c a w h => hq11 (k := 45) (by decide) h) (Or.inr ⟨by rfl, rfl⟩) (by assumption) ?_
        (try simp only [Act.put, List.setIfInBounds_toArray, List.set_cons_zero, List.set_cons_succ])
        refine wpAnyH_take (i := 12) (oi := { dst := some 46, op := Op.pick (Operand.tmp 37) (Operand.tmp 45) (Operand.const (Value.bool false)), type := 4, pos := "forge.go:136", after := #[{ on := 3, ground := Ground.data }, { on := 11, ground := Ground.data }], guard := none }) (v := ?_) rfl (by kernel_rfl) (by kernel_rfl) (by kernel_rfl) (fun c a w h => hq11 (k := 46) (by decide) h) (Or.inl ⟨by rfl, ?_⟩) (by assumption) ?_
        rotate_left 1
        · (intro w hSw; (try dsimp only at hSw); go_simp; try with_reducible rfl)
        (try simp only [Act.put, List.setIfInBounds_toArray, List.set_cons_zero, List.set_cons_succ])
        refine wpAnyH_ready (rs := [13]) (by kernel_rfl) (by simp) ?_
        refine AllReadyH.cons (o := { dst := some 47, op := Op.call { callee := Callee.value (Operand.func 40), args := #[Operand.tmp 46, Operand.const (Value.int IntKind.i64 2)], argTypes := #[4, 27] }, type := 0, pos := "forge.go:136", after := #[{ on := 12, ground := Ground.data }, { on := 11, ground := Ground.chain }], guard := none }) rfl (fun K hK => ?_) AllReadyH.nil
        go_simp
        go_at_call 40
        refine (need11_bad 2 _).mono ?_; rintro e w2 ⟨rfl, rfl⟩
        refine leaves_cons (f := 38) (args := #[ptr11 (w.heap.size + 4), ptr11 w.heap.size, ptr11 (w.heap.size + 1), ptr11 (w.heap.size + 2)]) (by simp) (by simp [go_sem]) ?_
        refine perform_boom (z := j) (c := 2) (ao := ao) (cap := cap) (L := L) rfl rfl rfl (by rw [HLJ.out]; exact HPF.out.below (drew11 W2)) HLJ.out (fun V hV => ?_)
        rw [HH.out]
        exact ⟨⟨_, [], rfl, ownT_nil _ _, rfl⟩, (BW2.out).trans hV⟩
    · obtain rfl : j = m := by omega
      have hE : T = (L.map bl, 0, 0) := by rw [hst.out, List.drop_of_length_le (by rw [← HM.out]; exact Nat.le_refl _)]; rfl
      have HE := Lib.hid hE
      obtain ⟨ao, cap, rfl, _⟩ := ownT_row hpf.out.own
      clear hLj
      generalize L.length = z at *
      have cp := hpf.out.ptr.cell
      have cr : wr.cell? ⟨w.heap.size + 3, 1, none⟩ = some (.slice ao z cap) := cell_of_row _ _ _ _ _ _ hpf.out.run
      have c0 := hpf.out.b0.cell
      have f0 := hpf.out.b0.frozen
      have y1 := hpf.out.b1.other (B' := w.heap.size) (by omega) (.slice ao z cap)
      have c1 := y1.cell
      have f1 := y1.frozen
      have y2 := (hpf.out.b2.other (B' := w.heap.size) (by omega) (.slice ao z cap)).other (B' := w.heap.size + 1) (by omega) (.int .i64 0)
      have c2 := y2.cell
      have f2 := y2.frozen
      have g0 := ((hpf.out.b0.set (.slice ao z cap)).other (B' := w.heap.size + 1) (by omega) (.int .i64 0)).other (B' := w.heap.size + 2) (by omega) (.int .i64 0)
      have g1 := (y1.set (.int .i64 0)).other (B' := w.heap.size + 2) (by omega) (.int .i64 0)
      have g2 := y2.set (.int .i64 0)
      have gB := ((hb.out.setCell (p := ⟨w.heap.size, 0, none⟩) (Nat.le_refl _) (.slice ao z cap)).setCell (p := ⟨w.heap.size + 1, 0, none⟩) (Nat.le_succ _) (.int .i64 0)).setCell (p := ⟨w.heap.size + 2, 0, none⟩) (Nat.le_add_right _ _) (.int .i64 0)
      have gO : OwnT (((wr.setCell ⟨w.heap.size, 0, none⟩ (.slice ao z cap)).setCell ⟨w.heap.size + 1, 0, none⟩ (.int .i64 0)).setCell ⟨w.heap.size + 2, 0, none⟩ (.int .i64 0)) w.heap.size (.slice ao z cap) L := ownT_low (ownT_other hpf.out.own (fun b hb1 _ => ((Below.heap_setCell _ _ _ _ (by show b ≠ w.heap.size + 2; omega)).trans (Below.heap_setCell _ _ _ _ (by show b ≠ w.heap.size + 1; omega))).trans (Below.heap_setCell _ _ _ _ (by show b ≠ w.heap.size; omega)))) (by omega)
      have G0 := Lib.hid g0
      have G1 := Lib.hid g1
      have G2 := Lib.hid g2
      have GB := Lib.hid gB
      have GO := Lib.hid gO
      clear hE y1 y2 g0 g1 g2 gB gO hj hjm hst hval hmv
      go_wp2_with fail
      refine leaves_cons (f := 38) (args := #[ptr11 (w.heap.size + 4), ptr11 w.heap.size, ptr11 (w.heap.size + 1), ptr11 (w.heap.size + 2)]) (by simp) (by simp [go_sem]) ?_
      refine (catch11_idle _ _ _ _ _).mono ?_
      rintro e u' v' ⟨rfl, rfl, rfl⟩
      refine ⟨_, perform_results _ w.heap.size 0 0 (.slice ao z cap) _ rfl rfl rfl G0.out G1.out G2.out, ?_⟩
      rw [HE.out]
      exact ⟨⟨_, _, rfl, GO.out, rfl⟩, GB.out⟩
end Go.Proofs.Ytpajcalfjfkogaa.Pl
