/- What term.visit hands to a loop's round, and how it ends: all came, stopped, or thrown. -/
import Derived.RangeFuncBox
import Derived.RangeFuncNested
import Derived.RangeFuncLeaves
import Derived.Shelf.Abstract
import Derived.OwnWalkIn
import Derived.TacticsInMore
import Derived.LoopNIn
import Derived.LoopIn
import Derived.Test.YtbdlegjklfkdmaaGreatDoorBallC2
import Derived.Test.YtbdlegjklfkdmaaGreatDoorBallC16
namespace Go.Proofs.YtbdlegjklfkdmaaGreatDoor.Pl
open Go.RowKit Go.Shelf
attribute [local go_sem] Oper.semAt_some

/-- What a round keeps: every block that is a place, and no block is gone. -/
def KeepP (W W' : World) : Prop := W.heap.size ≤ W'.heap.size ∧ ∀ (b : Nat) (cs : Array Value), W.heap[b]? = some (Obj.cells cs 102 (0, 0)) → W'.heap[b]? = some (Obj.cells cs 102 (0, 0))
theorem KeepP.refl (W : World) : KeepP W W := ⟨Nat.le_refl _, fun _ _ h => h⟩
theorem KeepP.trans {U V W : World} (h : KeepP U V) (k : KeepP V W) : KeepP U W := ⟨Nat.le_trans h.1 k.1, fun b cs e => k.2 b cs (h.2 b cs e)⟩
theorem KeepP.of_below {W W' : World} (h : Below W.heap.size W W') : KeepP W W' := ⟨h.size, fun b _ e => (h.block b (Array.getElem?_eq_some_iff.1 e).1).trans e⟩

theorem hdd (k : Nat) : Fence.wide.depth.isSome = true → 1 ≤ k := fun h => by cases h

def YP (J Jx : List Pl6 → World → Prop) (pre : List Pl6) (p : Pl6) (W : World) (e : Ending) (W' : World) : Prop :=
  (e = .returned (.bool true) ∧ J (pre ++ [p]) W' ∧ KeepP W W') ∨ (e = .returned (.bool false) ∧ Jx (pre ++ [p]) W' ∧ KeepP W W')
def VisPost (vs : List Pl6 × Nat × Nat) (J Jx : List Pl6 → World → Prop) (pre : List Pl6) (W : World) (e : Ending) (W' : World) : Prop :=
  (vs.2.2 = 0 ∧ e = .returned (.tuple #[.int .i64 vs.2.1, .bool true]) ∧ J (pre ++ vs.1) W' ∧ KeepP W W') ∨
  (∃ (z : Nat) (q : List Pl6), e = .returned (.tuple #[.int .i64 z, .bool false]) ∧ q <+: vs.1 ∧ Jx (pre ++ q) W' ∧ KeepP W W') ∨
  (vs.2.2 ≠ 0 ∧ e = boom vs.2.2 ∧ J (pre ++ vs.1) W')

set_option maxRecDepth 100000 in
set_option maxHeartbeats 4000000 in
theorem visit_in (s : ByteArray) (hs : s.size ≤ 281474976710656) (l : Nat) (L : List Pl6) (J Jx : List Pl6 → World → Prop)
    (hA : ∀ pre W W', J pre W → Below W.heap.size W W' → J pre W')
    (hY : ∀ m pre p W, J pre W → (pre ++ [p]) <+: L → YieldAt Fence.wide m Tryz.prog l #[encPl p] W (YP J Jx pre p W)) :
    ∀ (d D a : Nat) (pre : List Pl6) (n : Nat) (W : World), d + D = 17 → 1 ≤ D → a ≤ s.size → pre ++ (visP (bl s) d a).1 <+: L → J pre W →
      CallsIn Fence.wide n Tryz.prog 105 #[.string s, .int .i64 a, .int .i64 D, .func (.yield l) #[] #[]] W (VisPost (visP (bl s) d a) J Jx pre W) := by
  intro d
  induction d with
  | zero =>
    intro D a pre n W hD h1 ha hpre hJ
    obtain rfl : D = 17 := by omega
    have HP := Lib.hid (fun V => placeat_deep s a 17 (by decide) (by decide) ⟨0, 0, 0, 0⟩ V)
    have HJ := Lib.hid (fun V b => hA pre W V hJ b)
    clear hA hY hJ hpre
    refine callsIn_of_wp Tryz.func105 rfl trivial ?_ rfl
    simp only [Tryz.ntmps105, List.size_toArray, List.length_cons, List.length_nil, Nat.reduceAdd, Nat.reduceSub, Array.replicate_succ, Array.replicate_zero, List.push_toArray, List.append_toArray, List.nil_append, List.cons_append]
    gi_wp2_with (refine ⟨trivial, hdd _, ?_⟩; gi_at_call 136; refine (callsIn_wide.2 (HP.out _)).mono ?_; rintro e w1 ⟨h2, b1⟩; rw [if_neg (by decide)] at h2; subst h2)
    exact ⟨rfl, .inr (.inr ⟨by simp [visP], by simp [visP], by simpa [visP] using HJ.out _ b1⟩)⟩
  | succ d ih =>
    intro D a pre n W hD h1 ha hpre hJ
    have HP := Lib.hid (fun V => placeat_any s a D (by omega) ha hs V)
    by_cases hh : (headP ((bl s).drop a)).2.2 = 0
    · rw [visP, if_pos hh] at hpre ⊢
      have hl1 : (headP ((bl s).drop a)).1 + a ≤ s.size := by
        have := head_le hh
        rw [List.length_drop, bl_length] at this
        omega
      have hl2 : (headP ((bl s).drop a)).2.1 ≤ 32 := head_le32 hh
      rw [hh] at HP
      have hD2 : 16 - d = D := by omega
      rw [hD2] at hpre ⊢
      obtain ⟨e0, he0⟩ : ∃ e0, e0 = a + (headP ((bl s).drop a)).1 := ⟨_, rfl⟩
      obtain ⟨k, hk⟩ : ∃ k, k = (headP ((bl s).drop a)).2.1 := ⟨_, rfl⟩
      rw [← he0, ← hk] at HP hpre ⊢
      rw [← hk] at hl2
      have hle0 : e0 ≤ s.size := by omega
      clear hh he0 hk hl1 hD2
      have HQ : Hid (∀ V, Calls Tryz.prog 136 #[.string s, .int .i64 a, .int .i64 D] V fun e V' => e = .returned (.agg #[.int .i64 a, .int .i64 D, .int .i64 e0, .int .i64 k]) ∧ Below V.heap.size V V') := Lib.hid (fun V => (HP.out V).mono (fun e V' h => ⟨h.1.trans rfl, h.2⟩))
      replace hpre : pre ++ (⟨a, D, e0, k⟩ :: (visL (visP (bl s) d) k e0).1) <+: L := hpre
      have HY : Hid (∀ m w1, Below W.heap.size W w1 → YieldAt Fence.wide m Tryz.prog l #[.agg #[.int .i64 a, .int .i64 D, .int .i64 e0, .int .i64 k]] w1 (YP J Jx pre ⟨a, D, e0, k⟩ w1)) := Lib.hid (fun m w1 b => hY m pre ⟨a, D, e0, k⟩ w1 (hA pre W w1 hJ b) (List.IsPrefix.trans ⟨(visL (visP (bl s) d) k e0).1, by simp⟩ hpre))
      clear HP
      refine callsIn_of_wp Tryz.func105 rfl trivial ?_ rfl
      simp only [Tryz.ntmps105, List.size_toArray, List.length_cons, List.length_nil, Nat.reduceAdd, Nat.reduceSub, Array.replicate_succ, Array.replicate_zero, List.push_toArray, List.append_toArray, List.nil_append, List.cons_append]
      gi_wp2_with (refine ⟨trivial, hdd _, ?_⟩; gi_at_call 136; refine (callsIn_wide.2 (HQ.out _)).mono ?_; rintro e w1 ⟨rfl, b1⟩)
      have mixed : Tryz.prog.follows .mixedOrders = true := by kernel_rfl
      refine wpIn_region_any mixed ?_
      obtain ⟨U0, hU0⟩ : ∃ U0, ({ w1.alloc (.cells #[.int .i64 a, .int .i64 D, .int .i64 e0, .int .i64 k] 102) with drawn := (w1.alloc (.cells #[.int .i64 a, .int .i64 D, .int .i64 e0, .int .i64 k] 102)).drawn + 1 } : World) = U0 := ⟨_, rfl⟩
      rw [hU0]
      have hB0 : Below W.heap.size W U0 := by rw [← hU0]; exact (b1.alloc b1.size _).drew
      have hPc : U0.heap[w1.heap.size]? = some (.cells #[.int .i64 a, .int .i64 D, .int .i64 e0, .int .i64 k] 102 (0, 0)) := by rw [← hU0]; exact Go.heap_alloc_new w1 _
      obtain ⟨B, hB⟩ : ∃ B, B = w1.heap.size := ⟨_, rfl⟩
      rw [← hB] at hPc ⊢
      clear hU0 hB b1
      obtain ⟨fn, tm, asg, bod, hy, hR⟩ := HY.out (n - 1) U0 hB0
      have hPW : ∀ w', KeepP U0 w' → w'.heap[B]? = some (.cells #[.int .i64 a, .int .i64 D, .int .i64 e0, .int .i64 k] 102 (0, 0)) := fun w' h => h.2 B _ hPc
      refine wpAnyIn_inv (fun listed a' w' => ∃ q0 q1 q2 q3 q4 q5 q6 : Bool, ∃ x16 x17 x18 x19 x20 x8 x9 : Value, listed = #[q0, q1, q2, q3, q4, q5, q6] ∧ a' = { tmps := #[.string s, .int .i64 a, .int .i64 D, .func (.yield l) #[] #[], undef, undef, undef, undef, x8, x9, .pointer (some ⟨B, 0, none⟩), undef, .string s, .int .i64 a, .int .i64 D, .agg #[.int .i64 a, .int .i64 D, .int .i64 e0, .int .i64 k], x16, x17, x18, x19, x20, undef, undef, undef, undef, undef, undef, undef, undef, undef, undef, undef, undef, undef, undef, undef, undef, undef, undef, undef, undef], defers := [] } ∧
        ((q0 = true → x16 = .pointer (some ⟨B, 2, none⟩)) ∧ (q1 = true → x17 = .int .i64 e0) ∧ (q2 = true → x18 = .func (.yield l) #[] #[]) ∧ (q3 = true → x19 = .agg #[.int .i64 a, .int .i64 D, .int .i64 e0, .int .i64 k]) ∧ (q5 = true → x8 = .int .i64 e0) ∧ (q6 = true → x9 = x20)) ∧
        (q4 = false → w' = U0) ∧ (q4 = true → YP J Jx pre ⟨a, D, e0, k⟩ U0 (.returned x20) w') ∧ (q6 = true → q4 = true)) ?_ ?_ _ _ _ _ (by decide) ?_
      · intro listed a' w' i hI hi
        obtain ⟨q0, q1, q2, q3, q4, q5, q6, x16, x17, x18, x19, x20, x8, x9, rfl, rfl, ⟨h0, h1, h2, h3, h5, h6⟩, c1, c2, c3⟩ := hI
        have hun := (mem_ready.1 hi).1
        have hpl : w'.heap[B]? = some (.cells #[.int .i64 a, .int .i64 D, .int .i64 e0, .int .i64 k] 102 (0, 0)) := by
          cases q4 with
          | false => rw [c1 rfl]; exact hPc
          | true => rcases c2 rfl with ⟨_, _, hk⟩ | ⟨_, _, hk⟩ <;> exact hPW _ hk
        rcases i with _ | _ | _ | _ | _ | _ | _ | i
        · refine wpOpIn_want rfl rfl (fun K hK => ?_)
          have H := Lib.hid (And.intro h1 (And.intro h2 (And.intro h3 (And.intro h5 (And.intro h6 (And.intro c1 (And.intro c2 c3)))))))
          clear h0 h1 h2 h3 h5 h6 c1 c2 c3 hpl
          go_simp
          obtain ⟨h1, h2, h3, h5, h6, c1, c2, c3⟩ := H.out
          exact hK _ _ ⟨true, q1, q2, q3, q4, q5, q6, _, x17, x18, x19, x20, x8, x9, rfl, rfl, ⟨fun _ => rfl, h1, h2, h3, h5, h6⟩, c1, c2, c3⟩
        · have d0 : q0 = true := dep hi rfl ⟨0, .data⟩ (by simp) rfl
          obtain rfl := (h0 d0).symm
          have hc : w'.cell? ⟨B, 2, none⟩ = some (.int .i64 e0) := cell_of_row _ _ _ _ _ _ hpl
          refine wpOpIn_want rfl rfl (fun K hK => ?_)
          have H := Lib.hid (And.intro h0 (And.intro h2 (And.intro h3 (And.intro h5 (And.intro h6 (And.intro c1 (And.intro c2 c3)))))))
          clear h0 h1 h2 h3 h5 h6 c1 c2 c3 hpl
          go_simp
          obtain ⟨h0, h2, h3, h5, h6, c1, c2, c3⟩ := H.out
          exact hK _ _ ⟨q0, true, q2, q3, q4, q5, q6, _, _, x18, x19, x20, x8, x9, rfl, rfl, ⟨h0, fun _ => rfl, h2, h3, h5, h6⟩, c1, c2, c3⟩
        · refine wpOpIn_want rfl rfl (fun K hK => ?_)
          have H := Lib.hid (And.intro h0 (And.intro h1 (And.intro h3 (And.intro h5 (And.intro h6 (And.intro c1 (And.intro c2 c3)))))))
          clear h0 h1 h2 h3 h5 h6 c1 c2 c3 hpl
          go_simp
          obtain ⟨h0, h1, h3, h5, h6, c1, c2, c3⟩ := H.out
          exact hK _ _ ⟨q0, q1, true, q3, q4, q5, q6, x16, x17, _, x19, x20, x8, x9, rfl, rfl, ⟨h0, h1, fun _ => rfl, h3, h5, h6⟩, c1, c2, c3⟩
        · refine wpOpIn_want rfl rfl (fun K hK => ?_)
          have H := Lib.hid (And.intro h0 (And.intro h1 (And.intro h2 (And.intro h5 (And.intro h6 (And.intro c1 (And.intro c2 c3)))))))
          have HPL := Lib.hid hpl
          have hl0 : w'.cell? ⟨B, 0, none⟩ = some (.int .i64 a) := cell_of_row _ _ _ _ _ _ hpl
          have hl1 : w'.cell? ⟨B, 1, none⟩ = some (.int .i64 D) := cell_of_row _ _ _ _ _ _ hpl
          have hl2 : w'.cell? ⟨B, 2, none⟩ = some (.int .i64 e0) := cell_of_row _ _ _ _ _ _ hpl
          have hl3 : w'.cell? ⟨B, 3, none⟩ = some (.int .i64 k) := cell_of_row _ _ _ _ _ _ hpl
          clear h0 h1 h2 h3 h5 h6 c1 c2 c3 hpl
          go_simp
          obtain ⟨h0, h1, h2, h5, h6, c1, c2, c3⟩ := H.out
          exact hK _ _ ⟨q0, q1, q2, true, q4, q5, q6, x16, x17, x18, _, x20, x8, x9, rfl, rfl, ⟨h0, h1, h2, fun _ => rfl, h5, h6⟩, c1, c2, c3⟩
        · have e4 : q4 = false := hun
          have d2 : q2 = true := dep hi rfl ⟨2, .data⟩ (by simp) rfl
          have d3 : q3 = true := dep hi rfl ⟨3, .data⟩ (by simp) rfl
          have f6 : q6 = false := by cases q6 with | false => rfl | true => exact absurd (c3 rfl) (by simp [e4])
          obtain rfl := (h2 d2).symm
          obtain rfl := (h3 d3).symm
          obtain rfl := (c1 e4).symm
          subst f6
          refine wpOpIn_want rfl rfl (fun K hK => ?_)
          have H := Lib.hid (And.intro h0 (And.intro h1 (And.intro h2 (And.intro h3 h5))))
          clear h0 h1 h2 h3 h5 h6 c1 c2 c3 hpl
          go_simp
          refine ⟨hdd _, hR.mono ?_⟩
          rintro e W3 hyp
          obtain ⟨v, rfl⟩ : ∃ v, e = .returned v := by rcases hyp with ⟨rfl, _⟩ | ⟨rfl, _⟩ <;> exact ⟨_, rfl⟩
          obtain ⟨h0, h1, h2, h3, h5⟩ := H.out
          exact hK _ _ ⟨q0, q1, q2, q3, true, q5, false, x16, x17, _, _, v, x8, x9, rfl, rfl, ⟨h0, h1, h2, h3, h5, fun h => by cases h⟩, fun h => (by cases h), fun _ => hyp, fun h => (by cases h)⟩
        · have d1 : q1 = true := dep hi rfl ⟨1, .data⟩ (by simp) rfl
          obtain rfl := (h1 d1).symm
          refine wpOpIn_want rfl rfl (fun K hK => ?_)
          have H := Lib.hid (And.intro h0 (And.intro h1 (And.intro h2 (And.intro h3 (And.intro h6 (And.intro c1 (And.intro c2 c3)))))))
          clear h0 h1 h2 h3 h5 h6 c1 c2 c3 hpl
          go_simp
          obtain ⟨h0, h1, h2, h3, h6, c1, c2, c3⟩ := H.out
          exact hK _ _ ⟨q0, q1, q2, q3, q4, true, q6, x16, _, x18, x19, x20, _, x9, rfl, rfl, ⟨h0, h1, h2, h3, fun _ => rfl, h6⟩, c1, c2, c3⟩
        · have d4 : q4 = true := dep hi rfl ⟨4, .data⟩ (by simp) rfl
          refine wpOpIn_want rfl rfl (fun K hK => ?_)
          have H := Lib.hid (And.intro h0 (And.intro h1 (And.intro h2 (And.intro h3 (And.intro h5 (And.intro c1 c2))))))
          clear h0 h1 h2 h3 h5 h6 c1 c2 c3 hpl
          go_simp
          obtain ⟨h0, h1, h2, h3, h5, c1, c2⟩ := H.out
          exact hK _ _ ⟨q0, q1, q2, q3, q4, q5, true, x16, x17, x18, x19, x20, x8, _, rfl, rfl, ⟨h0, h1, h2, h3, h5, fun _ => rfl⟩, c1, c2, fun _ => d4⟩
        · exact absurd (mem_ready.1 hi).2 (by rintro ⟨o, ho, _⟩; simp at ho)
      · rintro listed a' w' ⟨q0, q1, q2, q3, q4, q5, q6, x16, x17, x18, x19, x20, x8, x9, rfl, rfl, ⟨h0, h1, h2, h3, h5, h6⟩, c1, c2, c3⟩ hr
        have hall := fun i (hi : i < 7) => all_listed (by kernel_rfl) rfl hr 7 i hi hi
        have e0' : q0 = true := hall 0 (by decide)
        have e1' : q1 = true := hall 1 (by decide)
        have e2' : q2 = true := hall 2 (by decide)
        have e3' : q3 = true := hall 3 (by decide)
        have e4' : q4 = true := hall 4 (by decide)
        have e5' : q5 = true := hall 5 (by decide)
        have e6' : q6 = true := hall 6 (by decide)
        obtain rfl := (h0 e0').symm
        obtain rfl := (h1 e1').symm
        obtain rfl := (h2 e2').symm
        obtain rfl := (h3 e3').symm
        obtain rfl := (h5 e5').symm
        obtain rfl := (h6 e6').symm
        have hyp := c2 e4'
        clear hall hr h0 h1 h2 h3 h5 h6 c1 c2 c3 e0' e1' e2' e3' e4' e5' e6' hy hR
        dsimp only
        have hst : ∃ m : Bool, x20 = .bool m ∧ KeepP U0 w' ∧ (m = true → J (pre ++ [⟨a, D, e0, k⟩]) w') ∧ (m = false → Jx (pre ++ [⟨a, D, e0, k⟩]) w') := by
          rcases hyp with ⟨he, hj, hk⟩ | ⟨he, hj, hk⟩
          · cases he; exact ⟨true, rfl, hk, fun _ => hj, fun h => (by cases h)⟩
          · cases he; exact ⟨false, rfl, hk, fun h => (by cases h), fun _ => hj⟩
        obtain ⟨m0, rfl, hk0, hj0, hx0⟩ := hst
        obtain ⟨VL, hVL⟩ : ∃ VL, VL = visL (visP (bl s) d) k e0 := ⟨_, rfl⟩
        have HPRE := Lib.hid hpre
        have HVL := Lib.hid hVL
        have HJ0 := Lib.hid hj0
        have HX0 := Lib.hid hx0
        have HK0 := Lib.hid hk0
        have HIH := Lib.hid ih
        have HL2 := Lib.hid hl2
        have HLE := Lib.hid hle0
        rw [← hVL] at HPRE ⊢
        have HPW := Lib.hid hPW
        have HBU : Hid (KeepP W U0) := Lib.hid (KeepP.of_below hB0)
        have HD := Lib.hid hD
        clear hA hY HY hyp hPW hpre hVL hj0 hx0 hk0 ih hJ HQ hl2 hle0 hPc hB0 mixed
        gi_wp2
        gi_loopw [8, 9, 11] (fun ev mv iv wr => ∃ (E I : Nat) (m : Bool), ev = .int .i64 E ∧ mv = .bool m ∧ iv = .int .i64 I ∧ I ≤ k ∧ Hid (KeepP U0 wr) ∧
            Hid (m = true → E ≤ s.size ∧ ∃ dn, VL = (dn ++ (visL (visP (bl s) d) (k - I) E).1, (visL (visP (bl s) d) (k - I) E).2) ∧ J (pre ++ ⟨a, D, e0, k⟩ :: dn) wr) ∧
            Hid (m = false → ∃ q, q <+: ⟨a, D, e0, k⟩ :: VL.1 ∧ Jx (pre ++ q) wr))
          (fun _ _ iv _ => k + 1 - (intOf iv).toNat)
        case atStart =>
          refine ⟨e0, 0, m0, rfl, rfl, rfl, Nat.zero_le _, HK0, Lib.hid (fun h => ⟨HLE.out, [], by rw [HVL.out]; rfl, HJ0.out h⟩), Lib.hid (fun h => ⟨[⟨a, D, e0, k⟩], ⟨VL.1, rfl⟩, HX0.out h⟩)⟩
        case round =>
          obtain ⟨E, I, m, rfl, rfl, rfl, hIk, hkp, hgo, hno⟩ := hrel
          cases m with
          | false =>
            gi_wp2
            go_ret2
            obtain ⟨q, hq, hx⟩ := hno.out (by first | rfl | trivial)
            rw [← HVL.out]
            exact .inr (.inl ⟨E, q, rfl, hq, hx, HBU.out.trans hkp.out⟩)
          | true =>
            have hpl := HPW.out wr hkp.out
            have hc3 : wr.cell? ⟨B, 3, none⟩ = some (.int .i64 k) := cell_of_row _ _ _ _ _ _ hpl
            clear hpl
            by_cases hik : I = k
            · have hq : ¬ (I : Int) < (k : Int) := by omega
              have HIK := Lib.hid hik
              clear hik hIk
              gi_wp2
              go_ret2
              obtain ⟨_, dn, hv, hj⟩ := hgo.out (by first | rfl | trivial)
              rw [HIK.out, Nat.sub_self] at hv
              have hv' : VL = (dn, E, 0) := by rw [hv]; simp [visL]
              rw [← HVL.out, hv']
              exact .inl ⟨rfl, rfl, hj, HBU.out.trans hkp.out⟩
            · have hq : (I : Int) < (k : Int) := by omega
              obtain ⟨hE, dn, hv, hj⟩ := hgo.out (by first | rfl | trivial)
              obtain ⟨r, hr⟩ : ∃ r, k - I = r + 1 := ⟨k - I - 1, by omega⟩
              have hr' : k - (I + 1) = r := by omega
              rw [hr, visL] at hv
              have hpx : pre ++ ⟨a, D, e0, k⟩ :: dn ++ (visP (bl s) d E).1 <+: L := by
                refine List.IsPrefix.trans ?_ HPRE.out
                rw [hv]
                split
                · exact ⟨(visL (visP (bl s) d) r (visP (bl s) d E).2.1).1, by simp⟩
                · exact ⟨[], by simp⟩
              have HC := Lib.hid (HIH.out (D + 1) E (pre ++ ⟨a, D, e0, k⟩ :: dn) (n - 1) wr (by have := HD.out; omega) (by omega) hE hpx hj)
              have hok := (vis_ok (bl s) d E (by omega) (by rw [bl_length]; exact hE)).2
              rw [bl_length] at hok
              have HOK := Lib.hid hok
              have HV := Lib.hid hv
              have HR := Lib.hid hr'
              have HEB := Lib.hid hE
              have hb1 : (I : Int) ≤ 32 := by have := HL2.out; omega
              have hb2 : (D : Int) ≤ 17 := by have := HD.out; omega
              have HI : Hid (I + 1 ≤ k) := Lib.hid (by omega)
              clear hik hIk hE hv hj hr hr' hpx hok h1 ha hD
              generalize visP (bl s) d E = vs at *
              obtain ⟨vl, ve, vf⟩ := vs
              gi_wp2_with (refine ⟨trivial, hdd _, ?_⟩; gi_at_call 105; refine HC.out.mono ?_; rintro e W3 (⟨hz, rfl, hj3, hk3⟩ | ⟨z, q, rfl, hq3, hx3, hk3⟩ | ⟨hz, rfl, hj3⟩))
              · go_roundw
                case rel =>
                  refine ⟨ve, I + 1, true, rfl, rfl, rfl, HI.out, Lib.hid (hkp.out.trans hk3), Lib.hid (fun _ => ⟨HOK.out hz, dn ++ vl, ?_, ?_⟩), Lib.hid (fun h => by cases h)⟩
                  · have h := HV.out
                    rw [if_pos hz] at h
                    rw [HR.out, h]; simp
                  · simpa using hj3
                case measure => have := HI.out; simp [intOf]; omega
              · go_roundw
                case rel =>
                  refine ⟨z, I + 1, false, rfl, rfl, rfl, HI.out, Lib.hid (hkp.out.trans hk3), Lib.hid (fun h => by cases h), Lib.hid (fun _ => ⟨⟨a, D, e0, k⟩ :: dn ++ q, ?_, ?_⟩)⟩
                  · obtain ⟨t, ht⟩ := hq3
                    have h := HV.out
                    split at h
                    · rw [h]; exact ⟨t ++ (visL (visP (bl s) d) r ve).1, by simp [← ht]⟩
                    · rw [h]; exact ⟨t, by simp [← ht]⟩
                  · simpa using hx3
                case measure => have := HI.out; simp [intOf]; omega
              · refine ⟨rfl, .inr (.inr ?_)⟩
                have h := HV.out
                rw [if_neg hz] at h
                rw [← HVL.out, h]
                exact ⟨hz, rfl, by simpa using hj3⟩
      · exact ⟨false, false, false, false, false, false, false, undef, undef, undef, undef, undef, .int .i64 0, .bool false, rfl, rfl, by simp, by simp, by simp, by simp⟩
    · have HH := Lib.hid hh
      have HJ := Lib.hid (fun V b => hA pre W V hJ b)
      have HV : Hid (visP (bl s) (d + 1) a = ([], 0, (headP ((bl s).drop a)).2.2)) := Lib.hid (by rw [visP, if_neg hh])
      rw [HV.out]
      clear hA hY hJ hpre ih hh
      refine callsIn_of_wp Tryz.func105 rfl trivial ?_ rfl
      simp only [Tryz.ntmps105, List.size_toArray, List.length_cons, List.length_nil, Nat.reduceAdd, Nat.reduceSub, Array.replicate_succ, Array.replicate_zero, List.push_toArray, List.append_toArray, List.nil_append, List.cons_append]
      gi_wp2_with (refine ⟨trivial, hdd _, ?_⟩; gi_at_call 136; refine (callsIn_wide.2 (HP.out _)).mono ?_; rintro e w1 ⟨h2, b1⟩; rw [if_neg HH.out] at h2; subst h2)
      exact ⟨rfl, .inr (.inr ⟨HH.out, rfl, by simpa using HJ.out _ b1⟩)⟩
end Go.Proofs.YtbdlegjklfkdmaaGreatDoor.Pl
