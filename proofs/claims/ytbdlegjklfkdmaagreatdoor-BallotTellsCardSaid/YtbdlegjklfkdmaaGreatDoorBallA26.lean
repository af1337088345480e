/- The program's own ballot: Read. -/
import Derived.Test.YtbdlegjklfkdmaaGreatDoorBallA25
import Derived.Test.YtbdlegjklfkdmaaGreatDoorBallA11
import Derived.Test.YtbdlegjklfkdmaaGreatDoorBallA10
namespace Go.Proofs.YtbdlegjklfkdmaaGreatDoor.Pl
open Go.RowKit

theorem parts13_any (t : ByteArray) (ht : t.size ≤ 281474976710656) (w : World) :
    Calls Tryz.prog 23 #[.string t] w fun e w' => (∃ ao cap, e = .returned (.tuple #[.slice ao (partsB t).length cap, .bool (partsP (bl t)).2]) ∧ (partsB t).length ≤ cap ∧ TxtRow w' ao (partsB t) ∧ (∀ g off, ao = some ⟨g, off, none⟩ → w.heap.size ≤ g)) ∧ Below w.heap.size w w' := by
  refine (parts12_any t ht w).mono ?_
  rintro e w' ⟨ao, cap, h1, h2, h3, h4, h5⟩
  exact ⟨⟨ao, cap, h1, h2, h3, h4⟩, h5⟩
/-- What Read answers: the ballot, its members in a row of its own. -/
def RdOw (w : World) (o : Option Bt) : Ending → World → Prop := fun x w' => (∃ ao cap, x = .returned (.tuple #[.agg (btC (btGet o) (.slice ao (btGet o).mem.length cap)), .bool o.isSome]) ∧ OwnM w' w.heap.size (.slice ao (btGet o).mem.length cap) (btGet o).mem) ∧ Below w.heap.size w w'
theorem bo_none {w V : World} (hb : Below w.heap.size w V) : RdOw w none (.returned (.tuple #[.agg #[.int .i64 0, .int .i64 0, .int .i64 0, .int .i64 0, .slice none 0 0, .int .i64 0], .bool false])) (V.setRow w.heap.size #[.int .i64 0, .int .i64 0, .int .i64 0, .int .i64 0, .slice none 0 0, .int .i64 0]) :=
  ⟨⟨none, 0, rfl, ownM_nil _ _⟩, hb.trans (turn_to (turn_row V w.heap.size _) (fun b e => by omega) hb.size)⟩
theorem bo_some {w V : World} {b : Bt} {uo : Option Addr} {uc : Nat} (hb : Below w.heap.size w V) (ho : OwnM V (w.heap.size + 1) (.slice uo b.mem.length uc) b.mem) : RdOw w (some b) (.returned (.tuple #[.agg (btC b (.slice uo b.mem.length uc)), .bool true])) (V.setRow w.heap.size (btC b (.slice uo b.mem.length uc))) := by
  have t := turn_row V w.heap.size (btC b (.slice uo b.mem.length uc))
  have ho := ownM_turn ho t (fun k e => by omega)
  exact ⟨⟨uo, uc, rfl, ownM_low ho (by omega)⟩, hb.trans (turn_to t (fun b e => by omega) hb.size)⟩

set_option maxHeartbeats 2000000 in
set_option maxRecDepth 100000 in
theorem rd0_any (w : World) (R : Nat) (z : Bool) (ps : List ByteArray) (b : Bt) (p : ByteArray) (_ : p.size ≤ 16384) (W : World) (h : St13 w R ⟨z, ps, b⟩ W) :
    Calls Tryz.prog 42 #[.string p] W fun x W' => x = .returned (.bool (f0 b p).2) ∧ St13 w R ⟨z, ps, (f0 b p).1⟩ W' := by
  have HH := Lib.hid (fun V => head13_any V)
  have S0 := Lib.hid h
  obtain ⟨y, hy⟩ : ∃ y, y = tb (dataP ballotW).1 := ⟨_, rfl⟩
  unfold f0
  rw [← hy] at HH ⊢
  dsimp only
  clear h hy
  go_enter Tryz.func42, Tryz.ntmps42
  go_wp2_with fail
  refine (HH.out _).mono ?_; rintro e1 w1 ⟨rfl, b1⟩
  have S1 := Lib.hid (S0.out.below b1)
  clear b1
  go_wp2_with fail
  go_ret
  exact ⟨by rw [show (p.toList == y.toList) = decide (p = y) from str_eq13 p y]; rfl, S1.out⟩

set_option maxHeartbeats 2000000 in
set_option maxRecDepth 100000 in
theorem rd1_any (w : World) (R : Nat) (z : Bool) (ps : List ByteArray) (b : Bt) (p : ByteArray) (hp : p.size ≤ 16384) (W : World) (h : St13 w R ⟨z, ps, b⟩ W) :
    Calls Tryz.prog 44 #[.string p, .pointer (some ⟨w.heap.size + 1, 0, none⟩)] W fun x W' => x = .returned (.bool (f1 b p).2) ∧ St13 w R ⟨z, ps, (f1 b p).1⟩ W' := by
  have HT := Lib.hid (fun V => readtxn12_any p (by omega) V)
  have S0 := Lib.hid h
  unfold f1
  dsimp only
  generalize (txnR p).isSome = k at *
  generalize txGet (txnR p) = x at *
  obtain ⟨c', e', q'⟩ := x
  rw [show txV (c', e', q') = .agg #[.int .i64 c', .int .i64 e', .int .i64 q'] from rfl] at HT
  dsimp only
  clear h hp
  go_enter Tryz.func44, Tryz.ntmps44
  go_wp2_with fail
  refine (HT.out _).mono ?_; rintro e1 w1 ⟨rfl, b1⟩
  have S1 := Lib.hid (S0.out.below b1)
  clear b1
  obtain ⟨-, ⟨v, hB, hO⟩, -⟩ := S1.out
  obtain ⟨x0, x1, x2, x3, x4, x5⟩ := hB.cells
  have y0 := hB.frozen 0
  have y1 := hB.frozen 1
  have y2 := hB.frozen 2
  have HB := Lib.hid hB
  have HO := Lib.hid hO
  clear hB hO
  go_wp2_with fail
  go_ret
  have s1 := S1.out.setB (b' := ⟨c', b.e, b.q, b.aud, b.mem, b.org⟩) (k := 0) (u := .int .i64 c') HB.out HO.out rfl S1.out.2.2.2.2.2.2.2.2
  have t1 := turn_cell w1 (w.heap.size + 1) 0 (.int .i64 c')
  have b1 : BAt (w1.setCell ⟨w.heap.size + 1, 0, none⟩ (.int .i64 c')) (w.heap.size + 1) ⟨c', b.e, b.q, b.aud, b.mem, b.org⟩ v := gset13 HB.out 0 _
  have hR := S1.out.1
  have o1 := ownM_turn HO.out t1 (fun j e => by omega)
  have s2 := s1.setB (b' := ⟨c', e', b.q, b.aud, b.mem, b.org⟩) (k := 1) (u := .int .i64 e') b1 o1 rfl S1.out.2.2.2.2.2.2.2.2
  have b2 : BAt ((w1.setCell ⟨w.heap.size + 1, 0, none⟩ (.int .i64 c')).setCell ⟨w.heap.size + 1, 1, none⟩ (.int .i64 e')) (w.heap.size + 1) ⟨c', e', b.q, b.aud, b.mem, b.org⟩ v := gset13 b1 1 _
  have o2 := ownM_turn o1 (turn_cell _ (w.heap.size + 1) 1 (.int .i64 e')) (fun j e => by omega)
  exact ⟨rfl, s2.setB (b' := ⟨c', e', q', b.aud, b.mem, b.org⟩) (k := 2) (u := .int .i64 q') b2 o2 rfl S1.out.2.2.2.2.2.2.2.2⟩

set_option maxHeartbeats 2000000 in
set_option maxRecDepth 100000 in
theorem rd2_any (w : World) (R : Nat) (z : Bool) (ps : List ByteArray) (b : Bt) (p : ByteArray) (hp : p.size ≤ 16384) (W : World) (h : St13 w R ⟨z, ps, b⟩ W) :
    Calls Tryz.prog 46 #[.string p, .pointer (some ⟨w.heap.size + 1, 0, none⟩)] W fun x W' => x = .returned (.bool (f2 b p).2) ∧ St13 w R ⟨z, ps, (f2 b p).1⟩ W' := by
  have HN := Lib.hid (fun V => readnum6_any p (by omega) V)
  have S0 := Lib.hid h
  unfold f2
  dsimp only
  generalize readnumP (bl p) = x at *
  obtain ⟨n, k⟩ := x
  rw [show nb2 (n, k) = .tuple #[.int .i64 n, .bool k] from rfl] at HN
  dsimp only
  clear h hp
  go_enter Tryz.func46, Tryz.ntmps46
  go_wp2_with fail
  refine (HN.out _).mono ?_; rintro e1 w1 ⟨rfl, b1⟩
  have S1 := Lib.hid (S0.out.below b1)
  clear b1
  obtain ⟨-, ⟨v, hB, hO⟩, -⟩ := S1.out
  obtain ⟨x0, x1, x2, x3, x4, x5⟩ := hB.cells
  have y0 := hB.frozen 3
  have HB := Lib.hid hB
  have HO := Lib.hid hO
  clear hB hO
  go_wp2_with fail
  go_ret
  exact ⟨rfl, S1.out.setB (b' := ⟨b.c, b.e, b.q, (n : Int), b.mem, b.org⟩) (k := 3) (u := .int .i64 n) HB.out HO.out rfl S1.out.2.2.2.2.2.2.2.2⟩

set_option maxHeartbeats 2000000 in
set_option maxRecDepth 100000 in
theorem rd4_any (w : World) (R : Nat) (z : Bool) (ps : List ByteArray) (b : Bt) (p : ByteArray) (hp : p.size ≤ 16384) (W : World) (h : St13 w R ⟨z, ps, b⟩ W) :
    Calls Tryz.prog 50 #[.string p, .pointer (some ⟨w.heap.size + 1, 0, none⟩)] W fun x W' => x = .returned (.bool (f4 b p).2) ∧ St13 w R ⟨z, ps, (f4 b p).1⟩ W' := by
  have HN := Lib.hid (fun V => readnum6_any p (by omega) V)
  have S0 := Lib.hid h
  unfold f4
  dsimp only
  generalize readnumP (bl p) = x at *
  obtain ⟨n, k⟩ := x
  rw [show nb2 (n, k) = .tuple #[.int .i64 n, .bool k] from rfl] at HN
  dsimp only
  clear h hp
  go_enter Tryz.func50, Tryz.ntmps50
  go_wp2_with fail
  refine (HN.out _).mono ?_; rintro e1 w1 ⟨rfl, b1⟩
  have S1 := Lib.hid (S0.out.below b1)
  clear b1
  obtain ⟨-, ⟨v, hB, hO⟩, -⟩ := S1.out
  obtain ⟨x0, x1, x2, x3, x4, x5⟩ := hB.cells
  have y0 := hB.frozen 5
  have HB := Lib.hid hB
  have HO := Lib.hid hO
  clear hB hO
  go_wp2_with fail
  go_ret
  exact ⟨rfl, S1.out.setB (b' := ⟨b.c, b.e, b.q, b.aud, b.mem, (n : Int)⟩) (k := 5) (u := .int .i64 n) HB.out HO.out rfl S1.out.2.2.2.2.2.2.2.2⟩

set_option maxHeartbeats 2000000 in
set_option maxRecDepth 100000 in
theorem rd3_any (w : World) (R : Nat) (z : Bool) (ps : List ByteArray) (b : Bt) (p : ByteArray) (hp : p.size ≤ 16384) (W : World) (h : St13 w R ⟨z, ps, b⟩ W) :
    Calls Tryz.prog 48 #[.string p, .pointer (some ⟨w.heap.size + 1, 0, none⟩)] W fun x W' => x = .returned (.bool (f3 b p).2) ∧ St13 w R ⟨z, ps, (f3 b p).1⟩ W' := by
  have HM := Lib.hid (fun V => readmem12_any b.c b.e b.q p (by omega) V)
  have S0 := Lib.hid h
  unfold f3
  dsimp only
  have HF := Lib.hid (show (∀ x ∈ (membersR b.c p).getD [], x.2.size ≤ 30000) ∧ ((membersR b.c p).getD []).length ≤ 1000000 from ⟨(memR_fit13 b.c p).1, by have := (memR_fit13 b.c p).2; omega⟩)
  generalize (membersR b.c p).isSome = k at *
  generalize (membersR b.c p).getD [] = l at *
  clear hp
  obtain ⟨-, ⟨v, hB, -⟩, -⟩ := h
  obtain ⟨x0, x1, x2, x3, x4, x5⟩ := hB.cells
  clear hB
  go_enter Tryz.func48, Tryz.ntmps48
  go_wp2_with fail
  refine (HM.out _).mono ?_; rintro e1 w1 ⟨⟨u, rfl, hu⟩, b1⟩
  have S1 := Lib.hid (S0.out.below b1)
  have HU := Lib.hid (ownM_low hu (show R + 2 ≤ W.heap.size from (Array.getElem?_eq_some_iff.1 S0.out.2.2.2.1).1))
  clear b1 hu x0 x1 x2 x3 x4 x5
  obtain ⟨-, ⟨v, hB, hO⟩, -⟩ := S1.out
  obtain ⟨x0, x1, x2, x3, x4, x5⟩ := hB.cells
  have y0 := hB.frozen 4
  have HB := Lib.hid hB
  obtain ⟨uo, uc, rfl, -⟩ := ownM_row HU.out
  clear hB hO
  go_wp2_with fail
  go_ret
  exact ⟨rfl, S1.out.setB (b' := ⟨b.c, b.e, b.q, b.aud, l, b.org⟩) (k := 4) HB.out HU.out rfl HF.out⟩

set_option maxHeartbeats 2000000 in
set_option maxRecDepth 100000 in
theorem nx0_any (w : World) (R : Nat) (s : RdS) (W : World) (h : St13 w R s W) :
    Calls Tryz.prog 41 #[.func (.func 42) #[] #[], .pointer (some ⟨R + 1, 0, none⟩), .pointer (some ⟨R, 0, none⟩)] W fun x W' => (∃ v, x = .returned v) ∧ St13 w R (nextS f0 s) W' := by
  obtain ⟨z, ps, b⟩ := s
  have S0 := Lib.hid h
  obtain ⟨-, -, ⟨ao, cap, hB, hc, hT, hg⟩, hI, hsz, -⟩ := h
  dsimp only at hB hc hT hg hI hsz
  have c1 := hI.cell
  have f1' := hI.frozen
  have c2 := hB.cell
  cases z with
  | false =>
    rw [next_stays rfl]
    clear hB hc hT hg hI hsz
    go_enter Tryz.func41, Tryz.ntmps41
    go_wp2_with fail
    go_end0
    exact ⟨⟨_, rfl⟩, S0.out.setI false⟩
  | true =>
    cases ps with
    | nil =>
      rw [next_out]
      rw [List.length_nil] at c2
      clear hB hc hT hg hI hsz
      go_enter Tryz.func41, Tryz.ntmps41
      go_wp2_with fail
      go_end0
      exact ⟨⟨_, rfl⟩, S0.out.setI false⟩
    | cons p r =>
      have hg := hg (by simp)
      rcases hT with hT | ⟨g, off, rfl, hlt, hcs⟩
      · cases hT
      have c0 := hcs 0 (by simp)
      rw [Nat.add_zero] at c0
      try dsimp only [List.getElem_cons_zero] at c0
      have HC := Lib.hid (rd0_any w R true (p :: r) b p (hsz p (by simp)) W S0.out)
      have hn1 : (0 : Int) < ((p :: r).length : Int) := by rw [List.length_cons]; omega
      have hn2 : 0 < (p :: r).length := by rw [List.length_cons]; omega
      obtain ⟨n, hn⟩ : ∃ n, n = (p :: r).length := ⟨_, rfl⟩
      rw [← hn] at c2 hn1 hn2
      clear hB hc hcs hg hI hsz hlt hn
      cases hk : (f0 b p).2 with
      | false =>
        rw [next_not hk]
        rw [hk] at HC
        go_enter Tryz.func41, Tryz.ntmps41
        go_wp2_with fail
        refine HC.out.mono ?_; rintro e1 w1 ⟨rfl, s1⟩
        have S1 := Lib.hid s1
        clear c1 f1' c2 c0
        have c1 := s1.2.2.2.1.cell
        have f1' := s1.2.2.2.1.frozen
        dsimp only at c1 f1'
        clear s1
        go_wp2_with fail
        go_end0
        exact ⟨⟨_, rfl⟩, S1.out.setI false⟩
      | true =>
        rw [next_yes hk]
        rw [hk] at HC
        go_enter Tryz.func41, Tryz.ntmps41
        go_wp2_with fail
        refine HC.out.mono ?_; rintro e1 w1 ⟨rfl, s1⟩
        clear c1 f1' c2 c0
        have c1 := s1.2.2.2.1.cell
        have f1' := s1.2.2.2.1.frozen
        dsimp only at c1 f1'
        have S2 := Lib.hid (s1.setI true)
        clear s1
        obtain ⟨-, -, ⟨ao, cap, hB, hc, hT, hg⟩, -⟩ := S2.out
        dsimp only at hB hc hT hg
        have hg := hg (by simp)
        rcases hT with hT | ⟨g2, off2, rfl, hlt, hcs⟩
        · cases hT
        have c2 := hB.cell
        have f2' := hB.frozen
        have HS := Lib.hid (S2.out.cut hB hc (.inr ⟨g2, off2, rfl, hlt, hcs⟩) (hg g2 off2 rfl))
        have hcr : ∀ V, (Instr.sliceAt 53 (.slice (some ⟨g2, off2, none⟩) (p :: r).length cap) (some (.int .i64 1)) none none).run Tryz.prog V = .ok (.slice (if cap = 1 then some ⟨g2, off2, none⟩ else (some ⟨g2, off2, none⟩ : Option Addr).map (·.add 1)) ((p :: r).length - 1) (cap - 1)) V := fun V => cut_rest (some ⟨g2, off2, none⟩) (p :: r).length cap 1 (by simp) V
        rw [show (p :: r).length - 1 = r.length by simp] at hcr
        generalize (if cap = 1 then some ⟨g2, off2, none⟩ else (some ⟨g2, off2, none⟩ : Option Addr).map (·.add 1)) = ao2 at *
        obtain ⟨m, hm⟩ : ∃ m, m = (p :: r).length := ⟨_, rfl⟩
        rw [← hm] at c2 hcr
        clear hB hc hcs hg hlt hm
        have HW := Lib.hid (show w1.setCell ⟨R + 1, 0, none⟩ (.bool true) = w1.setCell ⟨R + 1, 0, none⟩ (.bool true) from rfl)
        go_wp2_with fail
        go_end0
        exact ⟨⟨_, rfl⟩, HS.out⟩

set_option maxHeartbeats 2000000 in
set_option maxRecDepth 100000 in
theorem nx1_any (w : World) (R : Nat) (s : RdS) (W : World) (h : St13 w R s W) :
    Calls Tryz.prog 41 #[.func (.func 44) #[] #[.pointer (some ⟨w.heap.size + 1, 0, none⟩)], .pointer (some ⟨R + 1, 0, none⟩), .pointer (some ⟨R, 0, none⟩)] W fun x W' => (∃ v, x = .returned v) ∧ St13 w R (nextS f1 s) W' := by
  obtain ⟨z, ps, b⟩ := s
  have S0 := Lib.hid h
  obtain ⟨-, -, ⟨ao, cap, hB, hc, hT, hg⟩, hI, hsz, -⟩ := h
  dsimp only at hB hc hT hg hI hsz
  have c1 := hI.cell
  have f1' := hI.frozen
  have c2 := hB.cell
  cases z with
  | false =>
    rw [next_stays rfl]
    clear hB hc hT hg hI hsz
    go_enter Tryz.func41, Tryz.ntmps41
    go_wp2_with fail
    go_end0
    exact ⟨⟨_, rfl⟩, S0.out.setI false⟩
  | true =>
    cases ps with
    | nil =>
      rw [next_out]
      rw [List.length_nil] at c2
      clear hB hc hT hg hI hsz
      go_enter Tryz.func41, Tryz.ntmps41
      go_wp2_with fail
      go_end0
      exact ⟨⟨_, rfl⟩, S0.out.setI false⟩
    | cons p r =>
      have hg := hg (by simp)
      rcases hT with hT | ⟨g, off, rfl, hlt, hcs⟩
      · cases hT
      have c0 := hcs 0 (by simp)
      rw [Nat.add_zero] at c0
      try dsimp only [List.getElem_cons_zero] at c0
      have HC := Lib.hid (rd1_any w R true (p :: r) b p (hsz p (by simp)) W S0.out)
      have hn1 : (0 : Int) < ((p :: r).length : Int) := by rw [List.length_cons]; omega
      have hn2 : 0 < (p :: r).length := by rw [List.length_cons]; omega
      obtain ⟨n, hn⟩ : ∃ n, n = (p :: r).length := ⟨_, rfl⟩
      rw [← hn] at c2 hn1 hn2
      clear hB hc hcs hg hI hsz hlt hn
      cases hk : (f1 b p).2 with
      | false =>
        rw [next_not hk]
        rw [hk] at HC
        go_enter Tryz.func41, Tryz.ntmps41
        go_wp2_with fail
        refine HC.out.mono ?_; rintro e1 w1 ⟨rfl, s1⟩
        have S1 := Lib.hid s1
        clear c1 f1' c2 c0
        have c1 := s1.2.2.2.1.cell
        have f1' := s1.2.2.2.1.frozen
        dsimp only at c1 f1'
        clear s1
        go_wp2_with fail
        go_end0
        exact ⟨⟨_, rfl⟩, S1.out.setI false⟩
      | true =>
        rw [next_yes hk]
        rw [hk] at HC
        go_enter Tryz.func41, Tryz.ntmps41
        go_wp2_with fail
        refine HC.out.mono ?_; rintro e1 w1 ⟨rfl, s1⟩
        clear c1 f1' c2 c0
        have c1 := s1.2.2.2.1.cell
        have f1' := s1.2.2.2.1.frozen
        dsimp only at c1 f1'
        have S2 := Lib.hid (s1.setI true)
        clear s1
        obtain ⟨-, -, ⟨ao, cap, hB, hc, hT, hg⟩, -⟩ := S2.out
        dsimp only at hB hc hT hg
        have hg := hg (by simp)
        rcases hT with hT | ⟨g2, off2, rfl, hlt, hcs⟩
        · cases hT
        have c2 := hB.cell
        have f2' := hB.frozen
        have HS := Lib.hid (S2.out.cut hB hc (.inr ⟨g2, off2, rfl, hlt, hcs⟩) (hg g2 off2 rfl))
        have hcr : ∀ V, (Instr.sliceAt 53 (.slice (some ⟨g2, off2, none⟩) (p :: r).length cap) (some (.int .i64 1)) none none).run Tryz.prog V = .ok (.slice (if cap = 1 then some ⟨g2, off2, none⟩ else (some ⟨g2, off2, none⟩ : Option Addr).map (·.add 1)) ((p :: r).length - 1) (cap - 1)) V := fun V => cut_rest (some ⟨g2, off2, none⟩) (p :: r).length cap 1 (by simp) V
        rw [show (p :: r).length - 1 = r.length by simp] at hcr
        generalize (if cap = 1 then some ⟨g2, off2, none⟩ else (some ⟨g2, off2, none⟩ : Option Addr).map (·.add 1)) = ao2 at *
        obtain ⟨m, hm⟩ : ∃ m, m = (p :: r).length := ⟨_, rfl⟩
        rw [← hm] at c2 hcr
        clear hB hc hcs hg hlt hm
        have HW := Lib.hid (show w1.setCell ⟨R + 1, 0, none⟩ (.bool true) = w1.setCell ⟨R + 1, 0, none⟩ (.bool true) from rfl)
        go_wp2_with fail
        go_end0
        exact ⟨⟨_, rfl⟩, HS.out⟩

set_option maxHeartbeats 2000000 in
set_option maxRecDepth 100000 in
theorem nx2_any (w : World) (R : Nat) (s : RdS) (W : World) (h : St13 w R s W) :
    Calls Tryz.prog 41 #[.func (.func 46) #[] #[.pointer (some ⟨w.heap.size + 1, 0, none⟩)], .pointer (some ⟨R + 1, 0, none⟩), .pointer (some ⟨R, 0, none⟩)] W fun x W' => (∃ v, x = .returned v) ∧ St13 w R (nextS f2 s) W' := by
  obtain ⟨z, ps, b⟩ := s
  have S0 := Lib.hid h
  obtain ⟨-, -, ⟨ao, cap, hB, hc, hT, hg⟩, hI, hsz, -⟩ := h
  dsimp only at hB hc hT hg hI hsz
  have c1 := hI.cell
  have f1' := hI.frozen
  have c2 := hB.cell
  cases z with
  | false =>
    rw [next_stays rfl]
    clear hB hc hT hg hI hsz
    go_enter Tryz.func41, Tryz.ntmps41
    go_wp2_with fail
    go_end0
    exact ⟨⟨_, rfl⟩, S0.out.setI false⟩
  | true =>
    cases ps with
    | nil =>
      rw [next_out]
      rw [List.length_nil] at c2
      clear hB hc hT hg hI hsz
      go_enter Tryz.func41, Tryz.ntmps41
      go_wp2_with fail
      go_end0
      exact ⟨⟨_, rfl⟩, S0.out.setI false⟩
    | cons p r =>
      have hg := hg (by simp)
      rcases hT with hT | ⟨g, off, rfl, hlt, hcs⟩
      · cases hT
      have c0 := hcs 0 (by simp)
      rw [Nat.add_zero] at c0
      try dsimp only [List.getElem_cons_zero] at c0
      have HC := Lib.hid (rd2_any w R true (p :: r) b p (hsz p (by simp)) W S0.out)
      have hn1 : (0 : Int) < ((p :: r).length : Int) := by rw [List.length_cons]; omega
      have hn2 : 0 < (p :: r).length := by rw [List.length_cons]; omega
      obtain ⟨n, hn⟩ : ∃ n, n = (p :: r).length := ⟨_, rfl⟩
      rw [← hn] at c2 hn1 hn2
      clear hB hc hcs hg hI hsz hlt hn
      cases hk : (f2 b p).2 with
      | false =>
        rw [next_not hk]
        rw [hk] at HC
        go_enter Tryz.func41, Tryz.ntmps41
        go_wp2_with fail
        refine HC.out.mono ?_; rintro e1 w1 ⟨rfl, s1⟩
        have S1 := Lib.hid s1
        clear c1 f1' c2 c0
        have c1 := s1.2.2.2.1.cell
        have f1' := s1.2.2.2.1.frozen
        dsimp only at c1 f1'
        clear s1
        go_wp2_with fail
        go_end0
        exact ⟨⟨_, rfl⟩, S1.out.setI false⟩
      | true =>
        rw [next_yes hk]
        rw [hk] at HC
        go_enter Tryz.func41, Tryz.ntmps41
        go_wp2_with fail
        refine HC.out.mono ?_; rintro e1 w1 ⟨rfl, s1⟩
        clear c1 f1' c2 c0
        have c1 := s1.2.2.2.1.cell
        have f1' := s1.2.2.2.1.frozen
        dsimp only at c1 f1'
        have S2 := Lib.hid (s1.setI true)
        clear s1
        obtain ⟨-, -, ⟨ao, cap, hB, hc, hT, hg⟩, -⟩ := S2.out
        dsimp only at hB hc hT hg
        have hg := hg (by simp)
        rcases hT with hT | ⟨g2, off2, rfl, hlt, hcs⟩
        · cases hT
        have c2 := hB.cell
        have f2' := hB.frozen
        have HS := Lib.hid (S2.out.cut hB hc (.inr ⟨g2, off2, rfl, hlt, hcs⟩) (hg g2 off2 rfl))
        have hcr : ∀ V, (Instr.sliceAt 53 (.slice (some ⟨g2, off2, none⟩) (p :: r).length cap) (some (.int .i64 1)) none none).run Tryz.prog V = .ok (.slice (if cap = 1 then some ⟨g2, off2, none⟩ else (some ⟨g2, off2, none⟩ : Option Addr).map (·.add 1)) ((p :: r).length - 1) (cap - 1)) V := fun V => cut_rest (some ⟨g2, off2, none⟩) (p :: r).length cap 1 (by simp) V
        rw [show (p :: r).length - 1 = r.length by simp] at hcr
        generalize (if cap = 1 then some ⟨g2, off2, none⟩ else (some ⟨g2, off2, none⟩ : Option Addr).map (·.add 1)) = ao2 at *
        obtain ⟨m, hm⟩ : ∃ m, m = (p :: r).length := ⟨_, rfl⟩
        rw [← hm] at c2 hcr
        clear hB hc hcs hg hlt hm
        have HW := Lib.hid (show w1.setCell ⟨R + 1, 0, none⟩ (.bool true) = w1.setCell ⟨R + 1, 0, none⟩ (.bool true) from rfl)
        go_wp2_with fail
        go_end0
        exact ⟨⟨_, rfl⟩, HS.out⟩

set_option maxHeartbeats 2000000 in
set_option maxRecDepth 100000 in
theorem nx3_any (w : World) (R : Nat) (s : RdS) (W : World) (h : St13 w R s W) :
    Calls Tryz.prog 41 #[.func (.func 48) #[] #[.pointer (some ⟨w.heap.size + 1, 0, none⟩)], .pointer (some ⟨R + 1, 0, none⟩), .pointer (some ⟨R, 0, none⟩)] W fun x W' => (∃ v, x = .returned v) ∧ St13 w R (nextS f3 s) W' := by
  obtain ⟨z, ps, b⟩ := s
  have S0 := Lib.hid h
  obtain ⟨-, -, ⟨ao, cap, hB, hc, hT, hg⟩, hI, hsz, -⟩ := h
  dsimp only at hB hc hT hg hI hsz
  have c1 := hI.cell
  have f1' := hI.frozen
  have c2 := hB.cell
  cases z with
  | false =>
    rw [next_stays rfl]
    clear hB hc hT hg hI hsz
    go_enter Tryz.func41, Tryz.ntmps41
    go_wp2_with fail
    go_end0
    exact ⟨⟨_, rfl⟩, S0.out.setI false⟩
  | true =>
    cases ps with
    | nil =>
      rw [next_out]
      rw [List.length_nil] at c2
      clear hB hc hT hg hI hsz
      go_enter Tryz.func41, Tryz.ntmps41
      go_wp2_with fail
      go_end0
      exact ⟨⟨_, rfl⟩, S0.out.setI false⟩
    | cons p r =>
      have hg := hg (by simp)
      rcases hT with hT | ⟨g, off, rfl, hlt, hcs⟩
      · cases hT
      have c0 := hcs 0 (by simp)
      rw [Nat.add_zero] at c0
      try dsimp only [List.getElem_cons_zero] at c0
      have HC := Lib.hid (rd3_any w R true (p :: r) b p (hsz p (by simp)) W S0.out)
      have hn1 : (0 : Int) < ((p :: r).length : Int) := by rw [List.length_cons]; omega
      have hn2 : 0 < (p :: r).length := by rw [List.length_cons]; omega
      obtain ⟨n, hn⟩ : ∃ n, n = (p :: r).length := ⟨_, rfl⟩
      rw [← hn] at c2 hn1 hn2
      clear hB hc hcs hg hI hsz hlt hn
      cases hk : (f3 b p).2 with
      | false =>
        rw [next_not hk]
        rw [hk] at HC
        go_enter Tryz.func41, Tryz.ntmps41
        go_wp2_with fail
        refine HC.out.mono ?_; rintro e1 w1 ⟨rfl, s1⟩
        have S1 := Lib.hid s1
        clear c1 f1' c2 c0
        have c1 := s1.2.2.2.1.cell
        have f1' := s1.2.2.2.1.frozen
        dsimp only at c1 f1'
        clear s1
        go_wp2_with fail
        go_end0
        exact ⟨⟨_, rfl⟩, S1.out.setI false⟩
      | true =>
        rw [next_yes hk]
        rw [hk] at HC
        go_enter Tryz.func41, Tryz.ntmps41
        go_wp2_with fail
        refine HC.out.mono ?_; rintro e1 w1 ⟨rfl, s1⟩
        clear c1 f1' c2 c0
        have c1 := s1.2.2.2.1.cell
        have f1' := s1.2.2.2.1.frozen
        dsimp only at c1 f1'
        have S2 := Lib.hid (s1.setI true)
        clear s1
        obtain ⟨-, -, ⟨ao, cap, hB, hc, hT, hg⟩, -⟩ := S2.out
        dsimp only at hB hc hT hg
        have hg := hg (by simp)
        rcases hT with hT | ⟨g2, off2, rfl, hlt, hcs⟩
        · cases hT
        have c2 := hB.cell
        have f2' := hB.frozen
        have HS := Lib.hid (S2.out.cut hB hc (.inr ⟨g2, off2, rfl, hlt, hcs⟩) (hg g2 off2 rfl))
        have hcr : ∀ V, (Instr.sliceAt 53 (.slice (some ⟨g2, off2, none⟩) (p :: r).length cap) (some (.int .i64 1)) none none).run Tryz.prog V = .ok (.slice (if cap = 1 then some ⟨g2, off2, none⟩ else (some ⟨g2, off2, none⟩ : Option Addr).map (·.add 1)) ((p :: r).length - 1) (cap - 1)) V := fun V => cut_rest (some ⟨g2, off2, none⟩) (p :: r).length cap 1 (by simp) V
        rw [show (p :: r).length - 1 = r.length by simp] at hcr
        generalize (if cap = 1 then some ⟨g2, off2, none⟩ else (some ⟨g2, off2, none⟩ : Option Addr).map (·.add 1)) = ao2 at *
        obtain ⟨m, hm⟩ : ∃ m, m = (p :: r).length := ⟨_, rfl⟩
        rw [← hm] at c2 hcr
        clear hB hc hcs hg hlt hm
        have HW := Lib.hid (show w1.setCell ⟨R + 1, 0, none⟩ (.bool true) = w1.setCell ⟨R + 1, 0, none⟩ (.bool true) from rfl)
        go_wp2_with fail
        go_end0
        exact ⟨⟨_, rfl⟩, HS.out⟩

set_option maxHeartbeats 2000000 in
set_option maxRecDepth 100000 in
theorem nx4_any (w : World) (R : Nat) (s : RdS) (W : World) (h : St13 w R s W) :
    Calls Tryz.prog 41 #[.func (.func 50) #[] #[.pointer (some ⟨w.heap.size + 1, 0, none⟩)], .pointer (some ⟨R + 1, 0, none⟩), .pointer (some ⟨R, 0, none⟩)] W fun x W' => (∃ v, x = .returned v) ∧ St13 w R (nextS f4 s) W' := by
  obtain ⟨z, ps, b⟩ := s
  have S0 := Lib.hid h
  obtain ⟨-, -, ⟨ao, cap, hB, hc, hT, hg⟩, hI, hsz, -⟩ := h
  dsimp only at hB hc hT hg hI hsz
  have c1 := hI.cell
  have f1' := hI.frozen
  have c2 := hB.cell
  cases z with
  | false =>
    rw [next_stays rfl]
    clear hB hc hT hg hI hsz
    go_enter Tryz.func41, Tryz.ntmps41
    go_wp2_with fail
    go_end0
    exact ⟨⟨_, rfl⟩, S0.out.setI false⟩
  | true =>
    cases ps with
    | nil =>
      rw [next_out]
      rw [List.length_nil] at c2
      clear hB hc hT hg hI hsz
      go_enter Tryz.func41, Tryz.ntmps41
      go_wp2_with fail
      go_end0
      exact ⟨⟨_, rfl⟩, S0.out.setI false⟩
    | cons p r =>
      have hg := hg (by simp)
      rcases hT with hT | ⟨g, off, rfl, hlt, hcs⟩
      · cases hT
      have c0 := hcs 0 (by simp)
      rw [Nat.add_zero] at c0
      try dsimp only [List.getElem_cons_zero] at c0
      have HC := Lib.hid (rd4_any w R true (p :: r) b p (hsz p (by simp)) W S0.out)
      have hn1 : (0 : Int) < ((p :: r).length : Int) := by rw [List.length_cons]; omega
      have hn2 : 0 < (p :: r).length := by rw [List.length_cons]; omega
      obtain ⟨n, hn⟩ : ∃ n, n = (p :: r).length := ⟨_, rfl⟩
      rw [← hn] at c2 hn1 hn2
      clear hB hc hcs hg hI hsz hlt hn
      cases hk : (f4 b p).2 with
      | false =>
        rw [next_not hk]
        rw [hk] at HC
        go_enter Tryz.func41, Tryz.ntmps41
        go_wp2_with fail
        refine HC.out.mono ?_; rintro e1 w1 ⟨rfl, s1⟩
        have S1 := Lib.hid s1
        clear c1 f1' c2 c0
        have c1 := s1.2.2.2.1.cell
        have f1' := s1.2.2.2.1.frozen
        dsimp only at c1 f1'
        clear s1
        go_wp2_with fail
        go_end0
        exact ⟨⟨_, rfl⟩, S1.out.setI false⟩
      | true =>
        rw [next_yes hk]
        rw [hk] at HC
        go_enter Tryz.func41, Tryz.ntmps41
        go_wp2_with fail
        refine HC.out.mono ?_; rintro e1 w1 ⟨rfl, s1⟩
        clear c1 f1' c2 c0
        have c1 := s1.2.2.2.1.cell
        have f1' := s1.2.2.2.1.frozen
        dsimp only at c1 f1'
        have S2 := Lib.hid (s1.setI true)
        clear s1
        obtain ⟨-, -, ⟨ao, cap, hB, hc, hT, hg⟩, -⟩ := S2.out
        dsimp only at hB hc hT hg
        have hg := hg (by simp)
        rcases hT with hT | ⟨g2, off2, rfl, hlt, hcs⟩
        · cases hT
        have c2 := hB.cell
        have f2' := hB.frozen
        have HS := Lib.hid (S2.out.cut hB hc (.inr ⟨g2, off2, rfl, hlt, hcs⟩) (hg g2 off2 rfl))
        have hcr : ∀ V, (Instr.sliceAt 53 (.slice (some ⟨g2, off2, none⟩) (p :: r).length cap) (some (.int .i64 1)) none none).run Tryz.prog V = .ok (.slice (if cap = 1 then some ⟨g2, off2, none⟩ else (some ⟨g2, off2, none⟩ : Option Addr).map (·.add 1)) ((p :: r).length - 1) (cap - 1)) V := fun V => cut_rest (some ⟨g2, off2, none⟩) (p :: r).length cap 1 (by simp) V
        rw [show (p :: r).length - 1 = r.length by simp] at hcr
        generalize (if cap = 1 then some ⟨g2, off2, none⟩ else (some ⟨g2, off2, none⟩ : Option Addr).map (·.add 1)) = ao2 at *
        obtain ⟨m, hm⟩ : ∃ m, m = (p :: r).length := ⟨_, rfl⟩
        rw [← hm] at c2 hcr
        clear hB hc hcs hg hlt hm
        have HW := Lib.hid (show w1.setCell ⟨R + 1, 0, none⟩ (.bool true) = w1.setCell ⟨R + 1, 0, none⟩ (.bool true) from rfl)
        go_wp2_with fail
        go_end0
        exact ⟨⟨_, rfl⟩, HS.out⟩

end Go.Proofs.YtbdlegjklfkdmaaGreatDoor.Pl
