/- The program's Tag and Fits, by what its suite answers. Tag and Fits in a suite of terms. The chapter's examples. Tag and Fits in a suite of either kind: the program's and the document's. -/
import Derived.Test.YtbdlegjklfkdmaaGreatDoorBallC35
import Derived.Test.YtbdlegjklfkdmaaGreatDoorBallC44
import Derived.Test.YtbdlegjklfkdmaaGreatDoorBallC18
import Derived.Test.YtbdlegjklfkdmaaGreatDoorBallC3
import Derived.Test.YtbdlegjklfkdmaaGreatDoorBallC34
import Derived.Handy
import Derived.Test.YtbdlegjklfkdmaaGreatDoorBallC42
import Derived.Test.YtbdlegjklfkdmaaGreatDoorBallC15
import Derived.Test.YtbdlegjklfkdmaaGreatDoorBallC40
import Derived.Test.YtbdlegjklfkdmaaGreatDoorBallC27
namespace Go.Proofs.YtbdlegjklfkdmaaGreatDoor.Pl
open Go.RowKit

set_option maxRecDepth 100000 in
theorem bsame_any (a b : ByteArray) (ha : a.size ≤ 20000) (p : Nat) (w : World) :
    Calls Tryz.prog 62 #[.pointer (some ⟨p, 0, none⟩), .string a, .string b] w fun e w' => e = .returned (.bool (decide (a = b))) ∧ Below w.heap.size w w' := by
  have HS := Lib.hid (hsame_any a b (by omega) w (decide (a = b)) rfl)
  generalize decide (a = b) = z at *
  clear ha
  go_enter Tryz.func62, Tryz.ntmps62
  go_wp2_with fail
  refine (HS.out).mono ?_; rintro e w1 ⟨rfl, b1⟩
  have B1 := Lib.hid b1
  clear b1
  go_wp2_with fail
  go_ret
  exact ⟨rfl, B1.out⟩
theorem st2_tb (r : List UInt8) (c : Nat) : st2 (r, c) = .tuple #[.string (tb r), .int .i64 c] := rfl
theorem tb_size {l : List UInt8} : (tb l).size = l.length := by unfold tb; rw [size_lit]

set_option maxHeartbeats 8000000 in
set_option maxRecDepth 100000 in
theorem ptag13_by (cr : Cry) (k : Bool) (m : ByteArray) (b : Bt) (ao : Option Addr) (cap : Nat) (hms : ∀ x ∈ b.mem, x.2.size ≤ 30000) (hml : b.mem.length ≤ 1000000) (p : Nat) (w : World) (hrow : MemRow w ao b.mem) (HKEY : ∀ (n : ByteArray) (V : World), n.size ≤ 20000 → Below w.heap.size w V → Calls Tryz.prog 57 #[.pointer (some ⟨p, 0, none⟩), .string n] V fun e w' => e = .returned (st2 (keyP cr k (bl m) (bl n))) ∧ Below V.heap.size V w')
    (HMAC : ∀ (x t : ByteArray) (V : World), x.size ≤ 20000 → t.size ≤ 20000 → Below w.heap.size w V → Calls Tryz.prog 59 #[.pointer (some ⟨p, 0, none⟩), .string x, .string t] V fun e w' => e = .returned (st2 (mac8P cr k (bl x) (bl t))) ∧ Below V.heap.size V w') (hT : KeyTab w) :
    Calls Tryz.prog 18 #[.pointer (some ⟨p, 0, none⟩), .agg (btC b (.slice ao b.mem.length cap))] w fun x w' => x = .returned (st2 (tagBt cr k (bl m) b)) ∧ Below w.heap.size w w' := by
  have HB := fun V (hV : Below w.heap.size w V) => pbody13_any b ao cap hms hml V (hrow.below hV)
  have HKT := Lib.hid (fun V (hV : Below w.heap.size w V) => hT.below hV)
  obtain ⟨W0, hW0⟩ : ∃ V, V = w.alloc (.cells (btC b (.slice ao b.mem.length cap)) 26) := ⟨_, rfl⟩
  have g0 : BAt W0 w.heap.size b (.slice ao b.mem.length cap) := by rw [hW0]; exact bat_new _ _ _
  have b0 : Below w.heap.size w W0 := by rw [hW0]; exact (Below.refl _ _).alloc (Nat.le_refl _) _
  have GG := Lib.hid g0
  have BB := Lib.hid b0
  have HW0 := Lib.hid hW0
  clear hW0 g0 b0
  by_cases h0 : (bodyP b).2 = 0
  · have HK := fun V (hV : KeyTab V) => ktag_any b.org b.aud V hV
    rw [name_ok h0, st2_tb] at HK
    have hk : keyBt cr k (bl m) b = (keyP cr k (bl m) (bl (tb (nm 107 b.org.toNat b.aud.toNat)))).1 := by unfold keyBt; rw [name_ok h0, bl_tb]
    have HY := fun V hV => HKEY (tb (nm 107 b.org.toNat b.aud.toNat)) V (by rw [tb_size, nmT_size]; omega) hV
    have HM := fun V hV => HMAC (tb (keyBt cr k (bl m) b)) (tb (bodyP b).1) V (by have := keyBt_short cr k (bl m) b; rw [tb_size]; omega) (by have := bodyP_short (b := b); rw [tb_size]; omega) hV
    rw [tagBt_ok h0]
    rw [bl_tb, bl_tb] at HM
    rw [show st2 (bodyP b) = .tuple #[.string (tb (bodyP b).1), .int .i64 ((bodyP b).2 : Nat)] from rfl, h0] at HB
    generalize mac8P cr k (keyBt cr k (bl m) b) (bodyP b).1 = T at *
    obtain ⟨r, x⟩ := T
    rw [st2_tb] at HM ⊢
    rw [show st2 (keyP cr k (bl m) (bl (tb (nm 107 b.org.toNat b.aud.toNat)))) = .tuple #[.string (tb (keyBt cr k (bl m) b)), .int .i64 (keyP cr k (bl m) (bl (tb (nm 107 b.org.toNat b.aud.toNat)))).2] from by rw [hk]; rfl] at HY
    generalize (keyP cr k (bl m) (bl (tb (nm 107 b.org.toNat b.aud.toNat)))).2 = ke at *
    generalize tb (keyBt cr k (bl m) b) = kt at *
    generalize tb (nm 107 b.org.toNat b.aud.toNat) = nt at *
    generalize tb (bodyP b).1 = bt at *
    clear hk h0 hrow hms hml hT HKEY HMAC
    obtain ⟨c, e, q, aud, mem, org⟩ := b
    dsimp only [btC] at *
    generalize mem.length = n at *
    have HCE : Hid (∀ V, BAt V w.heap.size ⟨c, e, q, aud, mem, org⟩ (.slice ao n cap) → V.cell? ⟨w.heap.size, 0, none⟩ = some (.int .i64 c) ∧ V.cell? ⟨w.heap.size, 1, none⟩ = some (.int .i64 e) ∧ V.cell? ⟨w.heap.size, 2, none⟩ = some (.int .i64 q) ∧ V.cell? ⟨w.heap.size, 3, none⟩ = some (.int .i64 aud) ∧ V.cell? ⟨w.heap.size, 4, none⟩ = some (.slice ao n cap) ∧ V.cell? ⟨w.heap.size, 5, none⟩ = some (.int .i64 org)) := Lib.hid (fun V h => h.cells)
    have HB := Lib.hid HB
    have HK := Lib.hid HK
    have HY := Lib.hid HY
    have HM := Lib.hid HM
    go_enter Tryz.func18, Tryz.ntmps18
    go_wp2_with fail
    rw [← HW0.out]
    refine (HB.out _ BB.out).mono ?_; rintro e1 w1 ⟨rfl, b1⟩
    have GG := Lib.hid (GG.out.below b1)
    have BB := Lib.hid (below_step BB.out b1)
    clear b1
    obtain ⟨z0, z1, z2, z3, z4, z5⟩ := HCE.out _ GG.out
    go_wp2_with fail
    refine (HK.out _ (HKT.out _ BB.out)).mono ?_; rintro e2 w2 ⟨rfl, b2⟩
    have GG := Lib.hid (GG.out.below b2)
    have BB := Lib.hid (below_step BB.out b2)
    clear b2
    clear z0 z1 z2 z3 z4 z5
    go_wp2_with fail
    refine (sure13_any _ _ _).mono ?_; rintro e3 w3 ⟨rfl, hw3⟩; rw [hw3]; clear hw3 w3
    go_wp2_with fail
    refine (HY.out _ BB.out).mono ?_; rintro e4 w4 ⟨rfl, b4⟩
    have GG := Lib.hid (GG.out.below b4)
    have BB := Lib.hid (below_step BB.out b4)
    clear b4
    go_wp2_with fail
    refine (sure13_any _ _ _).mono ?_; rintro e5 w5 ⟨rfl, hw5⟩; rw [hw5]; clear hw5 w5
    go_wp2_with fail
    refine (HM.out _ BB.out).mono ?_; rintro e6 w6 ⟨rfl, b6⟩
    have GG := Lib.hid (GG.out.below b6)
    have BB := Lib.hid (below_step BB.out b6)
    clear b6
    go_wp2_with fail
    go_ret2
    exact ⟨rfl, BB.out⟩
  · rw [tagBt_no h0]
    have hne : ((bodyP b).2 : Int) ≠ 0 := by omega
    have hz1 : (((bodyP b).2 : Int) != 0) = true := by rw [bne_iff_ne]; exact hne
    rw [show st2 (bodyP b) = .tuple #[.string (tb (bodyP b).1), .int .i64 ((bodyP b).2 : Nat)] from rfl] at HB
    rw [st2_tb]
    generalize tb (bodyP b).1 = bt at *
    generalize (bodyP b).2 = x at *
    clear h0 hrow hms hml hT HKT HKEY HMAC
    obtain ⟨c, e, q, aud, mem, org⟩ := b
    dsimp only [btC] at *
    generalize mem.length = n at *
    have HB := Lib.hid HB
    go_enter Tryz.func18, Tryz.ntmps18
    go_wp2_with fail
    rw [← HW0.out]
    refine (HB.out _ BB.out).mono ?_; rintro e1 w1 ⟨rfl, b1⟩
    have GG := Lib.hid (GG.out.below b1)
    have BB := Lib.hid (below_step BB.out b1)
    clear b1
    go_wp2_with fail
    go_ret2
    exact ⟨rfl, BB.out⟩

set_option maxHeartbeats 8000000 in
set_option maxRecDepth 100000 in
theorem ptag13_nil (b : Bt) (v : Value) (w : World) :
    Calls Tryz.prog 18 #[.pointer none, .agg (btC b v)] w fun x w' => x = .returned (.tuple #[.string ⟨#[]⟩, .int .i64 1]) ∧ Below w.heap.size w w' := by
  have B0 := Lib.hid ((Below.refl _ w).alloc (Nat.le_refl _) (.cells (btC b v) 26))
  obtain ⟨c, e, q, aud, mem, org⟩ := b
  dsimp only [btC] at *
  go_enter Tryz.func18, Tryz.ntmps18
  go_wp2_with fail
  go_ret2
  exact ⟨rfl, B0.out⟩

/-- Whether a text is the tag. -/
noncomputable def fitBt (c : Cry) (k : Bool) (m : List UInt8) (b : Bt) (tag : ByteArray) : Bool := decide ((tagBt c k m b).2 = 0) && decide (tb (tagBt c k m b).1 = tag)

set_option maxHeartbeats 8000000 in
set_option maxRecDepth 100000 in
theorem pfits13_by (cr : Cry) (k : Bool) (m : ByteArray) (b : Bt) (ao : Option Addr) (cap : Nat) (hms : ∀ x ∈ b.mem, x.2.size ≤ 30000) (hml : b.mem.length ≤ 1000000) (tag : ByteArray) (p : Nat) (w : World) (hrow : MemRow w ao b.mem) (HKEY : ∀ (n : ByteArray) (V : World), n.size ≤ 20000 → Below w.heap.size w V → Calls Tryz.prog 57 #[.pointer (some ⟨p, 0, none⟩), .string n] V fun e w' => e = .returned (st2 (keyP cr k (bl m) (bl n))) ∧ Below V.heap.size V w')
    (HMAC : ∀ (x t : ByteArray) (V : World), x.size ≤ 20000 → t.size ≤ 20000 → Below w.heap.size w V → Calls Tryz.prog 59 #[.pointer (some ⟨p, 0, none⟩), .string x, .string t] V fun e w' => e = .returned (st2 (mac8P cr k (bl x) (bl t))) ∧ Below V.heap.size V w') (hT : KeyTab w) :
    Calls Tryz.prog 20 #[.pointer (some ⟨p, 0, none⟩), .agg (btC b (.slice ao b.mem.length cap)), .string tag] w fun x w' => x = .returned (.bool (fitBt cr k (bl m) b tag)) ∧ Below w.heap.size w w' := by
  have HB := fun V (hV : Below w.heap.size w V) => ptag13_by cr k m b ao cap hms hml p V (hrow.below hV) (fun n U hn hU => HKEY n U hn (below_step hV hU)) (fun x t U hx ht hU => HMAC x t U hx ht (below_step hV hU)) (hT.below hV)
  obtain ⟨W0, hW0⟩ : ∃ V, V = w.alloc (.cells (btC b (.slice ao b.mem.length cap)) 26) := ⟨_, rfl⟩
  have g0 : BAt W0 w.heap.size b (.slice ao b.mem.length cap) := by rw [hW0]; exact bat_new _ _ _
  have b0 : Below w.heap.size w W0 := by rw [hW0]; exact (Below.refl _ _).alloc (Nat.le_refl _) _
  have GG := Lib.hid g0
  have BB := Lib.hid b0
  have HW0 := Lib.hid hW0
  clear hW0 g0 b0
  unfold fitBt
  have HSM := fun V => bsame_any (tb (tagBt cr k (bl m) b).1) tag (by have := tagBt_short cr k (bl m) b; rw [tb_size]; omega) p V
  generalize tagBt cr k (bl m) b = T at *
  obtain ⟨r, x⟩ := T
  rw [st2_tb] at HB
  dsimp only at HSM ⊢
  generalize tb r = rt at *
  generalize decide (rt = tag) = z at *
  clear hrow hms hml hT GG HKEY HMAC
  obtain ⟨c, e, q, aud, mem, org⟩ := b
  dsimp only [btC] at *
  generalize mem.length = n at *
  have HB := Lib.hid HB
  have HSM := Lib.hid HSM
  by_cases hx : x = 0
  · subst hx
    go_enter Tryz.func20, Tryz.ntmps20
    go_wp2_with fail
    rw [← HW0.out]
    refine (HB.out _ BB.out).mono ?_; rintro e1 w1 ⟨rfl, b1⟩
    have BB := Lib.hid (below_step BB.out b1)
    clear b1
    go_wp2_with fail
    refine (HSM.out _).mono ?_; rintro e2 w2 ⟨rfl, b2⟩
    have BB := Lib.hid (below_step BB.out b2)
    clear b2
    go_wp2_with fail
    go_ret
    exact ⟨by simp, BB.out⟩
  · have hx1 : ((x : Int) == 0) = false := by rw [beq_eq_false_iff_ne]; omega
    have hx2 : decide (x = 0) = false := decide_eq_false hx
    rw [hx2]
    clear hx hx2 HSM
    go_enter Tryz.func20, Tryz.ntmps20
    go_wp2_with fail
    rw [← HW0.out]
    refine (HB.out _ BB.out).mono ?_; rintro e1 w1 ⟨rfl, b1⟩
    have BB := Lib.hid (below_step BB.out b1)
    clear b1
    go_wp2_with fail
    go_ret
    exact ⟨rfl, BB.out⟩

set_option maxHeartbeats 8000000 in
set_option maxRecDepth 100000 in
theorem pfits13_nil (b : Bt) (v : Value) (tag : ByteArray) (w : World) :
    Calls Tryz.prog 20 #[.pointer none, .agg (btC b v), .string tag] w fun x w' => x = .returned (.bool false) ∧ Below w.heap.size w w' := by
  have HB := fun V => ptag13_nil b v V
  obtain ⟨W0, hW0⟩ : ∃ V, V = w.alloc (.cells (btC b v) 26) := ⟨_, rfl⟩
  have BB := Lib.hid (show Below w.heap.size w W0 from hW0 ▸ (Below.refl _ _).alloc (Nat.le_refl _) _)
  have HW0 := Lib.hid hW0
  clear hW0
  obtain ⟨c, e, q, aud, mem, org⟩ := b
  dsimp only [btC] at *
  have HB := Lib.hid HB
  go_enter Tryz.func20, Tryz.ntmps20
  go_wp2_with fail
  rw [← HW0.out]
  refine (HB.out _).mono ?_; rintro e1 w1 ⟨rfl, b1⟩
  have BB := Lib.hid (below_step BB.out b1)
  clear b1
  go_wp2_with fail
  go_ret
  exact ⟨rfl, BB.out⟩

end Go.Proofs.YtbdlegjklfkdmaaGreatDoor.Pl

namespace Go.Proofs.YtbdlegjklfkdmaaGreatDoor.Pl
open Go.RowKit

/-- Block p is a suite of terms. -/
def SuiteT (w : World) (p : Nat) : Prop := w.heap[p]? = some (.cells #[.iface 84 (.agg #[])] 88 (0, 0))
theorem SuiteT.below {w w' : World} {p : Nat} (h : SuiteT w p) (hb : Below w.heap.size w w') : SuiteT w' p := heap_below hb h
set_option maxRecDepth 100000 in
theorem newt_any (m : ByteArray) (w : World) :
    Calls Tryz.prog 17 #[.int .u8 1, .string m] w fun e w' => (∃ p, e = .returned (.tuple #[.pointer (some ⟨p, 0, none⟩), .int .i64 0]) ∧ SuiteT w' p) ∧ Below w.heap.size w w' := by
  go_enter Tryz.func17, Tryz.ntmps17
  go_wp2_with fail
  go_ret2
  exact ⟨⟨_, rfl, heap_alloc_new w _⟩, (Below.refl w.heap.size w).alloc (Nat.le_refl _) _⟩
set_option maxHeartbeats 1000000 in
set_option maxRecDepth 100000 in
theorem keyt_any (m : List UInt8) (n : ByteArray) (hn : n.size ≤ 20000) (p : Nat) (w : World) (hc : SuiteT w p) :
    Calls Tryz.prog 57 #[.pointer (some ⟨p, 0, none⟩), .string n] w fun e w' => e = .returned (st2 (keyP cry0 true m (bl n))) ∧ Below w.heap.size w w' := by
  have H := Lib.hid (skey8_any cry0 m n hn w)
  generalize keyP cry0 true m (bl n) = Z at *
  obtain ⟨r, x⟩ := Z
  unfold st2 symV at H
  unfold st2
  dsimp only at H ⊢
  unfold SuiteT at hc
  have c0 : w.cell? ⟨p, 0, none⟩ = some (.iface 84 (.agg #[])) := cell_of_row _ _ _ _ _ _ hc
  clear hc hn
  go_enter Tryz.func57, Tryz.ntmps57
  go_wp2_with fail
  refine H.out.mono ?_; rintro e w1 ⟨rfl, b1⟩
  have B1 := Lib.hid b1
  clear b1
  go_wp2_with fail
  go_ret2
  exact ⟨rfl, B1.out⟩
set_option maxHeartbeats 1000000 in
set_option maxRecDepth 100000 in
theorem mact_any (k t : ByteArray) (hk : k.size ≤ 20000) (ht : t.size ≤ 20000) (p : Nat) (w : World) (hc : SuiteT w p) :
    Calls Tryz.prog 59 #[.pointer (some ⟨p, 0, none⟩), .string k, .string t] w fun e w' => e = .returned (st2 (mac8P cry0 true (bl k) (bl t))) ∧ Below w.heap.size w w' := by
  have H := Lib.hid (smac8_any cry0 k t hk ht w)
  generalize mac8P cry0 true (bl k) (bl t) = Z at *
  obtain ⟨r, x⟩ := Z
  unfold st2 symV at H
  unfold st2
  dsimp only at H ⊢
  unfold SuiteT at hc
  have c0 : w.cell? ⟨p, 0, none⟩ = some (.iface 84 (.agg #[])) := cell_of_row _ _ _ _ _ _ hc
  clear hc hk ht
  go_enter Tryz.func59, Tryz.ntmps59
  go_wp2_with fail
  refine H.out.mono ?_; rintro e w1 ⟨rfl, b1⟩
  have B1 := Lib.hid b1
  clear b1
  go_wp2_with fail
  go_ret2
  exact ⟨rfl, B1.out⟩

theorem ptag13_t (m : ByteArray) (b : Bt) (ao : Option Addr) (cap : Nat) (hms : ∀ x ∈ b.mem, x.2.size ≤ 30000) (hml : b.mem.length ≤ 1000000) (p : Nat) (w : World) (hrow : MemRow w ao b.mem) (hS : SuiteT w p) (hT : KeyTab w) :
    Calls Tryz.prog 18 #[.pointer (some ⟨p, 0, none⟩), .agg (btC b (.slice ao b.mem.length cap))] w fun x w' => x = .returned (st2 (tagBt cry0 true (bl m) b)) ∧ Below w.heap.size w w' :=
  ptag13_by cry0 true m b ao cap hms hml p w hrow (fun n V hn hV => keyt_any (bl m) n hn p V (hS.below hV)) (fun x t V hx ht hV => mact_any x t hx ht p V (hS.below hV)) hT
theorem pfits13_t (m : ByteArray) (b : Bt) (ao : Option Addr) (cap : Nat) (hms : ∀ x ∈ b.mem, x.2.size ≤ 30000) (hml : b.mem.length ≤ 1000000) (tag : ByteArray) (p : Nat) (w : World) (hrow : MemRow w ao b.mem) (hS : SuiteT w p) (hT : KeyTab w) :
    Calls Tryz.prog 20 #[.pointer (some ⟨p, 0, none⟩), .agg (btC b (.slice ao b.mem.length cap)), .string tag] w fun x w' => x = .returned (.bool (fitBt cry0 true (bl m) b tag)) ∧ Below w.heap.size w w' :=
  pfits13_by cry0 true m b ao cap hms hml tag p w hrow (fun n V hn hV => keyt_any (bl m) n hn p V (hS.below hV)) (fun x t V hx ht hV => mact_any x t hx ht p V (hS.below hV)) hT

end Go.Proofs.YtbdlegjklfkdmaaGreatDoor.Pl

namespace Go.Proofs.YtbdlegjklfkdmaaGreatDoor.Pl
open Go.RowKit

def one13 : Bt := ⟨0, 1, 1, 3, [(1, ⟨#[100, 0]⟩)], 1⟩
def two13 : Bt := ⟨0, 1, 1, 3, [(1, ⟨#[100, 0]⟩)], 2⟩
theorem one13_ok : (bodyP one13).2 = 0 := by kernel_rfl
theorem two13_no : bodyP two13 = ([], 2) := by kernel_rfl
theorem one13_data : (dataP ballotW).1 = [100, 6, 98, 97, 108, 108, 111, 116] := by kernel_rfl
theorem one13_mem : (membersT one13.mem).1 = [114, 1, 114, 2, 100, 1, 1, 100, 0] := by kernel_rfl
theorem one13_parts : ∃ p1 p2 p4, partsB (tb (bodyP one13).1) = [⟨#[100, 6, 98, 97, 108, 108, 111, 116]⟩, p1, p2, ⟨#[114, 1, 114, 2, 100, 1, 1, 100, 0]⟩, p4] := by
  obtain ⟨_, h, _⟩ := body_parts (b := one13) (s := (bodyP one13).1) (Prod.ext rfl one13_ok)
  rw [h]
  unfold bodyL
  simp only [List.map_cons, List.map_nil]
  rw [one13_data, one13_mem]
  exact ⟨_, _, _, rfl⟩
theorem one13_tag : tagBt cry0 true (bl ⟨#[]⟩) one13 = madeP [109] [(atomP (nm 107 1 3)).1, (bodyP one13).1] := by
  rw [tagBt_ok one13_ok]
  have hk : keyBt cry0 true (bl ⟨#[]⟩) one13 = (atomP (nm 107 1 3)).1 := by
    unfold keyBt
    rw [name_ok one13_ok]
    unfold keyP
    rw [if_pos (.inr rfl)]
    rfl
  rw [hk]
  unfold mac8P
  rw [if_neg (by
    have h1 : checkP (atomP (nm 107 1 3)).1 = 0 := by kernel_rfl
    have h2 : checkP (bodyP one13).1 = 0 := by kernel_rfl
    rw [h1, h2]
    simp), if_pos rfl]
theorem one13_tagged : (tagBt cry0 true (bl ⟨#[]⟩) one13).2 = 0 := by
  rw [one13_tag]
  kernel_rfl
theorem one13_fits : fitBt cry0 true (bl ⟨#[]⟩) one13 (tb (tagBt cry0 true (bl ⟨#[]⟩) one13).1) = true := by
  unfold fitBt
  rw [one13_tagged]
  simp
theorem one13_unfit : fitBt cry0 true (bl ⟨#[]⟩) one13 (tb (bodyP one13).1) = false := by
  unfold fitBt
  have h : (tagBt cry0 true (bl ⟨#[]⟩) one13).1 ≠ (bodyP one13).1 := by
    rw [one13_tag]
    intro e
    have h1 : ((madeP [109] [(atomP (nm 107 1 3)).1, (bodyP one13).1]).1.headD 0) = 109 := by kernel_rfl
    have h2 : ((bodyP one13).1.headD 0) = 114 := by kernel_rfl
    rw [e, h2] at h1
    exact absurd h1 (by decide)
  rw [decide_eq_false (p := tb (tagBt cry0 true (bl ⟨#[]⟩) one13).1 = tb (bodyP one13).1) (fun e => h (by have := congrArg bl e; rwa [bl_tb, bl_tb] at this)), Bool.and_false]
abbrev oneV (ad : Addr) (o : Int) : Value := .agg #[.int .i64 0, .int .i64 1, .int .i64 1, .int .i64 3, .slice (some ad) 1 1, .int .i64 o]
set_option maxHeartbeats 1000000 in
set_option maxRecDepth 100000 in
theorem one13_any (w : World) : Calls Tryz.prog 22 #[] w fun x w' => (∃ ad, x = .returned (oneV ad 1) ∧ MemRow w' (some ad) one13.mem) ∧ Below w.heap.size w w' := by
  go_enter Tryz.func22, Tryz.ntmps22
  go_wp2_with fail
  obtain ⟨W1, hW1⟩ : ∃ V, V = w.alloc (.cells #[.int .i64 0, .int .i64 1, .int .i64 1, .int .i64 3, .slice (some ⟨w.heap.size + 1, 0, none⟩) 1 1, .int .i64 1] 26) := ⟨_, rfl⟩
  have s1 : W1.heap.size = w.heap.size + 1 := by rw [hW1]; simp
  have b1 : Below w.heap.size w W1 := by rw [hW1]; exact (Below.refl _ _).alloc (Nat.le_refl _) _
  have g1 : W1.heap[w.heap.size]? = some (.cells #[.int .i64 0, .int .i64 1, .int .i64 1, .int .i64 3, .slice (some ⟨w.heap.size + 1, 0, none⟩) 1 1, .int .i64 1] 26 (0, 0)) := by rw [hW1]; exact heap_alloc_new _ _
  rw [← hW1]
  have g2 := (Below.heap_alloc W1 (.cells #[.int .i64 1, .string ⟨#[100, 0]⟩] 51) w.heap.size (by omega)).trans g1
  have r2 := memRow_one W1 1 ⟨#[100, 0]⟩
  rw [s1] at r2
  refine bodyPost_ret (results_cell_row rfl _ _ w.heap.size 26 _ (0, 0) _ rfl g2 Tryz.underlying26 rfl (bt_info _ _ _ _ _ _)) rfl ?_
  exact ⟨⟨_, rfl, r2⟩, b1.alloc b1.size _⟩
theorem two_fit13 (l : List Mb) (h : l = [(1, ⟨#[100, 0]⟩)]) : (∀ x ∈ l, x.2.size ≤ 30000) ∧ l.length ≤ 1000000 := by
  subst h
  exact ⟨fun x hx => by rw [List.mem_singleton.1 hx]; decide, by decide⟩
set_option maxHeartbeats 4000000 in
set_option maxRecDepth 100000 in
theorem alive13_any (w : World) (hT : KeyTab w) : Calls Tryz.prog 7 #[] w fun x w' => x = .returned (.bool true) ∧ Below w.heap.size w w' := by
  have HT := Lib.hid (fun V (hV : Below w.heap.size w V) => hT.below hV)
  have HN := Lib.hid (newt_any ⟨#[]⟩ w)
  have HB1 := fun ad V (hr : MemRow V (some ad) one13.mem) => pbody13_any one13 (some ad) 1 (two_fit13 _ rfl).1 (two_fit13 _ rfl).2 V hr
  have HB2 := fun ad V (hr : MemRow V (some ad) two13.mem) => pbody13_any two13 (some ad) 1 (two_fit13 _ rfl).1 (two_fit13 _ rfl).2 V hr
  have HG := fun ad p V (hS : SuiteT V p) (hV : KeyTab V) (hr : MemRow V (some ad) one13.mem) => ptag13_t ⟨#[]⟩ one13 (some ad) 1 (two_fit13 _ rfl).1 (two_fit13 _ rfl).2 p V hr hS hV
  have HF1 := fun ad p V (hS : SuiteT V p) (hV : KeyTab V) (hr : MemRow V (some ad) one13.mem) => pfits13_t ⟨#[]⟩ one13 (some ad) 1 (two_fit13 _ rfl).1 (two_fit13 _ rfl).2 (tb (tagBt cry0 true (bl ⟨#[]⟩) one13).1) p V hr hS hV
  have HF2 := fun ad p V (hS : SuiteT V p) (hV : KeyTab V) (hr : MemRow V (some ad) one13.mem) => pfits13_t ⟨#[]⟩ one13 (some ad) 1 (two_fit13 _ rfl).1 (two_fit13 _ rfl).2 (tb (bodyP one13).1) p V hr hS hV
  have HF3 := fun ad V => pfits13_nil one13 (.slice (some ad) 1 1) (tb (tagBt cry0 true (bl ⟨#[]⟩) one13).1) V
  have HP := fun V => parts12_any (tb (bodyP one13).1) (by have := bodyP_short (b := one13); rw [tb_size]; omega) V
  obtain ⟨p1, p2, p4, hps⟩ := one13_parts
  have hp2 : (partsP (bl (tb (bodyP one13).1))).2 = true := by
    cases h : (partsP (bl (tb (bodyP one13).1))).2 with
    | true => rfl
    | false =>
      have h1 := parts_no h
      unfold partsB at hps
      rw [h1] at hps
      cases hps
  rw [hps, hp2] at HP
  rw [show st2 (bodyP one13) = .tuple #[.string (tb (bodyP one13).1), .int .i64 ((bodyP one13).2 : Nat)] from rfl, one13_ok] at HB1
  rw [two13_no, st2_tb] at HB2
  rw [show st2 (tagBt cry0 true (bl ⟨#[]⟩) one13) = .tuple #[.string (tb (tagBt cry0 true (bl ⟨#[]⟩) one13).1), .int .i64 ((tagBt cry0 true (bl ⟨#[]⟩) one13).2 : Nat)] from rfl, one13_tagged] at HG
  rw [one13_fits] at HF1
  rw [one13_unfit] at HF2
  have H1 := Lib.hid (fun V => one13_any V)
  generalize tb (bodyP one13).1 = bt at *
  generalize tb (tagBt cry0 true (bl ⟨#[]⟩) one13).1 = tg at *
  have HB1 := Lib.hid HB1
  have HB2 := Lib.hid HB2
  have HG := Lib.hid HG
  have HF1 := Lib.hid HF1
  have HF2 := Lib.hid HF2
  have HF3 := Lib.hid HF3
  have HP := Lib.hid HP
  clear hT hps hp2
  go_enter Tryz.func7, Tryz.ntmps7
  go_wp2_with fail
  refine HN.out.mono ?_; rintro e1 w1 ⟨⟨p, rfl, hS⟩, b1⟩
  have HS := Lib.hid (fun V (hV : Below w1.heap.size w1 V) => hS.below hV)
  have BB := Lib.hid b1
  have BS := Lib.hid (Below.refl w1.heap.size w1)
  clear hS b1
  go_wp2_with fail
  refine (H1.out _).mono ?_; rintro e2 w2 ⟨⟨ad, rfl, hr⟩, b2⟩
  have HR := Lib.hid hr
  have BS := Lib.hid (below_step BS.out b2)
  clear hr b2
  go_wp2_with fail
  refine (HB1.out ad _ HR.out).mono ?_; rintro e3 w3 ⟨rfl, b3⟩
  have BS := Lib.hid (below_step BS.out b3)
  clear b3
  go_wp2_with fail
  refine (HP.out _).mono ?_; rintro e4 w4 ⟨ao, cap, rfl, hc, hT, -, b4⟩
  have BS := Lib.hid (below_step BS.out b4)
  clear b4 hc
  rcases hT with hT | ⟨g, off, rfl, hlt, hcs⟩
  · cases hT
  have c0 := hcs 0 (by simp)
  have c3 := hcs 3 (by simp)
  rw [Nat.add_zero] at c0
  simp only [List.getD_cons_zero, List.getD_cons_succ] at c0 c3
  clear hcs hlt
  go_wp2_with fail
  clear c0 c3
  refine (H1.out _).mono ?_; rintro e5 w5 ⟨⟨ad5, rfl, hr⟩, b5⟩
  have BS := Lib.hid (below_step BS.out b5)
  clear b5
  have R5 := Lib.hid (hr.below ((Below.refl w5.heap.size w5).alloc (Nat.le_refl _) (.cells #[.int .i64 0, .int .i64 1, .int .i64 1, .int .i64 3, .slice (some ad5) 1 1, .int .i64 2] 26)))
  have BS := Lib.hid (BS.out.alloc BS.out.size (.cells #[.int .i64 0, .int .i64 1, .int .i64 1, .int .i64 3, .slice (some ad5) 1 1, .int .i64 2] 26))
  clear hr
  go_wp2_with fail
  refine (HB2.out ad5 _ R5.out).mono ?_; rintro e6 w6 ⟨rfl, b6⟩
  have BS := Lib.hid (below_step BS.out b6)
  clear b6
  go_wp2_with fail
  refine (H1.out _).mono ?_; rintro e7 w7 ⟨⟨ad7, rfl, hr⟩, b7⟩
  have R7 := Lib.hid hr
  have BS := Lib.hid (below_step BS.out b7)
  clear hr b7
  go_wp2_with fail
  refine (HG.out ad7 p _ (HS.out _ BS.out) (HT.out _ (BB.out.trans (BS.out.mono BB.out.size))) R7.out).mono ?_; rintro e8 w8 ⟨rfl, b8⟩
  have BS := Lib.hid (below_step BS.out b8)
  clear b8
  go_wp2_with fail
  refine (H1.out _).mono ?_; rintro e9 w9 ⟨⟨ad9, rfl, hr⟩, b9⟩
  have R9 := Lib.hid hr
  have BS := Lib.hid (below_step BS.out b9)
  clear hr b9
  go_wp2_with fail
  refine (HF1.out ad9 p _ (HS.out _ BS.out) (HT.out _ (BB.out.trans (BS.out.mono BB.out.size))) R9.out).mono ?_; rintro ea wa ⟨rfl, ba⟩
  have BS := Lib.hid (below_step BS.out ba)
  clear ba
  go_wp2_with fail
  refine (H1.out _).mono ?_; rintro eb wb ⟨⟨adb, rfl, hr⟩, bb⟩
  have Rb := Lib.hid hr
  have BS := Lib.hid (below_step BS.out bb)
  clear hr bb
  go_wp2_with fail
  refine (HF2.out adb p _ (HS.out _ BS.out) (HT.out _ (BB.out.trans (BS.out.mono BB.out.size))) Rb.out).mono ?_; rintro ec wc ⟨rfl, bc⟩
  have BS := Lib.hid (below_step BS.out bc)
  clear bc
  go_wp2_with fail
  refine (H1.out _).mono ?_; rintro ed wd ⟨⟨add, rfl, hr⟩, bd⟩
  have BS := Lib.hid (below_step BS.out bd)
  clear hr bd
  go_wp2_with fail
  refine (HF3.out add _).mono ?_; rintro ee we ⟨rfl, be⟩
  have BS := Lib.hid (below_step BS.out be)
  clear be
  go_wp2_with fail
  go_ret
  exact ⟨rfl, BB.out.trans (BS.out.mono BB.out.size)⟩
end Go.Proofs.YtbdlegjklfkdmaaGreatDoor.Pl

namespace Go.Proofs.YtbdlegjklfkdmaaGreatDoor.Pl
open Go.RowKit

theorem ptag13_any (k : Bool) (m : ByteArray) (b : Bt) (ao : Option Addr) (cap : Nat) (hms : ∀ x ∈ b.mem, x.2.size ≤ 30000) (hml : b.mem.length ≤ 1000000) (p : Nat) (w : World) (hrow : MemRow w ao b.mem) (hS : SuiteAt w p k m) (hT : KeyTab w) :
    Calls Tryz.prog 18 #[.pointer (some ⟨p, 0, none⟩), .agg (btC b (.slice ao b.mem.length cap))] w fun x w' => x = .returned (st2 (tagBt cryP k (bl m) b)) ∧ Below w.heap.size w w' :=
  ptag13_by cryP k m b ao cap hms hml p w hrow (fun n V hn hV => key8_any k m n hn p V (hS.below hV)) (fun x t V hx ht hV => mac8_any k m x hx t ht p V (hS.below hV)) hT
theorem pfits13_any (k : Bool) (m : ByteArray) (b : Bt) (ao : Option Addr) (cap : Nat) (hms : ∀ x ∈ b.mem, x.2.size ≤ 30000) (hml : b.mem.length ≤ 1000000) (tag : ByteArray) (p : Nat) (w : World) (hrow : MemRow w ao b.mem) (hS : SuiteAt w p k m) (hT : KeyTab w) :
    Calls Tryz.prog 20 #[.pointer (some ⟨p, 0, none⟩), .agg (btC b (.slice ao b.mem.length cap)), .string tag] w fun x w' => x = .returned (.bool (fitBt cryP k (bl m) b tag)) ∧ Below w.heap.size w w' :=
  pfits13_by cryP k m b ao cap hms hml tag p w hrow (fun n V hn hV => key8_any k m n hn p V (hS.below hV)) (fun x t V hx ht hV => mac8_any k m x hx t ht p V (hS.below hV)) hT

set_option maxHeartbeats 8000000 in
set_option maxRecDepth 100000 in
theorem rkeytag9_any (k : Nat) (m : ByteArray) (hm : m.size ≤ 1000) (a b : Int) (w : World) :
    Calls Tryz.prog 61 #[suiteV k m, .int .i64 a, .int .i64 b] w fun x w' => x = .returned (.string (tb (keyP cryP (k == 1) (bl m) (nameK 107 a b).1).1)) ∧ Below w.heap.size w w' := by
  have HT := fun V => rtag9_any a b V
  have HK := fun V => rkey8_any k m (tb (nameK 107 a b).1) hm (by have := nameK_len 107 a b; rw [tb_size]; omega) V
  rw [bl_tb] at HK
  generalize keyP cryP (k == 1) (bl m) (nameK 107 a b).1 = K at *
  obtain ⟨kr, kx⟩ := K
  generalize nameK 107 a b = N at *
  obtain ⟨nr, nx⟩ := N
  rw [st2_tb] at HK HT
  dsimp only at HK ⊢
  generalize tb nr = nt at *
  generalize tb kr = kt at *
  unfold suiteV at HK ⊢
  have B0 := Lib.hid ((Below.refl _ w).alloc (Nat.le_refl _) (.cells #[.int .u8 k, .string m] 45))
  obtain ⟨W0, hW0⟩ : ∃ V, V = w.alloc (.cells #[.int .u8 k, .string m] 45) := ⟨_, rfl⟩
  have g0 : W0.heap[w.heap.size]? = some (.cells #[.int .u8 k, .string m] 45 (0, 0)) := by rw [hW0]; exact heap_alloc_new _ _
  rw [← hW0] at B0
  have G0 := Lib.hid g0
  have HW0 := Lib.hid hW0
  have HK := Lib.hid HK
  have HT := Lib.hid HT
  clear hW0 g0 hm
  go_enter Tryz.func61, Tryz.ntmps61
  go_wp2_with fail
  rw [← HW0.out]
  refine (HT.out _).mono ?_; rintro e1 w1 ⟨rfl, b1⟩
  have g1 := heap_below b1 G0.out
  have y0 := cell_of_row _ _ 0 _ _ _ g1
  have y1 := cell_of_row _ _ 1 _ _ _ g1
  have BB := Lib.hid (below_step B0.out b1)
  clear b1 g1
  go_wp2_with fail
  refine (HK.out _).mono ?_; rintro e2 w2 ⟨rfl, b2⟩
  have BB := Lib.hid (below_step BB.out b2)
  clear b2 y0 y1
  go_wp2_with fail
  go_ret
  exact ⟨rfl, BB.out⟩

set_option maxHeartbeats 8000000 in
set_option maxRecDepth 100000 in
theorem rtag13_any (k : Nat) (h12 : k = 1 ∨ k = 2) (m : ByteArray) (hm : m.size ≤ 1000) (b : Bt) (ao : Option Addr) (cap : Nat) (hms : ∀ x ∈ b.mem, x.2.size ≤ 30000) (hml : b.mem.length ≤ 1000000) (w : World) (hrow : MemRow w ao b.mem) :
    Calls Tryz.prog 19 #[suiteV k m, .agg (btC b (.slice ao b.mem.length cap))] w fun x w' => x = .returned (st2 (tagBt cryP (k == 1) (bl m) b)) ∧ Below w.heap.size w w' := by
  have HB := fun V (hV : Below w.heap.size w V) => rbody13_any b ao cap hms hml V (hrow.below hV)
  obtain ⟨W0, hW0⟩ : ∃ V, V = (w.alloc (.cells #[.int .u8 k, .string m] 45)).alloc (.cells (btC b (.slice ao b.mem.length cap)) 26) := ⟨_, rfl⟩
  have s0 : W0.heap[w.heap.size]? = some (.cells #[.int .u8 k, .string m] 45 (0, 0)) := by rw [hW0]; exact (Below.heap_alloc _ _ _ (by simp)).trans (heap_alloc_new _ _)
  have g0 : BAt W0 (w.heap.size + 1) b (.slice ao b.mem.length cap) := by
    have h := bat_new (w.alloc (.cells #[.int .u8 k, .string m] 45)) b (.slice ao b.mem.length cap)
    rw [World.size_alloc] at h
    rw [hW0]; exact h
  have b0 : Below w.heap.size w W0 := by rw [hW0]; exact ((Below.refl _ _).alloc (Nat.le_refl _) _).alloc (by simp) _
  have GG := Lib.hid g0
  have SS := Lib.hid s0
  have BB := Lib.hid b0
  have HW0 := Lib.hid hW0
  clear hW0 g0 b0 s0
  by_cases h0 : (bodyP b).2 = 0
  · have HK := fun V => rkeytag9_any k m hm b.org b.aud V
    have HM := fun V => rmac8_any k h12 m (tb (keyBt cryP (k == 1) (bl m) b)) (tb (bodyP b).1) (by have := keyBt_short cryP (k == 1) (bl m) b; rw [tb_size]; omega) (by have := bodyP_short (b := b); rw [tb_size]; omega) V
    rw [tagBt_ok h0]
    rw [bl_tb, bl_tb] at HM
    rw [show (keyP cryP (k == 1) (bl m) (nameK 107 b.org b.aud).1).1 = keyBt cryP (k == 1) (bl m) b from rfl] at HK
    rw [show st2 (bodyP b) = .tuple #[.string (tb (bodyP b).1), .int .i64 ((bodyP b).2 : Nat)] from rfl, h0] at HB
    generalize mac8P cryP (k == 1) (keyBt cryP (k == 1) (bl m) b) (bodyP b).1 = T at *
    obtain ⟨r, x⟩ := T
    rw [st2_tb] at HM ⊢
    generalize tb (keyBt cryP (k == 1) (bl m) b) = kt at *
    generalize tb (bodyP b).1 = bt at *
    clear h0 hrow hms hml hm h12
    obtain ⟨c, e, q, aud, mem, org⟩ := b
    dsimp only [btC] at *
    generalize mem.length = n at *
    unfold suiteV at *
    have HCE : Hid (∀ W, BAt W (w.heap.size + 1) ⟨c, e, q, aud, mem, org⟩ (.slice ao n cap) → W.heap[w.heap.size]? = some (.cells #[.int .u8 k, .string m] 45 (0, 0)) → W.cell? ⟨w.heap.size, 0, none⟩ = some (.int .u8 k) ∧ W.cell? ⟨w.heap.size, 1, none⟩ = some (.string m) ∧ W.cell? ⟨w.heap.size + 1, 3, none⟩ = some (.int .i64 aud) ∧ W.cell? ⟨w.heap.size + 1, 5, none⟩ = some (.int .i64 org)) := Lib.hid (fun V h g => ⟨cell_of_row _ _ 0 _ _ _ g, cell_of_row _ _ 1 _ _ _ g, h.cells.2.2.2.1, h.cells.2.2.2.2.2⟩)
    have HB := Lib.hid HB
    have HK := Lib.hid HK
    have HM := Lib.hid HM
    go_enter Tryz.func19, Tryz.ntmps19
    go_wp2_with fail
    rw [← HW0.out]
    refine (HB.out _ BB.out).mono ?_; rintro e1 w1 ⟨rfl, b1⟩
    have GG := Lib.hid (GG.out.below b1)
    have SS := Lib.hid (heap_below b1 SS.out)
    have BB := Lib.hid (below_step BB.out b1)
    clear b1
    go_wp2_with fail
    have GG := Lib.hid (GG.out.below (drew12 w1))
    have SS := Lib.hid (heap_below (drew12 w1) SS.out)
    have BB := Lib.hid (below_step BB.out (drew12 w1))
    have KS := HCE.out _ GG.out SS.out
    refine wp_region_held_drew (S := fun W => W.cell? ⟨w.heap.size, 0, none⟩ = some (.int .u8 k) ∧ W.cell? ⟨w.heap.size, 1, none⟩ = some (.string m) ∧ W.cell? ⟨w.heap.size + 1, 3, none⟩ = some (.int .i64 aud) ∧ W.cell? ⟨w.heap.size + 1, 5, none⟩ = some (.int .i64 org)) (by kernel_rfl) (by first | assumption | exact KS) (fun hHeld => ?_)
    generalize w1.drew = wz at *
    refine wpAnyH_take (i := 0) (oi := { dst := some 16, op := Op.load 45 (Operand.tmp 2), type := 45, pos := "ref.go:71", after := #[], guard := none }) (v := ?_) rfl (by kernel_rfl) (by kernel_rfl) (by kernel_rfl) (fun _ _ _ h => h) (Or.inl ⟨by rfl, ?_⟩) (by assumption) ?_
    rotate_left 1
    · (intro w hSw; (try dsimp only at hSw); go_simp; try with_reducible rfl)
    (try simp only [Act.put, List.setIfInBounds_toArray, List.set_cons_zero, List.set_cons_succ])
    refine wpAnyH_take (i := 1) (oi := { dst := some 17, op := Op.load 45 (Operand.tmp 2), type := 45, pos := "ref.go:71", after := #[], guard := none }) (v := ?_) rfl (by kernel_rfl) (by kernel_rfl) (by kernel_rfl) (fun _ _ _ h => h) (Or.inl ⟨by rfl, ?_⟩) (by assumption) ?_
    rotate_left 1
    · (intro w hSw; (try dsimp only at hSw); go_simp; try with_reducible rfl)
    (try simp only [Act.put, List.setIfInBounds_toArray, List.set_cons_zero, List.set_cons_succ])
    refine wpAnyH_take (i := 2) (oi := { dst := some 18, op := Op.fieldAddr 26 (Operand.tmp 3) 3, type := 0, pos := "ref.go:71", after := #[], guard := none }) (v := ?_) rfl (by kernel_rfl) (by kernel_rfl) (by kernel_rfl) (fun _ _ _ h => h) (Or.inl ⟨by rfl, ?_⟩) (by assumption) ?_
    rotate_left 1
    · (intro w hSw; (try dsimp only at hSw); go_simp; try with_reducible rfl)
    (try simp only [Act.put, List.setIfInBounds_toArray, List.set_cons_zero, List.set_cons_succ])
    refine wpAnyH_take (i := 3) (oi := { dst := some 19, op := Op.load 3 (Operand.tmp 18), type := 3, pos := "ref.go:71", after := #[{ on := 2, ground := Ground.data }], guard := none }) (v := ?_) rfl (by kernel_rfl) (by kernel_rfl) (by kernel_rfl) (fun _ _ _ h => h) (Or.inl ⟨by rfl, ?_⟩) (by assumption) ?_
    rotate_left 1
    · (intro w hSw; (try dsimp only at hSw); go_simp; try with_reducible rfl)
    (try simp only [Act.put, List.setIfInBounds_toArray, List.set_cons_zero, List.set_cons_succ])
    refine wpAnyH_take (i := 4) (oi := { dst := some 20, op := Op.fieldAddr 26 (Operand.tmp 3) 1, type := 0, pos := "ref.go:71", after := #[], guard := none }) (v := ?_) rfl (by kernel_rfl) (by kernel_rfl) (by kernel_rfl) (fun _ _ _ h => h) (Or.inl ⟨by rfl, ?_⟩) (by assumption) ?_
    rotate_left 1
    · (intro w hSw; (try dsimp only at hSw); go_simp; try with_reducible rfl)
    (try simp only [Act.put, List.setIfInBounds_toArray, List.set_cons_zero, List.set_cons_succ])
    refine wpAnyH_take (i := 5) (oi := { dst := some 21, op := Op.load 3 (Operand.tmp 20), type := 3, pos := "ref.go:71", after := #[{ on := 4, ground := Ground.data }], guard := none }) (v := ?_) rfl (by kernel_rfl) (by kernel_rfl) (by kernel_rfl) (fun _ _ _ h => h) (Or.inl ⟨by rfl, ?_⟩) (by assumption) ?_
    rotate_left 1
    · (intro w hSw; (try dsimp only at hSw); go_simp; try with_reducible rfl)
    (try simp only [Act.put, List.setIfInBounds_toArray, List.set_cons_zero, List.set_cons_succ])
    refine wpAnyH_take (i := 7) (oi := { dst := some 23, op := Op.move (Operand.tmp 6), type := 9, pos := "ref.go:71", after := #[], guard := none }) (v := ?_) rfl (by kernel_rfl) (by kernel_rfl) (by kernel_rfl) (fun _ _ _ h => h) (Or.inl ⟨by rfl, ?_⟩) (by assumption) ?_
    rotate_left 1
    · (intro w hSw; (try dsimp only at hSw); go_simp; try with_reducible rfl)
    (try simp only [Act.put, List.setIfInBounds_toArray, List.set_cons_zero, List.set_cons_succ])
    refine wpAnyH_ready (rs := [6]) (by kernel_rfl) (by simp) ?_
    refine AllReadyH.cons (o := { dst := some 22, op := Op.call { callee := Callee.value (Operand.func 61), args := #[Operand.tmp 17, Operand.tmp 19, Operand.tmp 21], argTypes := #[45, 3, 3] }, type := 9, pos := "ref.go:71", after := #[{ on := 1, ground := Ground.data }, { on := 3, ground := Ground.data }, { on := 5, ground := Ground.data }], guard := none }) rfl (fun K hK => ?_) AllReadyH.nil
    go_simp
    refine (HK.out _).mono ?_; rintro e2 w2 ⟨rfl, b2⟩
    have GG := Lib.hid (GG.out.below b2)
    have SS := Lib.hid (heap_below b2 SS.out)
    have BB := Lib.hid (below_step BB.out b2)
    clear b2
    refine hK.out _ _ (HCE.out _ GG.out SS.out) (fun hHeld => ?_)
    clear hK K
    (try simp only [Act.put, List.setIfInBounds_toArray, List.set_cons_zero, List.set_cons_succ])
    refine wpAnyH_ready (rs := [8]) (by kernel_rfl) (by simp) ?_
    refine AllReadyH.cons (o := { dst := some 24, op := Op.call { callee := Callee.value (Operand.func 60), args := #[Operand.tmp 16, Operand.tmp 22, Operand.tmp 23], argTypes := #[45, 9, 9] }, type := 30, pos := "ref.go:71", after := #[{ on := 0, ground := Ground.data }, { on := 6, ground := Ground.data }, { on := 7, ground := Ground.data }, { on := 6, ground := Ground.chain }], guard := none }) rfl (fun K hK => ?_) AllReadyH.nil
    go_simp
    refine (HM.out _).mono ?_; rintro e3 w3 ⟨rfl, b3⟩
    have GG := Lib.hid (GG.out.below b3)
    have SS := Lib.hid (heap_below b3 SS.out)
    have BB := Lib.hid (below_step BB.out b3)
    clear b3
    refine hK.out _ _ (HCE.out _ GG.out SS.out) (fun hHeld => ?_)
    clear hK K
    (try simp only [Act.put, List.setIfInBounds_toArray, List.set_cons_zero, List.set_cons_succ])
    refine wpAnyH_take (i := 9) (oi := { dst := some 25, op := Op.extract (Operand.tmp 24) 0, type := 9, pos := "ref.go:71", after := #[{ on := 8, ground := Ground.data }], guard := none }) (v := ?_) rfl (by kernel_rfl) (by kernel_rfl) (by kernel_rfl) (fun _ _ _ h => h) (Or.inl ⟨by rfl, ?_⟩) (by assumption) ?_
    rotate_left 1
    · (intro w hSw; (try dsimp only at hSw); go_simp; try with_reducible rfl)
    (try simp only [Act.put, List.setIfInBounds_toArray, List.set_cons_zero, List.set_cons_succ])
    refine wpAnyH_take (i := 10) (oi := { dst := some 26, op := Op.extract (Operand.tmp 24) 1, type := 29, pos := "ref.go:71", after := #[{ on := 8, ground := Ground.data }], guard := none }) (v := ?_) rfl (by kernel_rfl) (by kernel_rfl) (by kernel_rfl) (fun _ _ _ h => h) (Or.inl ⟨by rfl, ?_⟩) (by assumption) ?_
    rotate_left 1
    · (intro w hSw; (try dsimp only at hSw); go_simp; try with_reducible rfl)
    (try simp only [Act.put, List.setIfInBounds_toArray, List.set_cons_zero, List.set_cons_succ])
    refine wpAnyH_take (i := 11) (oi := { dst := some 4, op := Op.assign (Operand.tmp 25), type := 9, pos := "ref.go:71", after := #[{ on := 9, ground := Ground.data }, { on := 8, ground := Ground.chain }, { on := 0, ground := Ground.phase }, { on := 1, ground := Ground.phase }, { on := 2, ground := Ground.phase }, { on := 3, ground := Ground.phase }, { on := 4, ground := Ground.phase }, { on := 5, ground := Ground.phase }, { on := 6, ground := Ground.phase }, { on := 7, ground := Ground.phase }, { on := 8, ground := Ground.phase }, { on := 9, ground := Ground.phase }, { on := 10, ground := Ground.phase }], guard := none }) (v := ?_) rfl (by kernel_rfl) (by kernel_rfl) (by kernel_rfl) (fun _ _ _ h => h) (Or.inl ⟨by rfl, ?_⟩) (by assumption) ?_
    rotate_left 1
    · (intro w hSw; (try dsimp only at hSw); go_simp; try with_reducible rfl)
    (try simp only [Act.put, List.setIfInBounds_toArray, List.set_cons_zero, List.set_cons_succ])
    refine wpAnyH_take (i := 12) (oi := { dst := some 5, op := Op.assign (Operand.tmp 26), type := 29, pos := "ref.go:71", after := #[{ on := 10, ground := Ground.data }, { on := 11, ground := Ground.chain }, { on := 0, ground := Ground.phase }, { on := 1, ground := Ground.phase }, { on := 2, ground := Ground.phase }, { on := 3, ground := Ground.phase }, { on := 4, ground := Ground.phase }, { on := 5, ground := Ground.phase }, { on := 6, ground := Ground.phase }, { on := 7, ground := Ground.phase }, { on := 8, ground := Ground.phase }, { on := 9, ground := Ground.phase }, { on := 10, ground := Ground.phase }, { on := 11, ground := Ground.phase }], guard := none }) (v := ?_) rfl (by kernel_rfl) (by kernel_rfl) (by kernel_rfl) (fun _ _ _ h => h) (Or.inl ⟨by rfl, ?_⟩) (by assumption) ?_
    rotate_left 1
    · (intro w hSw; (try dsimp only at hSw); go_simp; try with_reducible rfl)
    (try simp only [Act.put, List.setIfInBounds_toArray, List.set_cons_zero, List.set_cons_succ])
    refine wpAnyH_done (by kernel_rfl) ?_ _
    go_wp2_with fail
    go_ret2
    exact ⟨rfl, BB.out⟩
  · rw [tagBt_no h0]
    have hne : ((bodyP b).2 : Int) ≠ 0 := by omega
    have hz1 : (((bodyP b).2 : Int) != 0) = true := by rw [bne_iff_ne]; exact hne
    rw [show st2 (bodyP b) = .tuple #[.string (tb (bodyP b).1), .int .i64 ((bodyP b).2 : Nat)] from rfl] at HB
    rw [st2_tb]
    generalize tb (bodyP b).1 = bt at *
    generalize (bodyP b).2 = x at *
    clear h0 hrow hms hml hm h12 SS GG
    obtain ⟨c, e, q, aud, mem, org⟩ := b
    dsimp only [btC] at *
    generalize mem.length = n at *
    unfold suiteV at *
    have HB := Lib.hid HB
    go_enter Tryz.func19, Tryz.ntmps19
    go_wp2_with fail
    rw [← HW0.out]
    refine (HB.out _ BB.out).mono ?_; rintro e1 w1 ⟨rfl, b1⟩
    have BB := Lib.hid (below_step BB.out b1)
    clear b1
    go_wp2_with fail
    go_ret2
    exact ⟨rfl, BB.out⟩

set_option maxHeartbeats 8000000 in
set_option maxRecDepth 100000 in
theorem rfits13_any (k : Nat) (h12 : k = 1 ∨ k = 2) (m : ByteArray) (hm : m.size ≤ 1000) (b : Bt) (ao : Option Addr) (cap : Nat) (hms : ∀ x ∈ b.mem, x.2.size ≤ 30000) (hml : b.mem.length ≤ 1000000) (tag : ByteArray) (w : World) (hrow : MemRow w ao b.mem) :
    Calls Tryz.prog 21 #[suiteV k m, .agg (btC b (.slice ao b.mem.length cap)), .string tag] w fun x w' => x = .returned (.bool (fitBt cryP (k == 1) (bl m) b tag)) ∧ Below w.heap.size w w' := by
  have HB := fun V (hV : Below w.heap.size w V) => rtag13_any k h12 m hm b ao cap hms hml V (hrow.below hV)
  obtain ⟨W0, hW0⟩ : ∃ V, V = (w.alloc (.cells #[.int .u8 k, .string m] 45)).alloc (.cells (btC b (.slice ao b.mem.length cap)) 26) := ⟨_, rfl⟩
  have s0 : W0.heap[w.heap.size]? = some (.cells #[.int .u8 k, .string m] 45 (0, 0)) := by rw [hW0]; exact (Below.heap_alloc _ _ _ (by simp)).trans (heap_alloc_new _ _)
  have g0 : BAt W0 (w.heap.size + 1) b (.slice ao b.mem.length cap) := by
    have h := bat_new (w.alloc (.cells #[.int .u8 k, .string m] 45)) b (.slice ao b.mem.length cap)
    rw [World.size_alloc] at h
    rw [hW0]; exact h
  have b0 : Below w.heap.size w W0 := by rw [hW0]; exact ((Below.refl _ _).alloc (Nat.le_refl _) _).alloc (by simp) _
  have GG := Lib.hid g0
  have SS := Lib.hid s0
  have BB := Lib.hid b0
  have HW0 := Lib.hid hW0
  clear hW0 g0 b0 s0
  unfold fitBt
  generalize tagBt cryP (k == 1) (bl m) b = T at *
  obtain ⟨r, x⟩ := T
  rw [st2_tb] at HB
  dsimp only
  generalize tb r = rt at *
  have hse : (rt.toList == tag.toList) = decide (rt = tag) := str_eq13 rt tag
  generalize decide (rt = tag) = z at *
  clear hrow hms hml hm h12 GG SS
  obtain ⟨c, e, q, aud, mem, org⟩ := b
  dsimp only [btC] at *
  generalize mem.length = n at *
  unfold suiteV at *
  have HB := Lib.hid HB
  by_cases hx : x = 0
  · subst hx
    go_enter Tryz.func21, Tryz.ntmps21
    go_wp2_with fail
    rw [← HW0.out]
    refine (HB.out _ BB.out).mono ?_; rintro e1 w1 ⟨rfl, b1⟩
    have BB := Lib.hid (below_step BB.out b1)
    clear b1
    go_wp2_with fail
    go_ret
    exact ⟨by simp, BB.out⟩
  · have hx1 : ((x : Int) == 0) = false := by rw [beq_eq_false_iff_ne]; omega
    have hx2 : decide (x = 0) = false := decide_eq_false hx
    rw [hx2]
    clear hx hx2 hse
    go_enter Tryz.func21, Tryz.ntmps21
    go_wp2_with fail
    rw [← HW0.out]
    refine (HB.out _ BB.out).mono ?_; rintro e1 w1 ⟨rfl, b1⟩
    have BB := Lib.hid (below_step BB.out b1)
    clear b1
    go_wp2_with fail
    go_ret
    exact ⟨rfl, BB.out⟩

end Go.Proofs.YtbdlegjklfkdmaaGreatDoor.Pl
