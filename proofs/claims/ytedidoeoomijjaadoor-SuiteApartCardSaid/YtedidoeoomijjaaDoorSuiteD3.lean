/- What hmac.Same answers: whether two texts are equal. A region that draws its order, by what holds whatever has come up; inside a fence, also in a round. What octet.Num answers. What octet.ReadNum answers. Rows of texts read: what comes, text by text, and what a reader of count of them answers; plain mathematics alone. The places of a text of terms, one behind the other: where each begins, how deep it is, where its head ends, how many parts it has; plain mathematics alone. What term.isName answers. What the document's own Num and digits answer: the same encoding. What the document's own ReadNum answers: the same as octet.ReadNum. What the listed table gives the walks: its cells. -/
import Derived.Test.YtedidoeoomijjaaDoorSuiteD2
import Derived.Laws.BitsAllLaws
import Derived.OrdersIn
import Derived.OwnWalkIn
import Derived.Test.YtedidoeoomijjaaDoorSuiteD1
import Derived.Test.YtedidoeoomijjaaDoorProg
import Derived.WalkKit
import Derived.Outline
import Derived.Handy
import Derived.Lib.Hide
import Derived.Laws.IdiomStrings
import Derived.WalkSpells
import Derived.Lib.Strings
import Derived.Laws.RangeString
import Derived.Laws.RangeAny
import Derived.Lib.RuneBytes
import Derived.Laws.Cover4
import Derived.Lib.OthersKept
import Derived.Laws.OwnMore
import Derived.OwnWalk
import Derived.Deep.RegionWith
import Derived.WalkLawsBesides
import Derived.Deep.RegionHeld3
import Derived.Test.YtedidoeoomijjaaDoorRows
import Derived.Lib.LaidTab
import Derived.ProofKit
import Derived.LaidMore
import Derived.OpenShut
import Derived.Stop.Joined
namespace Go.Proofs.YtedidoeoomijjaaDoor.Pl
open Go.RowKit

/-- What has differed in the first k numbers. -/
def dif (l m : List Nat) : Nat → Nat
  | 0 => 0
  | k + 1 => dif l m k ||| (l.getD k 0 ^^^ m.getD k 0)
theorem or_zero (a b : Nat) : a ||| b = 0 ↔ a = 0 ∧ b = 0 := by
  constructor
  · intro h
    constructor
    · apply Nat.eq_of_testBit_eq; intro i
      have := congrArg (fun x => x.testBit i) h
      simp only [Nat.testBit_or, Nat.zero_testBit, Bool.or_eq_false_iff] at this
      rw [this.1, Nat.zero_testBit]
    · apply Nat.eq_of_testBit_eq; intro i
      have := congrArg (fun x => x.testBit i) h
      simp only [Nat.testBit_or, Nat.zero_testBit, Bool.or_eq_false_iff] at this
      rw [this.2, Nat.zero_testBit]
  · rintro ⟨rfl, rfl⟩; rfl
theorem xor_zero (a b : Nat) : a ^^^ b = 0 ↔ a = b := by
  constructor
  · intro h
    apply Nat.eq_of_testBit_eq; intro i
    have := congrArg (fun x => x.testBit i) h
    simp only [Nat.testBit_xor, Nat.zero_testBit] at this
    cases h1 : a.testBit i <;> cases h2 : b.testBit i <;> simp_all
  · rintro rfl; exact Nat.xor_self a
theorem dif_lt {l m : List Nat} (hl : Bytes l) (hm : Bytes m) (k : Nat) : dif l m k < 256 := by
  induction k with
  | zero => exact (by decide : (0 : Nat) < 256)
  | succ k ih => exact Nat.or_lt_two_pow (n := 8) ih (Nat.xor_lt_two_pow (n := 8) (hl.at k) (hm.at k))
theorem dif_zero {l m : List Nat} (k : Nat) : dif l m k = 0 ↔ ∀ j, j < k → l.getD j 0 = m.getD j 0 := by
  induction k with
  | zero => exact ⟨fun _ j hj => absurd hj (by omega), fun _ => rfl⟩
  | succ k ih =>
    rw [dif, or_zero, xor_zero, ih]
    constructor
    · rintro ⟨h1, h2⟩ j hj
      by_cases e : j = k
      · subst e; exact h2
      · exact h1 j (by omega)
    · exact fun h => ⟨fun j hj => h j (by omega), h k (by omega)⟩
theorem nums_inj {a b : ByteArray} (h : nums a = nums b) : a = b := by
  apply ByteArray.ext
  apply Array.ext'
  exact (List.map_inj_right (fun x y hxy => UInt8.toNat_inj.1 hxy)).1 h
theorem dif_all {a b : ByteArray} (h : a.size = b.size) : dif (nums a) (nums b) a.size = 0 ↔ a = b := by
  rw [dif_zero]
  constructor
  · exact fun k => nums_inj (getD_ext (by rw [nums_length, nums_length, h]) (fun i hi => k i (by rwa [nums_length] at hi)))
  · rintro rfl j _; rfl
theorem dif_int (x c d : Nat) (hx : x < 256) (hc : c < 256) (hd : d < 256) : x ||| (c ^^^ d) < 256 := Nat.or_lt_two_pow (n := 8) hx (Nat.xor_lt_two_pow (n := 8) hc hd)

set_option maxRecDepth 100000 in
theorem same_any (a b : ByteArray) (hn : a.size ≤ 1000000) (w : World) (r : Bool) (hr : r = decide (a = b)) :
    Calls Tryd.prog 120 #[.string a, .string b] w fun e w' => e = .returned (.bool r) ∧ Below w.heap.size w w' := by
  have HR := Lib.hid hr
  clear hr
  by_cases hsz : a.size = b.size
  · have HSZ := Lib.hid hsz
    have e1 : ((a.size : Int) != (b.size : Int)) = false := by rw [hsz]; simp
    obtain ⟨n, en⟩ : ∃ n, n = a.size := ⟨_, rfl⟩
    have EN := Lib.hid en
    clear hsz en
    go_enter Tryd.func120, Tryd.ntmps120
    go_wp2_with fail
    go_loopw [5, 14] (fun d i wr => ∃ k x : Nat, k ≤ a.size ∧ i = .int .i64 k ∧ d = .int .u8 x ∧ Hid (x = dif (nums a) (nums b) k) ∧ Hid (Below w.heap.size w wr)) (fun _ i _ => a.size - (intOf i).toNat)
    case atStart => exact ⟨0, 0, by omega, rfl, rfl, Lib.hid rfl, Lib.hid (Below.refl _ _)⟩
    case round =>
      obtain ⟨k, x, hk, rfl, rfl, hx, hbw⟩ := hrel
      by_cases hlt : k < a.size
      · obtain ⟨c, ec⟩ : ∃ c : Nat, c = (nums a).getD k 0 := ⟨_, rfl⟩
        obtain ⟨d, ed⟩ : ∃ d : Nat, d = (nums b).getD k 0 := ⟨_, rfl⟩
        have i1 : ∀ V : World, (Instr.index 9 (.string a) (.int .i64 (k : Int))).run Tryd.prog V = .ok (.int .u8 (c : Int)) V := str_index a k c hlt ec
        have i2 : ∀ V : World, (Instr.index 9 (.string b) (.int .i64 (k : Int))).run Tryd.prog V = .ok (.int .u8 (d : Int)) V := str_index b k d (by rw [← HSZ.out]; exact hlt) ed
        have hc : c < 256 := by rw [ec]; exact (nums_bytes a).at k
        have hd : d < 256 := by rw [ed]; exact (nums_bytes b).at k
        have hx' : x < 256 := by rw [hx.out]; exact dif_lt (nums_bytes a) (nums_bytes b) k
        have b1 : bits .xor .u8 (c : Int) (d : Int) = ((c ^^^ d : Nat) : Int) := u8_xor_nat c d hc hd
        have b2 : bits .or .u8 (x : Int) ((c ^^^ d : Nat) : Int) = ((x ||| (c ^^^ d) : Nat) : Int) := u8_or_nat x _ hx' (Nat.xor_lt_two_pow (n := 8) hc hd)
        have hz : x ||| (c ^^^ d) = dif (nums a) (nums b) (k + 1) := by rw [dif, ← ec, ← ed, ← hx.out]
        generalize x ||| (c ^^^ d) = z at b2 hz
        generalize c ^^^ d = y at b1 b2
        have HZ := Lib.hid hz
        clear hz hc hd hx'
        have HC := Lib.hid ec
        have HD := Lib.hid ed
        clear ec ed
        go_wp2_with fail
        go_quiet (fail)
        go_wp2
        exact ⟨⟨k + 1, z, by omega, by go_num, by simp, HZ, Lib.hid (below_drewN hbw.out _)⟩, by simp [intOf]; omega⟩
      · obtain rfl : k = a.size := by omega
        have q : ((x : Int) == 0) = r := by
          rw [HR.out]
          have h := dif_all HSZ.out
          rw [← hx.out] at h
          by_cases e : a = b
          · rw [decide_eq_true e, beq_iff_eq]; have := h.2 e; omega
          · rw [decide_eq_false e, beq_eq_false_iff_ne]; intro e0; exact e (h.1 (by omega))
        have HQ := Lib.hid hbw
        clear hx hbw
        go_wp2
        go_ret
        exact ⟨rfl, HQ.out.out⟩
  · have e1 : ((a.size : Int) != (b.size : Int)) = true := by simp; omega
    have HN : Hid (decide (a = b) = false) := Lib.hid (decide_eq_false (fun e => hsz (by rw [e])))
    clear hsz
    go_enter Tryd.func120, Tryd.ntmps120
    go_wp2_with fail
    go_ret
    exact ⟨by rw [HR.out, HN.out]; rfl, Below.refl _ _⟩
end Go.Proofs.YtedidoeoomijjaaDoor.Pl

namespace Go.Proofs.YtedidoeoomijjaaDoor.Pl

def unlisted (l : List Bool) : Nat := (l.map fun b => if b then 0 else 1).sum
theorem unlisted_set : ∀ (l : List Bool) (i : Nat), l.getD i true = false → unlisted (l.set i true) + 1 = unlisted l
  | [], i, h => by simp at h
  | b :: l, 0, h => by
    simp at h; subst h
    simp [unlisted]; omega
  | b :: l, i + 1, h => by
    have ih := unlisted_set l i (by simpa using h)
    simp only [unlisted, List.set_cons_succ, List.map_cons, List.sum_cons] at ih ⊢
    omega
theorem unlisted_zero : ∀ (l : List Bool) (i : Nat), unlisted l = 0 → l.getD i true = true
  | [], i, _ => by simp
  | b :: l, 0, h => by
    cases b with
    | true => rfl
    | false => simp [unlisted] at h
  | b :: l, i + 1, h => by
    have h' : unlisted l = 0 := by
      simp only [unlisted, List.map_cons, List.sum_cons] at h ⊢
      omega
    simpa using unlisted_zero l i h'

variable {F : Fence} {n : Nat} {P : Program} {ops : Array Oper} {Q : Exit → Act → World → Prop} {md : Region.Mode}

theorem getD_list (a : Array Bool) (i : Nat) (d : Bool) : a.getD i d = a.toList.getD i d := by
  rw [Array.getD_eq_getD_getElem?, List.getD_eq_getElem?_getD, Array.getElem?_toList]

/-- What holds whatever has come up serves every order. -/
theorem wpAnyIn_inv (I : Array Bool → Act → World → Prop)
    (hstep : ∀ listed a w i, I listed a w → i ∈ Region.ready md ops listed → wpOpIn F n P ops Q i (I (listed.setIfInBounds i true)) a w)
    (hdone : ∀ listed a w, I listed a w → Region.ready md ops listed = [] → Q .normal a w) :
    ∀ (fuel : Nat) (listed : Array Bool) (a : Act) (w : World), unlisted listed.toList ≤ fuel → I listed a w → wpAnyIn F n P md ops Q fuel listed a w
  | 0, listed, a, w, hf, hI => by
    have h0 : Region.ready md ops listed = [] := by
      rw [List.eq_nil_iff_forall_not_mem]
      intro i hi
      have h1 := (mem_ready.1 hi).1
      rw [getD_list, unlisted_zero _ _ (by omega)] at h1
      cases h1
    exact ⟨h0, hdone _ _ _ hI h0⟩
  | fuel + 1, listed, a, w, hf, hI => by
    refine ⟨fun h0 => hdone _ _ _ hI h0, fun i hi => ?_⟩
    refine wpOpIn_mono (fun a' w' h => wpAnyIn_inv I hstep hdone fuel _ a' w' ?_ h) (hstep _ _ _ _ hI hi)
    have h1 := (mem_ready.1 hi).1
    rw [getD_list] at h1
    have h2 := unlisted_set listed.toList i h1
    rw [Array.toList_setIfInBounds]
    omega

/-- Every operation waits for earlier ones alone. -/
def backB (ops : Array Oper) : Bool := (List.range ops.size).all fun i => match ops[i]? with | some o => o.after.all (fun e => decide (e.on < i)) | none => true
theorem backB_spec (h : backB ops = true) {i : Nat} {o : Oper} (ho : ops[i]? = some o) : ∀ e ∈ o.after, e.on < i := by
  intro e he
  unfold backB at h
  have h1 := List.all_eq_true.1 h i (List.mem_range.2 (Array.getElem?_eq_some_iff.1 ho).1)
  simp only [ho] at h1
  have h2 := Array.all_eq_true_iff_forall_mem.1 h1 e he
  simpa using h2
/-- Where nothing may come up any more, everything has. -/
theorem all_listed {listed : Array Bool} (hb : backB ops = true) (hs : listed.size = ops.size) (hr : Region.ready md ops listed = []) : ∀ (k i : Nat), i < k → i < ops.size → listed.getD i true = true
  | 0, _, h, _ => by omega
  | k + 1, i, hk, hi => by
    cases hl : listed.getD i true with
    | true => rfl
    | false =>
      have hm : i ∈ Region.ready md ops listed := by
        refine mem_ready.2 ⟨hl, ops[i], Array.getElem?_eq_getElem hi, fun e he _ => ?_⟩
        have hlt := backB_spec hb (Array.getElem?_eq_getElem hi) e he
        have h1 := all_listed hb hs hr k e.on (by omega) (by omega)
        rw [Array.getD_eq_getD_getElem?, Array.getElem?_eq_getElem (by omega)] at h1 ⊢
        exact h1
      rw [hr] at hm
      cases hm

theorem dep {i : Nat} {listed : Array Bool} {o : Oper} (hi : i ∈ Region.ready md ops listed) (ho : ops[i]? = some o) (e : Edge) (he : e ∈ o.after) (hb : Region.binds md e = true) : listed.getD e.on false = true := by
  obtain ⟨_, o', ho', hall⟩ := mem_ready.1 hi
  rw [ho] at ho'
  cases ho'
  exact hall e he hb

/-- One operation that is carried out, what follows behind a variable. -/
theorem wpOpIn_want {i : Nat} {o : Oper} {a : Act} {w : World} {I : Act → World → Prop} (ho : ops[i]? = some o) (hw : Region.wanted o (yielded ops a.tmps) = true)
    (h : ∀ K : Act → World → Prop, (∀ a w, I a w → K a w) → o.wpIn F n P a w K Q) : wpOpIn F n P ops Q i I a w := by
  unfold wpOpIn
  simp only [ho, hw, if_true]
  exact h I (fun _ _ h => h)

/-- An append that is known to go through. -/
theorem wpOpIn_append {i : Nat} {o : Oper} {a : Act} {w w' : World} {v u v' : Value} {I : Act → World → Prop} (ho : ops[i]? = some o) (hg : Region.wanted o (yielded ops a.tmps) = true) (s x : Operand) (t : TypeId)
    (hop : o.op = Op.call { callee := Callee.builtin Builtin.append, args := #[s, x], argTypes := #[t, t] }) (hs : a.eval s = v) (hx : a.eval x = u) (hrun : (Builtin.append_ #[t, t] o.type #[v, u]).run P w = .ok v' w')
    (h : I (a.put o.dst v') w') : wpOpIn F n P ops Q i I a w := by
  unfold wpOpIn
  simp only [ho, hg, if_true]
  unfold Oper.wpIn
  refine ⟨?_, ?_⟩
  · simp [Oper.about, hop, resolve, Target.leads, Sem.run_pure]
  · rw [Oper.semAt_plain F _ _ (by rw [hop]; intro c hc'; cases hc')]
    simp [execOp, hop, resolve, invoke, builtin, hs, hx, hrun, Result.andThen, Oper.uponIn]
    exact h

/-- The world by what has come up of four that change it, one behind the other. -/
def stW (U0 U1 U2 U3 U4 : World) (b1 b2 b3 b4 : Bool) : World := if b4 then U4 else if b3 then U3 else if b2 then U2 else if b1 then U1 else U0
end Go.Proofs.YtedidoeoomijjaaDoor.Pl

namespace Go.Proofs.YtedidoeoomijjaaDoor.Pl
open Go.RowKit

theorem conv_tail (w : World) (b off len cap : Nat) (l : List UInt8) (hl : l.length = len) (hc : ∀ j (hj : j < l.length), w.cell? ⟨b, off + j, none⟩ = some (.int .u8 (l[j].toNat : Int))) :
    (convert 41 9 (.slice (some ⟨b, off, none⟩) len cap)).run Tryd.prog w = .ok (.string ⟨l.toArray⟩) w := by
  subst hl
  exact run_convert_bytes_back w _ _ _ ⟨b, off, none⟩ cap l Tryd.underlying41 Tryd.underlying5 Tryd.underlying9 (fun j hj => by
    rw [show (⟨b, off, none⟩ : Addr).add j = ⟨b, off + j, none⟩ from by unfold Addr.add; split <;> simp_all]
    exact hc j hj)

theorem conv_lit (w : World) (C : Array Value) (t off len cap : Nat) (ns : List Nat) (h : ∀ n, n ∈ ns → n < 256) (hl : ns.length = len)
    (hC : C.toList.drop off = ns.map fun (n : Nat) => Value.int .u8 (n : Int)) :
    (convert 41 9 (.slice (some ⟨w.heap.size, off, none⟩) len cap)).run Tryd.prog (w.alloc (.cells C t)) = .ok (.string ⟨(ns.map UInt8.ofNat).toArray⟩) (w.alloc (.cells C t)) := by
  refine conv_tail _ _ _ _ _ (ns.map UInt8.ofNat) (by simpa using hl) ?_
  intro j hj
  rw [World.cell?_alloc_mark]
  have hj' : j < ns.length := by simpa using hj
  have h1 : (C.toList.drop off)[j]? = some (.int .u8 (ns[j] : Int)) := by rw [hC]; simp [hj']
  rw [List.getElem?_drop, Array.getElem?_toList] at h1
  rw [h1]
  have h2 := h ns[j] (List.getElem_mem hj')
  have h3 : ((ns.map UInt8.ofNat)[j]).toNat = ns[j] := by simp; omega
  rw [h3]

set_option maxRecDepth 100000 in
theorem num_any (v : Nat) (h8 : v < 256 ^ 8) (w : World) :
    Calls Tryd.prog 48 #[.int .u64 v] w fun e w' => e = .returned (.string ⟨(enc v).toArray⟩) ∧ Below w.heap.size w w' := by
  have h9 : v < 18446744073709551616 := by rw [two64] at h8; exact h8
  clear h8
  by_cases hv : v < 248
  · go_enter Tryd.func48, Tryd.ntmps48
    go_wp2
    rw [conv_lit w _ 98 8 1 1 [v] (by intro n hn; simp at hn; omega) rfl (by simp)]
    go_wp2
    go_ret
    refine ⟨?_, (Below.refl _ _).alloc (Nat.le_refl _) _⟩
    rw [enc_small hv]; rfl
  · go_enter Tryd.func48, Tryd.ntmps48
    go_wp2
    go_rounds 9
    · rw [conv_lit w _ 98 0 9 9 ((247 + 8) :: dn 8 v) (by intro n hn; simp [dn] at hn; omega) rfl (by simp [dn]; try omega)]
      go_wp2; go_ret
      refine ⟨?_, (Below.refl _ _).alloc (Nat.le_refl _) _⟩
      rw [enc_dn (k := 8) (by omega) hv (by simp; omega) (by simp; omega)]; rfl
    · rw [conv_lit w _ 98 1 8 8 ((247 + 7) :: dn 7 v) (by intro n hn; simp [dn] at hn; omega) rfl (by simp [dn]; try omega)]
      go_wp2; go_ret
      refine ⟨?_, (Below.refl _ _).alloc (Nat.le_refl _) _⟩
      rw [enc_dn (k := 7) (by omega) hv (by simp; omega) (by simp; omega)]; rfl
    · rw [conv_lit w _ 98 2 7 7 ((247 + 6) :: dn 6 v) (by intro n hn; simp [dn] at hn; omega) rfl (by simp [dn]; try omega)]
      go_wp2; go_ret
      refine ⟨?_, (Below.refl _ _).alloc (Nat.le_refl _) _⟩
      rw [enc_dn (k := 6) (by omega) hv (by simp; omega) (by simp; omega)]; rfl
    · rw [conv_lit w _ 98 3 6 6 ((247 + 5) :: dn 5 v) (by intro n hn; simp [dn] at hn; omega) rfl (by simp [dn]; try omega)]
      go_wp2; go_ret
      refine ⟨?_, (Below.refl _ _).alloc (Nat.le_refl _) _⟩
      rw [enc_dn (k := 5) (by omega) hv (by simp; omega) (by simp; omega)]; rfl
    · rw [conv_lit w _ 98 4 5 5 ((247 + 4) :: dn 4 v) (by intro n hn; simp [dn] at hn; omega) rfl (by simp [dn]; try omega)]
      go_wp2; go_ret
      refine ⟨?_, (Below.refl _ _).alloc (Nat.le_refl _) _⟩
      rw [enc_dn (k := 4) (by omega) hv (by simp; omega) (by simp; omega)]; rfl
    · rw [conv_lit w _ 98 5 4 4 ((247 + 3) :: dn 3 v) (by intro n hn; simp [dn] at hn; omega) rfl (by simp [dn]; try omega)]
      go_wp2; go_ret
      refine ⟨?_, (Below.refl _ _).alloc (Nat.le_refl _) _⟩
      rw [enc_dn (k := 3) (by omega) hv (by simp; omega) (by simp; omega)]; rfl
    · rw [conv_lit w _ 98 6 3 3 ((247 + 2) :: dn 2 v) (by intro n hn; simp [dn] at hn; omega) rfl (by simp [dn]; try omega)]
      go_wp2; go_ret
      refine ⟨?_, (Below.refl _ _).alloc (Nat.le_refl _) _⟩
      rw [enc_dn (k := 2) (by omega) hv (by simp; omega) (by simp; omega)]; rfl
    · rw [conv_lit w _ 98 7 2 2 ((247 + 1) :: dn 1 v) (by intro n hn; simp [dn] at hn; omega) rfl (by simp [dn]; try omega)]
      go_wp2; go_ret
      refine ⟨?_, (Below.refl _ _).alloc (Nat.le_refl _) _⟩
      rw [enc_dn (k := 1) (by omega) hv (by simp; omega) (by simp; omega)]; rfl
end Go.Proofs.YtedidoeoomijjaaDoor.Pl

namespace Go.Proofs.YtedidoeoomijjaaDoor.Pl
open Go.RowKit

theorem isEmpty_no {s : ByteArray} (h0 : 0 < s.size) : s.toList.isEmpty = false := by
  rw [ByteArray.toList_eq]
  have : s.data.toList.length = s.size := by simp
  cases hd : s.data.toList with
  | nil => rw [hd] at this; simp at this; omega
  | cons a r => rfl

set_option maxRecDepth 100000 in
theorem readnum_nil (w : World) :
    Calls Tryd.prog 50 #[.string ⟨#[]⟩] w fun e w' => e = .returned (.tuple #[.int .u64 0, .int .i64 0, .int .i64 6]) ∧ w = w' := by
  go_enter Tryd.func50, Tryd.ntmps50
  go_wp2
  go_ret3
  exact ⟨rfl, rfl⟩
set_option maxRecDepth 100000 in
theorem readnum_small (s : ByteArray) (h0 : 0 < s.size) (hb : s[0].toNat < 248) (w : World) :
    Calls Tryd.prog 50 #[.string s] w fun e w' => e = .returned (.tuple #[.int .u64 s[0].toNat, .int .i64 1, .int .i64 0]) ∧ w = w' := by
  have hne : s.toList.isEmpty = false := isEmpty_no h0
  go_enter Tryd.func50, Tryd.ntmps50
  go_wp2
  go_ret3
  exact ⟨rfl, rfl⟩
set_option maxRecDepth 100000 in
theorem readnum_end (s : ByteArray) (h0 : 0 < s.size) (hb : 248 ≤ s[0].toNat) (hb2 : s[0].toNat < 256) (hk : s.size - 1 < s[0].toNat - 247) (w : World) :
    Calls Tryd.prog 50 #[.string s] w fun e w' => e = .returned (.tuple #[.int .u64 0, .int .i64 0, .int .i64 6]) ∧ w = w' := by
  have hne : s.toList.isEmpty = false := isEmpty_no h0
  go_enter Tryd.func50, Tryd.ntmps50
  go_wp2
  go_ret3
  exact ⟨rfl, rfl⟩
set_option maxRecDepth 100000 in
theorem readnum_zero (s d : ByteArray) (hd : s.extract 1 s.size = d) (h0 : 0 < s.size) (hb : 248 ≤ s[0].toNat) (hb2 : s[0].toNat < 256) (hk : s[0].toNat - 247 ≤ d.size) (h1 : 0 < d.size) (hz : d[0].toNat = 0) (w : World) :
    Calls Tryd.prog 50 #[.string s] w fun e w' => e = .returned (.tuple #[.int .u64 0, .int .i64 0, .int .i64 7]) ∧ w = w' := by
  have hne : s.toList.isEmpty = false := isEmpty_no h0
  have hz' : ((d[0].toNat : Int) == 0) = true := by rw [hz]; rfl
  clear hz
  go_enter Tryd.func50, Tryd.ntmps50
  go_wp2
  go_ret3
  exact ⟨rfl, rfl⟩
set_option maxRecDepth 100000 in
theorem readnum_one (s d : ByteArray) (hd : s.extract 1 s.size = d) (h0 : 0 < s.size) (hb : s[0].toNat = 248) (h1 : 0 < d.size) (hz : d[0].toNat ≠ 0) (hz2 : d[0].toNat < 248) (w : World) :
    Calls Tryd.prog 50 #[.string s] w fun e w' => e = .returned (.tuple #[.int .u64 0, .int .i64 0, .int .i64 7]) ∧ w = w' := by
  have hne : s.toList.isEmpty = false := isEmpty_no h0
  have hz' : ((d[0].toNat : Int) == 0) = false := by rw [beq_eq_false_iff_ne]; omega
  clear hz
  go_enter Tryd.func50, Tryd.ntmps50
  go_wp2
  go_ret3
  exact ⟨rfl, rfl⟩
/-- A number of fewer than eight digits, and one digit more. -/
theorem or_digit (V : Nat) (b : UInt8) (hV : V < 256 ^ 7) : bits .or .u64 (IntKind.u64.wrap ((V : Int) * 256)) (IntKind.u64.wrap (b.toNat : Int)) = ((V * 256 + b.toNat : Nat) : Int) := by
  have hb : b.toNat < 256 := b.toNat_lt
  have h7 : V < 72057594037927936 := hV
  have e1 : IntKind.u64.wrap ((V : Int) * 256) = ((V * 256 : Nat) : Int) := by rw [IntWalk.u64_in _ (by omega)]; omega
  have e2 : IntKind.u64.wrap (b.toNat : Int) = (b.toNat : Int) := IntWalk.u64_in _ (by omega)
  rw [e1, e2, bits_or_u64_nat _ _ (by omega) (by omega)]
  have h := Nat.two_pow_add_eq_or_of_lt (i := 8) (b := b.toNat) (by omega) V
  have h2 : 2 ^ 8 * V = V * 256 := by omega
  rw [h2] at h
  rw [← h]
theorem val_take (l : List UInt8) (j : Nat) (h : j < l.length) : val (l.take (j + 1)) = val (l.take j) * 256 + l[j].toNat := by
  rw [List.take_succ_eq_append_getElem h, val_snoc]
theorem or_zero64 (b : UInt8) : bits .or .u64 0 (IntKind.u64.wrap (b.toNat : Int)) = (b.toNat : Int) := by
  have h := or_digit 0 b (by decide)
  have e : IntKind.u64.wrap (((0 : Nat) : Int) * 256) = 0 := by rw [IntWalk.u64_in _ (by omega)]; omega
  rw [e] at h
  rw [h]; simp
set_option maxRecDepth 100000 in
theorem readnum_ok1 (s d : ByteArray) (hd : s.extract 1 s.size = d) (h0 : 0 < s.size) (hb : s[0].toNat = 248) (h1 : 0 < d.size) (hz2 : 248 ≤ d[0].toNat) (w : World) :
    Calls Tryd.prog 50 #[.string s] w fun e w' => e = .returned (.tuple #[.int .u64 d[0].toNat, .int .i64 2, .int .i64 0]) ∧ w = w' := by
  have hne : s.toList.isEmpty = false := isEmpty_no h0
  have hz' : ((d[0].toNat : Int) == 0) = false := by rw [beq_eq_false_iff_ne]; omega
  go_enter Tryd.func50, Tryd.ntmps50
  go_wp2
  go_rounds 2
  go_ret3
  exact ⟨ret3 (or_zero64 _), rfl⟩
set_option maxRecDepth 100000 in
theorem readnum_okk (s d : ByteArray) (k : Nat) (hd : s.extract 1 s.size = d) (h0 : 0 < s.size) (hb : s[0].toNat = 247 + k) (hk2 : 2 ≤ k) (hk8 : k ≤ 8) (h1 : k ≤ d.size) (h1' : 0 < d.size) (hz : d[0].toNat ≠ 0) (w : World) :
    Calls Tryd.prog 50 #[.string s] w fun e w' => e = .returned (.tuple #[.int .u64 (val (d.data.toList.take k)), .int .i64 (1 + k), .int .i64 0]) ∧ w = w' := by
  have hne : s.toList.isEmpty = false := isEmpty_no h0
  have hz' : ((d[0].toNat : Int) == 0) = false := by rw [beq_eq_false_iff_ne]; omega
  have hk1 : ((k : Int) == 1) = false := by rw [beq_eq_false_iff_ne]; omega
  have hk7 : (247 + (k : Int) - 247) = k := by omega
  have hd1 : decide (d.size < k) = false := by simp; omega
  have hd2 : decide (247 + (k : Int) < 248) = false := by simp; omega
  clear hz
  go_enter Tryd.func50, Tryd.ntmps50
  go_wp2
  go_loop [2, 39] (fun v i => ∃ j : Nat, j ≤ k ∧ i = .int .i64 j ∧ v = .int .u64 (val (d.data.toList.take j))) (fun _ i => k - (intOf i).toNat)
  case atStart => exact ⟨0, Nat.zero_le _, rfl, rfl⟩
  case round =>
    obtain ⟨j, hj, rfl, rfl⟩ := hrel
    have HS : Hid (∀ h : j < d.size, val (d.data.toList.take (j + 1)) = val (d.data.toList.take j) * 256 + d[j].toNat) := fun h => val_take d.data.toList j (by simpa using h)
    have HV : Hid (j < k → val (d.data.toList.take j) < 256 ^ 7) := fun h => by
      have h2 := val_lt (d.data.toList.take j)
      exact Nat.lt_of_lt_of_le h2 (Nat.pow_le_pow_right (by decide) (by simp; omega))
    clear hz' hk1 hk7 hne hd1 hd2
    go_wp2
    · have hlt : j < k := by assumption
      go_round
      case rel => exact ⟨j + 1, by omega, by go_num, by rw [HS.out (by omega), ← or_digit _ _ (HV.out hlt)]⟩
      case measure => simp [intOf]; omega
    · obtain rfl : j = k := by omega
      go_ret3
      exact ⟨rfl, rfl⟩
/-- ReadNum, whatever it is given. -/
theorem readnum_any (s : ByteArray) (hs : s.size ≤ 9223372036854775807) (w : World) :
    Calls Tryd.prog 50 #[.string s] w fun e w' => e = .returned (.tuple #[.int .u64 (rdn s.data.toList).1, .int .i64 (rdn s.data.toList).2.1, .int .i64 (rdn s.data.toList).2.2]) ∧ w = w' := by
  by_cases h0 : 0 < s.size
  · have hd : ∃ d, s.extract 1 s.size = d := ⟨_, rfl⟩
    obtain ⟨d, hd⟩ := hd
    have hdd : d.data.toList = s.data.toList.drop 1 := by
      rw [← hd]
      have := Lib.extract_data s 1 s.size
      rw [this]
      exact List.take_of_length_le (by simp)
    have hds : d.size = s.size - 1 := by
      have : d.data.toList.length = s.size - 1 := by rw [hdd]; simp
      simpa using this
    have hlist : s.data.toList = s[0] :: d.data.toList := by
      rw [hdd]
      have h1 : s.data.toList.length = s.size := by simp
      cases hl : s.data.toList with
      | nil => rw [hl] at h1; simp at h1; omega
      | cons a r =>
        have : s[0] = a := by
          have h2 : s.data.toList[0]'(by omega) = a := by simp [hl]
          exact h2
        simp [this]
    have hhd : ∀ h : 0 < d.size, d.data.toList.headD 0 = d[0] := by
      intro h
      have h1 : d.data.toList.length = d.size := by simp
      cases hl : d.data.toList with
      | nil => rw [hl] at h1; simp at h1; omega
      | cons a r =>
        have h2 : d.data.toList[0]'(by omega) = a := by simp [hl]
        exact h2.symm
    have hb2 : s[0].toNat < 256 := s[0].toNat_lt
    have hdl : d.data.toList.length = d.size := by simp
    rw [hlist]
    by_cases hb : s[0].toNat < 248
    · rw [rdn_small _ _ hb]
      exact readnum_small s h0 hb w
    · by_cases hk : d.size < s[0].toNat - 247
      · rw [rdn_end _ _ hb (by omega)]
        exact readnum_end s h0 (by omega) hb2 (by omega) w
      · have h1 : 0 < d.size := by omega
        have hh := hhd h1
        by_cases hz : d[0].toNat = 0
        · rw [rdn_form _ _ hb (by omega) (.inl (by rw [hh]; exact UInt8.toNat.inj (by simpa using hz)))]
          exact readnum_zero s d hd h0 (by omega) hb2 (by omega) h1 hz w
        · have hz' : ¬ d.data.toList.headD 0 = 0 := fun e => hz (by rw [← hh, e]; rfl)
          by_cases hone : s[0].toNat = 248
          · by_cases hz2 : d[0].toNat < 248
            · rw [rdn_form _ _ hb (by omega) (.inr ⟨hone, by rw [hh]; exact hz2⟩)]
              exact readnum_one s d hd h0 hone h1 hz hz2 w
            · rw [rdn_ok _ _ hb (by omega) (by
                intro h
                rcases h with h | ⟨_, h⟩
                · exact hz' h
                · rw [hh] at h; exact hz2 h), hone]
              have e1 : val (d.data.toList.take (248 - 247)) = d[0].toNat := by
                rw [← hh]
                cases hl : d.data.toList with
                | nil => rw [hl] at hdl; simp at hdl; omega
                | cons a r => simp [val]
              rw [e1]
              exact readnum_ok1 s d hd h0 hone h1 (by omega) w
          · have ⟨k, hk2⟩ : ∃ k, s[0].toNat = 247 + k := ⟨s[0].toNat - 247, by omega⟩
            rw [rdn_ok _ _ hb (by omega) (by
                intro h
                rcases h with h | ⟨h, _⟩
                · exact hz' h
                · exact hone h), hk2, Nat.add_sub_cancel_left]
            exact readnum_okk s d k hd h0 hk2 (by omega) (by omega) (by omega) h1 hz w
  · have : s = ⟨#[]⟩ := by
      cases s with
      | mk a =>
        have h2 : a.size = 0 := by simpa [ByteArray.size] using h0
        rw [Array.eq_empty_of_size_eq_zero h2]
    subst this
    exact readnum_nil w
end Go.Proofs.YtedidoeoomijjaaDoor.Pl

namespace Go.Proofs.YtedidoeoomijjaaDoor.Pl

/-- What is read of l, one text behind the other, up to the first that can't be read. -/
def seqP (m : Int) : Nat → List UInt8 → List (List UInt8 × Nat × Nat)
  | 0, _ => []
  | f + 1, l => rdt l m :: (if (rdt l m).2.2 = 0 then seqP m f (l.drop (rdt l m).2.1) else [])
/-- What a reader of k texts answers, behind acc that have at bytes. -/
def rdrow (m : Int) : Nat → List UInt8 → List (List UInt8) → Nat → List (List UInt8) × Nat × Nat
  | 0, _, acc, at' => (acc, at', 0)
  | k + 1, l, acc, at' => if (rdt l m).2.2 = 0 then rdrow m k (l.drop (rdt l m).2.1) (acc ++ [(rdt l m).1]) (at' + (rdt l m).2.1) else ([], 0, (rdt l m).2.2)

def sumN (xs : List (List UInt8 × Nat × Nat)) : Nat := (xs.map (·.2.1)).sum

theorem rdrow_exit (m : Int) : ∀ (pre : List (List UInt8 × Nat × Nat)) (f : Nat) (l : List UInt8) (acc : List (List UInt8)) (at' : Nat), pre <+: seqP m f l → (∀ x ∈ pre, x.2.2 = 0) →
    rdrow m pre.length l acc at' = (acc ++ pre.map (·.1), at' + sumN pre, 0)
  | [], _, _, _, _, _, _ => by simp [rdrow, sumN]
  | x :: pre, 0, l, acc, at', h, _ => by simp [seqP] at h
  | x :: pre, f + 1, l, acc, at', h, he => by
    rw [seqP, List.cons_prefix_cons] at h
    obtain ⟨hx, h⟩ := h
    have h0 := he x (by simp)
    subst hx
    rw [if_pos h0] at h
    have ih := rdrow_exit m pre f _ (acc ++ [(rdt l m).1]) (at' + (rdt l m).2.1) h (fun y hy => he y (by simp [hy]))
    simp only [List.length_cons, rdrow, if_pos h0]
    rw [ih]
    simp [sumN]; omega

theorem rdrow_ret (m : Int) : ∀ (q : List (List UInt8 × Nat × Nat)) (x : List UInt8 × Nat × Nat) (f : Nat) (l : List UInt8) (acc : List (List UInt8)) (at' k : Nat), q ++ [x] <+: seqP m f l → (∀ y ∈ q, y.2.2 = 0) → x.2.2 ≠ 0 → q.length < k →
    rdrow m k l acc at' = ([], 0, x.2.2)
  | [], x, 0, l, acc, at', k, h, _, _, _ => by simp [seqP] at h
  | [], x, f + 1, l, acc, at', k, h, _, hx, hk => by
    rw [seqP, List.nil_append, List.cons_prefix_cons] at h
    obtain ⟨k, rfl⟩ : ∃ j, k = j + 1 := ⟨k - 1, by simp at hk; omega⟩
    rw [rdrow, ← h.1, if_neg hx]
  | y :: q, x, 0, l, acc, at', k, h, _, _, _ => by simp [seqP] at h
  | y :: q, x, f + 1, l, acc, at', k, h, he, hx, hk => by
    rw [seqP, List.cons_append, List.cons_prefix_cons] at h
    obtain ⟨hy, h⟩ := h
    have h0 := he y (by simp)
    subst hy
    rw [if_pos h0] at h
    obtain ⟨k, rfl⟩ : ∃ j, k = j + 1 := ⟨k - 1, by simp at hk; omega⟩
    rw [rdrow, if_pos h0]
    exact rdrow_ret m q x f _ _ _ k h (fun z hz => he z (by simp [hz])) hx (by simpa using hk)

theorem rdt_nil (m : Int) : rdt [] m = ([], 0, 6) := by simp [rdt, rdn]
theorem rdt_step {l : List UInt8} {m : Int} (h : (rdt l m).2.2 = 0) : 1 ≤ (rdt l m).2.1 ∧ (rdt l m).2.1 ≤ l.length := by
  have e : rdt l m = ((rdt l m).1, (rdt l m).2.1, 0) := by rw [← h]
  obtain ⟨h1, h2, _⟩ := rdt_sound e
  exact ⟨h1, h2⟩
theorem rdt_size (l : List UInt8) (m : Int) : (rdt l m).2.1 ≤ l.length := by
  by_cases h : (rdt l m).2.2 = 0
  · exact (rdt_step h).2
  · have ⟨v, n, e, hr⟩ : ∃ v n e, rdn l = (v, n, e) := ⟨_, _, _, rfl⟩
    by_cases he : e = 0
    · subst he
      by_cases h1 : max m 0 < (v : Int)
      · rw [rdt_long hr h1]; simp
      · by_cases h2 : l.length - n < v
        · rw [rdt_end hr h1 h2]; simp
        · rw [rdt_ok hr h1 h2] at h; simp at h
    · rw [rdt_err hr he]; simp
/-- It ends: by one that can't be read. -/
theorem seqP_ends (m : Int) : ∀ (f : Nat) (l : List UInt8), l.length < f → ¬ ∀ x ∈ seqP m f l, x.2.2 = 0
  | 0, l, h, _ => by omega
  | f + 1, l, h, he => by
    rw [seqP] at he
    have h0 := he (rdt l m) (by simp)
    rw [if_pos h0] at he
    have hs := rdt_step h0
    exact seqP_ends m f (l.drop (rdt l m).2.1) (by simp; omega) (fun x hx => he x (by simp [hx]))
end Go.Proofs.YtedidoeoomijjaaDoor.Pl

namespace Go.Proofs.YtedidoeoomijjaaDoor.Pl

structure Pl6 where
  at_ : Nat
  dep : Nat
  head : Nat
  parts : Nat

/-- Of so many terms, one behind the other. -/
def visL (vs : Nat → List Pl6 × Nat × Nat) : Nat → Nat → List Pl6 × Nat × Nat
  | 0, a => ([], a, 0)
  | k + 1, a => if (vs a).2.2 = 0 then ((vs a).1 ++ (visL vs k (vs a).2.1).1, (visL vs k (vs a).2.1).2) else ((vs a).1, 0, (vs a).2.2)
/-- Of the term at a place, that is no deeper than d below. -/
def visP (s : List UInt8) : Nat → Nat → List Pl6 × Nat × Nat
  | 0, _ => ([], 0, 60)
  | d + 1, a =>
    if (headP (s.drop a)).2.2 = 0 then
      (⟨a, 16 - d, a + (headP (s.drop a)).1, (headP (s.drop a)).2.1⟩ :: (visL (visP s d) (headP (s.drop a)).2.1 (a + (headP (s.drop a)).1)).1, (visL (visP s d) (headP (s.drop a)).2.1 (a + (headP (s.drop a)).1)).2)
    else ([], 0, (headP (s.drop a)).2.2)

/-- Where the places end, and what is wrong, is what reading tells. -/
theorem vis_read (s : List UInt8) : ∀ (d a : Nat), (visP s d a).2 = if (readP d (s.drop a)).2 = 0 then (a + (readP d (s.drop a)).1, 0) else (0, (readP d (s.drop a)).2) := by
  intro d
  induction d with
  | zero => intro a; simp [visP, readP]
  | succ d ih =>
    have loop : ∀ (k a : Nat), (visL (visP s d) k a).2 = if (loopP (readP d) k (s.drop a)).2 = 0 then (a + (loopP (readP d) k (s.drop a)).1, 0) else (0, (loopP (readP d) k (s.drop a)).2) := by
      intro k
      induction k with
      | zero => intro a; simp [visL, loopP]
      | succ k ihk =>
        intro a
        have h := ih a
        by_cases h0 : (readP d (s.drop a)).2 = 0
        · rw [if_pos h0] at h
          have h1 : (visP s d a).2.2 = 0 := by rw [h]
          have h2 : (visP s d a).2.1 = a + (readP d (s.drop a)).1 := by rw [h]
          rw [visL, if_pos h1, loopP, if_pos h0]
          simp only
          rw [ihk, h2, ← List.drop_drop]
          by_cases h3 : (loopP (readP d) k ((s.drop a).drop (readP d (s.drop a)).1)).2 = 0
          · rw [if_pos h3, if_pos h3]; simp [Nat.add_assoc]
          · rw [if_neg h3, if_neg h3]; exact (if_neg h3).symm
        · rw [if_neg h0] at h
          have h1 : (visP s d a).2.2 ≠ 0 := by rw [h]; exact h0
          rw [visL, if_neg h1, loopP, if_neg h0]
          simp only
          rw [if_neg h0, h]
    intro a
    by_cases h0 : (headP (s.drop a)).2.2 = 0
    · rw [visP, if_pos h0, readP, if_pos h0]
      simp only
      rw [loop, ← List.drop_drop]
      by_cases h3 : (loopP (readP d) (headP (s.drop a)).2.1 ((s.drop a).drop (headP (s.drop a)).1)).2 = 0
      · rw [if_pos h3, if_pos h3]; simp [Nat.add_assoc]
      · rw [if_neg h3, if_neg h3]; exact (if_neg h3).symm
    · rw [visP, if_neg h0, readP, if_neg h0]
      simp [h0]

theorem head_le {s : List UInt8} (h : (headP s).2.2 = 0) : (headP s).1 ≤ s.length := (head_front (s := s) (n := (headP s).1) (p := (headP s).2.1) (by rw [← h])).1
theorem head_le32 {s : List UInt8} (h : (headP s).2.2 = 0) : (headP s).2.1 ≤ 32 := by
  obtain ⟨c, hk⟩ := head_kind (head_front (s := s) (n := (headP s).1) (p := (headP s).2.1) (by rw [← h])).2
  cases hk <;> omega
theorem head_pos {s : List UInt8} (h : (headP s).2.2 = 0) : 1 ≤ (headP s).1 := by
  have h1 := (head_front (s := s) (n := (headP s).1) (p := (headP s).2.1) (by rw [← h])).2.pos
  cases hh : (headP s).1 with
  | zero => rw [hh] at h1; simp at h1
  | succ k => omega

/-- What every place is. -/
def okPl (s : List UInt8) (p : Pl6) : Prop := p.at_ ≤ s.length ∧ p.head ≤ s.length ∧ 1 ≤ p.dep ∧ p.dep ≤ 16 ∧ p.parts ≤ 32
theorem vis_ok (s : List UInt8) : ∀ (d a : Nat), d ≤ 16 → a ≤ s.length → (∀ p ∈ (visP s d a).1, okPl s p) ∧ ((visP s d a).2.2 = 0 → (visP s d a).2.1 ≤ s.length) := by
  intro d
  induction d with
  | zero => intro a _ _; simp [visP]
  | succ d ih =>
    intro a hd ha
    have loop : ∀ (k a : Nat), a ≤ s.length → (∀ p ∈ (visL (visP s d) k a).1, okPl s p) ∧ ((visL (visP s d) k a).2.2 = 0 → (visL (visP s d) k a).2.1 ≤ s.length) := by
      intro k
      induction k with
      | zero => intro a ha; simp [visL, ha]
      | succ k ihk =>
        intro a ha
        obtain ⟨i1, i2⟩ := ih a (by omega) ha
        rw [visL]
        split
        · rename_i h0
          obtain ⟨j1, j2⟩ := ihk (visP s d a).2.1 (i2 h0)
          refine ⟨?_, j2⟩
          intro p hp
          rcases List.mem_append.1 hp with hp | hp
          · exact i1 p hp
          · exact j1 p hp
        · rename_i h0
          exact ⟨i1, fun h => absurd h h0⟩
    rw [visP]
    split
    · rename_i h0
      have h1 := head_le h0
      have h2 := head_le32 h0
      rw [List.length_drop] at h1
      obtain ⟨j1, j2⟩ := loop (headP (s.drop a)).2.1 (a + (headP (s.drop a)).1) (by omega)
      refine ⟨?_, j2⟩
      intro p hp
      rcases List.mem_cons.1 hp with rfl | hp
      · exact ⟨ha, by show a + _ ≤ _; omega, by show 1 ≤ 16 - d; omega, by show 16 - d ≤ 16; omega, h2⟩
      · exact j1 p hp
    · rename_i h0
      exact ⟨by simp, fun h => absurd h h0⟩

/-- The last place's head is where all ends. -/
theorem vis_last (s : List UInt8) : ∀ (d a : Nat), (visP s d a).2.2 = 0 → ∃ q p, (visP s d a).1 = q ++ [p] ∧ p.head = (visP s d a).2.1 := by
  intro d
  induction d with
  | zero => intro a h; simp [visP] at h
  | succ d ih =>
    have loop : ∀ (k a : Nat), (visL (visP s d) (k + 1) a).2.2 = 0 → ∃ q p, (visL (visP s d) (k + 1) a).1 = q ++ [p] ∧ p.head = (visL (visP s d) (k + 1) a).2.1 := by
      intro k
      induction k with
      | zero =>
        intro a h
        rw [visL] at h ⊢
        split at h
        · rename_i h0
          rw [if_pos h0]
          obtain ⟨q, p, e1, e2⟩ := ih a h0
          exact ⟨q, p, by simp [visL, e1], by simp [visL, e2]⟩
        · rename_i h0
          exact absurd h h0
      | succ k ihk =>
        intro a h
        rw [visL] at h ⊢
        split at h
        · rename_i h0
          rw [if_pos h0]
          obtain ⟨q, p, e1, e2⟩ := ihk _ h
          exact ⟨(visP s d a).1 ++ q, p, by simp [e1], e2⟩
        · rename_i h0
          exact absurd h h0
    intro a h
    rw [visP] at h ⊢
    split at h
    · rename_i h0
      rw [if_pos h0]
      cases hk : (headP (s.drop a)).2.1 with
      | zero => exact ⟨[], ⟨a, 16 - d, a + (headP (s.drop a)).1, 0⟩, by simp [visL], by simp [visL]⟩
      | succ k =>
        rw [hk] at h
        obtain ⟨q, p, e1, e2⟩ := loop k _ h
        exact ⟨_ :: q, p, by simp [e1]; rfl, e2⟩
    · rename_i h0
      exact absurd h h0

/- The places of a tree, each with what stands there. -/
mutual
def offT : Nat → Nat → Tm → List (Pl6 × Tm)
  | a, D, .node h l => (⟨a, D, a + h.length, l.length⟩, .node h l) :: offs (a + h.length) (D + 1) l
def offs : Nat → Nat → List Tm → List (Pl6 × Tm)
  | _, _, [] => []
  | a, D, t :: l => offT a D t ++ offs (a + t.enc.length) D l
end
theorem offs_snd : ∀ t : Tm, ∀ a D, (offT a D t).map Prod.snd = t.places := by
  refine Tm.ind ?_
  intro h l ih a D
  have loop : ∀ m : List Tm, (∀ t ∈ m, t ∈ l) → ∀ a D, (offs a D m).map Prod.snd = placess m := by
    intro m
    induction m with
    | nil => intro _ a D; rfl
    | cons t m ihm =>
      intro hm a D
      rw [offs, List.map_append, ih t (hm t (List.mem_cons_self ..)), ihm (fun u hu => hm u (List.mem_cons_of_mem _ hu)), placess]
  rw [offT, List.map_cons, loop l (fun _ h => h), Tm.places]
/-- What reading a tree's bytes goes over. -/
theorem vis_tree (s : List UInt8) : ∀ t : Tm, t.good → ∀ d, t.deep ≤ d → d ≤ 16 → ∀ a rest, s.drop a = t.enc ++ rest → visP s d a = ((offT a (17 - d) t).map Prod.fst, a + t.enc.length, 0) := by
  refine Tm.ind ?_
  intro h l ih hg d hd hd16 a rest e
  simp only [Tm.good] at hg
  simp only [Tm.deep] at hd
  obtain ⟨d, rfl⟩ : ∃ k, d = k + 1 := ⟨d - 1, by omega⟩
  have loop : ∀ m : List Tm, (∀ t ∈ m, t ∈ l) → ∀ a rest, s.drop a = encs m ++ rest → visL (visP s d) m.length a = ((offs a (17 - d) m).map Prod.fst, a + (encs m).length, 0) := by
    intro m
    induction m with
    | nil => intro _ a rest _; simp [visL, offs, encs]
    | cons t m ihm =>
      intro hm a rest e
      have ht := hm t (List.mem_cons_self ..)
      rw [encs, List.append_assoc] at e
      have h1 := ih t ht (goods_mem hg.2 t ht) d (by have := deeps_mem ht; omega) (by omega) a _ e
      have e2 : s.drop (a + t.enc.length) = encs m ++ rest := by rw [← List.drop_drop, e, List.drop_left]
      have h2 := ihm (fun u hu => hm u (List.mem_cons_of_mem _ hu)) _ _ e2
      rw [List.length_cons, visL, h1, if_pos rfl]
      simp only
      rw [h2, offs, encs, List.map_append]
      simp [Nat.add_assoc]
  rw [Tm.enc_node, List.append_assoc] at e
  have e1 := hg.1 (encs l ++ rest)
  have e2 : s.drop (a + h.length) = encs l ++ rest := by rw [← List.drop_drop, e, List.drop_left]
  rw [visP, e, e1, if_pos rfl]
  simp only
  rw [loop l (fun _ h => h) _ _ e2, offT, Tm.enc_node]
  have hD : 17 - (d + 1) = 16 - d := by omega
  have hD2 : 17 - (d + 1) + 1 = 17 - d := by omega
  rw [hD2, hD, List.map_cons]
  simp [Nat.add_assoc]
/-- What stands at a place. -/
theorem offs_at (s : List UInt8) : ∀ t : Tm, ∀ a D rest, s.drop a = t.enc ++ rest → ∀ x ∈ offT a D t, ∃ r, s.drop x.1.at_ = x.2.enc ++ r := by
  refine Tm.ind ?_
  intro h l ih a D rest e
  have loop : ∀ m : List Tm, (∀ t ∈ m, t ∈ l) → ∀ a D rest, s.drop a = encs m ++ rest → ∀ x ∈ offs a D m, ∃ r, s.drop x.1.at_ = x.2.enc ++ r := by
    intro m
    induction m with
    | nil => intro _ a D rest _ x hx; simp [offs] at hx
    | cons t m ihm =>
      intro hm a D rest e x hx
      rw [encs, List.append_assoc] at e
      rw [offs] at hx
      rcases List.mem_append.1 hx with hx | hx
      · exact ih t (hm t (List.mem_cons_self ..)) a D _ e x hx
      · exact ihm (fun u hu => hm u (List.mem_cons_of_mem _ hu)) (a + t.enc.length) D rest (by rw [← List.drop_drop, e, List.drop_left]) x hx
  intro x hx
  rw [offT] at hx
  rcases List.mem_cons.1 hx with rfl | hx
  · exact ⟨rest, e⟩
  · rw [Tm.enc_node, List.append_assoc] at e
    exact loop l (fun _ h => h) _ _ rest (by rw [← List.drop_drop, e, List.drop_left]) x hx
theorem offs_dep : ∀ t : Tm, ∀ a D, ∀ x ∈ offT a D t, D ≤ x.1.dep := by
  refine Tm.ind ?_
  intro h l ih a D
  have loop : ∀ m : List Tm, (∀ t ∈ m, t ∈ l) → ∀ a D, ∀ x ∈ offs a D m, D ≤ x.1.dep := by
    intro m
    induction m with
    | nil => intro _ a D x hx; simp [offs] at hx
    | cons t m ihm =>
      intro hm a D x hx
      rw [offs] at hx
      rcases List.mem_append.1 hx with hx | hx
      · exact ih t (hm t (List.mem_cons_self ..)) a D x hx
      · exact ihm (fun u hu => hm u (List.mem_cons_of_mem _ hu)) _ D x hx
  intro x hx
  rw [offT] at hx
  rcases List.mem_cons.1 hx with rfl | hx
  · exact Nat.le_refl _
  · have := loop l (fun _ h => h) _ _ x hx; omega
/-- The parts are what stands one deeper. -/
theorem offs_parts (h : List UInt8) (l : List Tm) (a D : Nat) : ((offT a D (.node h l)).filter fun x => x.1.dep == D + 1).map Prod.snd = l := by
  have loop : ∀ m : List Tm, ∀ a, ((offs a (D + 1) m).filter fun x => x.1.dep == D + 1).map Prod.snd = m := by
    intro m
    induction m with
    | nil => intro a; rfl
    | cons t m ihm =>
      intro a
      obtain ⟨h', l'⟩ := t
      rw [offs, List.filter_append, List.map_append, ihm]
      rw [offT, List.filter_cons, if_pos (by simp)]
      have hz : (offs (a + h'.length) (D + 1 + 1) l').filter (fun x => x.1.dep == D + 1) = [] := by
        rw [List.filter_eq_nil_iff]
        intro x hx
        have h1 : D + 1 + 1 ≤ x.1.dep := by
          have h2 := offs_dep (.node h' l') a (D + 1) x (by rw [offT]; exact List.mem_cons_of_mem _ hx)
          have : ∀ m : List Tm, ∀ a E, ∀ x ∈ offs a E m, E ≤ x.1.dep := by
            intro m
            induction m with
            | nil => intro a E x hx; simp [offs] at hx
            | cons t m ihm =>
              intro a E x hx
              rw [offs] at hx
              rcases List.mem_append.1 hx with hx | hx
              · exact offs_dep t a E x hx
              · exact ihm _ E x hx
          exact this l' _ _ x hx
        simp <;> omega
      rw [hz]; simp
  rw [offT, List.filter_cons, if_neg (by simp), loop]
theorem max_app (l m : List Nat) : (l ++ m).foldl max 0 = max (l.foldl max 0) (m.foldl max 0) := by
  have h : ∀ (m : List Nat) (x : Nat), m.foldl max x = max x (m.foldl max 0) := by
    intro m
    induction m with
    | nil => intro x; simp
    | cons y m ih => intro x; rw [List.foldl_cons, List.foldl_cons, ih (max x y), ih (max 0 y)]; omega
  rw [List.foldl_append, h]
theorem max_cons (x : Nat) (l : List Nat) : (x :: l).foldl max 0 = max x (l.foldl max 0) := by
  have := max_app [x] l
  simpa using this
/-- How deep it all is. -/
theorem offs_deep : ∀ t : Tm, ∀ a D, D ≠ 0 → ((offT a D t).map fun x => x.1.dep).foldl max 0 = D - 1 + t.deep := by
  refine Tm.ind ?_
  intro h l ih a D hD
  have loop : ∀ m : List Tm, (∀ t ∈ m, t ∈ l) → ∀ a, ((offs a (D + 1) m).map fun x => x.1.dep).foldl max 0 = if m = [] then 0 else D + deeps m := by
    intro m
    induction m with
    | nil => intro _ a; simp [offs]
    | cons t m ihm =>
      intro hm a
      rw [offs, List.map_append, max_app, ihm (fun u hu => hm u (List.mem_cons_of_mem _ hu))]
      have h1 := ih t (hm t (List.mem_cons_self ..)) a (D + 1) (by omega)
      rw [h1, if_neg (List.cons_ne_nil _ _), deeps]
      have : 1 ≤ t.deep := by obtain ⟨a, b⟩ := t; simp [Tm.deep]
      by_cases hm0 : m = []
      · subst hm0; simp [deeps]
      · rw [if_neg hm0]; omega
  rw [offT, List.map_cons, max_cons, loop l (fun _ h => h)]
  simp only [Tm.deep]
  by_cases hl : l = []
  · subst hl; rw [if_pos rfl, deeps]; omega
  · rw [if_neg hl]
    omega
end Go.Proofs.YtedidoeoomijjaaDoor.Pl

namespace Go.Proofs.YtedidoeoomijjaaDoor.Pl
open Go.RowKit

theorem bl_at (s : ByteArray) (p : Nat) (h : p < s.size) : (bl s).getD p 0 = s[p]'h := by
  unfold bl
  rw [List.getD_eq_getElem?_getD, List.getElem?_eq_getElem (by rw [Array.length_toList]; exact h)]
  simp
  rfl

set_option maxHeartbeats 4000000 in
set_option maxRecDepth 100000 in
theorem isname_any (s : ByteArray) (hs : s.size ≤ 281474976710656) (w : World) :
    Calls Tryd.prog 68 #[.string s] w fun e w' => e = .returned (.bool (nameOK (bl s))) ∧ Below w.heap.size w w' := by
  obtain ⟨z, hz⟩ : ∃ z, z = nameOK (bl s) := ⟨_, rfl⟩
  rw [← hz]
  by_cases h0 : s.size = 0
  · have HZ : Hid (z = false) := Lib.hid (by rw [hz, bl_nil h0]; rfl)
    obtain rfl : s = ⟨#[]⟩ := bl_inj (bl_nil h0)
    clear hz h0 hs
    go_enter Tryd.func68, Tryd.ntmps68
    go_wp2_with fail
    go_loopw [] (fun wr => Hid (wr.heap[w.heap.size]? = some (.stringIter ⟨#[]⟩ 0)) ∧ Hid (Below w.heap.size w wr)) (fun _ => 0)
    case atStart => exact ⟨Lib.hid (World.iter_heap w _ 0), Lib.hid ((Below.refl _ w).alloc (Nat.le_refl _) _)⟩
    case round =>
      obtain ⟨hit, hbw⟩ := hrel
      have hnx : ∀ ty, (Instr.next (.pointer (some ⟨w.heap.size, 0, none⟩)) true ty).run Tryd.prog wr = _ := fun ty => Lib.run_next_end_at wr w.heap.size ⟨#[]⟩ 0 ty hit.out (by decide)
      go_wp2_with fail
      go_ret
      exact ⟨ret6_bool HZ.out.symm, hbw.out⟩
  · have hne : s ≠ ⟨#[]⟩ := fun e => h0 (by rw [e]; rfl)
    obtain ⟨g1, g2⟩ := str6_ne hne
    have g3 : s.toList.isEmpty = false := by
      rw [Lib.toList_data, List.isEmpty_eq_false_iff]
      intro e
      exact h0 (by rw [size_bl]; unfold bl; rw [e]; rfl)
    have HB : Hid (∀ k, k < s.size → nameB ((bl s).getD k 0) = false → z = false) := Lib.hid (fun k hk hb => by
      rw [hz]
      cases e : nameOK (bl s) with
      | false => rfl
      | true => rw [((nameOK_iff _).1 e).2 k (by rw [bl_length]; exact hk)] at hb; exact absurd hb (by decide))
    have HE : Hid ((∀ j, j < s.size → nameB ((bl s).getD j 0) = true) → z = true) := Lib.hid (fun h => by
      rw [hz, nameOK_iff]
      refine ⟨fun e => h0 (by rw [size_bl, e]; rfl), fun j hj => h j (by rw [bl_length] at hj; exact hj)⟩)
    clear hz h0 hne
    go_enter Tryd.func68, Tryd.ntmps68
    go_wp2_with fail
    go_loopw [] (fun wr => ∃ pos : Nat, Hid (pos ≤ s.size) ∧ Hid (wr.heap[w.heap.size]? = some (.stringIter s pos)) ∧ Hid (∀ j, j < pos → nameB ((bl s).getD j 0) = true) ∧ Hid (Below w.heap.size w wr)) (fun wr => s.size - wr.iterPos w.heap.size)
    case atStart => exact ⟨0, Lib.hid (Nat.zero_le _), Lib.hid (World.iter_heap w s 0), Lib.hid (fun j hj => absurd hj (Nat.not_lt_zero j)), Lib.hid ((Below.refl _ w).alloc (Nat.le_refl _) _)⟩
    case round =>
      obtain ⟨pos, hps, hit, hch, hbw⟩ := hrel
      by_cases hp : pos < s.size
      · have hd : Hid (1 ≤ (Utf8.decode s pos).2 ∧ ((nameB ((bl s).getD pos 0) = true ∧ (Utf8.decode s pos).1 = ((bl s).getD pos 0).toNat ∧ (Utf8.decode s pos).2 = 1) ∨ (nameB ((bl s).getD pos 0) = false ∧ ((Utf8.decode s pos).1 = ((bl s).getD pos 0).toNat ∨ 128 ≤ (Utf8.decode s pos).1)))) := Lib.hid (by
          rw [bl_at s pos hp]
          by_cases ha : (s[pos]'hp).toNat < 128
          · rw [decode_ascii s pos hp ha]
            cases hnb : nameB (s[pos]'hp) with
            | true => exact ⟨Nat.le_refl _, .inl ⟨rfl, rfl, rfl⟩⟩
            | false => exact ⟨Nat.le_refl _, .inr ⟨rfl, .inl rfl⟩⟩
          · have hh := decode_high s pos hp (by omega)
            refine ⟨hh.2, .inr ⟨?_, .inr hh.1⟩⟩
            unfold nameB
            exact decide_eq_false (by omega))
        have hwd : Hid (1 ≤ (Utf8.decode s pos).2) := Lib.hid hd.out.1
        have hit2 := Lib.hid (Lib.iterAt_heap wr w.heap.size s pos (pos + (Utf8.decode s pos).2) hit.out)
        have hb2 := Lib.hid (Lib.below_iterAt hbw.out (k := w.heap.size) (Nat.le_refl _) s (pos + (Utf8.decode s pos).2))
        have hnx : ∀ ty, (Instr.next (.pointer (some ⟨w.heap.size, 0, none⟩)) true ty).run Tryd.prog wr = _ := fun ty => Lib.run_next_any_at wr w.heap.size s pos ty hit.out hp
        generalize wr.iterAt w.heap.size s (pos + (Utf8.decode s pos).2) = W1 at *
        obtain ⟨c, ec⟩ : ∃ c : UInt8, c = (bl s).getD pos 0 := ⟨_, rfl⟩
        have HBK : Hid (nameB c = false → z = false) := Lib.hid (by rw [ec]; exact HB.out pos hp)
        obtain ⟨n, hn⟩ : ∃ n, n = (Utf8.decode s pos).1 := ⟨_, rfl⟩
        obtain ⟨dw, hdw⟩ : ∃ dw, dw = (Utf8.decode s pos).2 := ⟨_, rfl⟩
        have hd' := hd.out
        rw [← hn, ← hdw, ← ec] at hd'
        have HNX : Hid (((97 ≤ n ∧ n ≤ 122) ∨ (48 ≤ n ∧ n ≤ 57) ∨ n = 47 ∨ n = 46 ∨ n = 45) → pos + dw ≤ s.size ∧ ∀ j, j < pos + dw → nameB ((bl s).getD j 0) = true) := Lib.hid (fun h => by
          rcases hd'.2 with ⟨h1, h2, h3⟩ | ⟨h1, h2 | h2⟩
          · refine ⟨by omega, fun j hj => ?_⟩
            by_cases e : j = pos
            · rw [e, ← ec]; exact h1
            · exact hch.out j (by omega)
          · exfalso
            unfold nameB at h1
            rw [← h2] at h1
            exact absurd h (of_decide_eq_false h1)
          · omega)
        have HW : Hid (¬ ((97 ≤ n ∧ n ≤ 122) ∨ (48 ≤ n ∧ n ≤ 57) ∨ n = 47 ∨ n = 46 ∨ n = 45) → z = false) := Lib.hid (fun h => by
          rcases hd'.2 with ⟨h1, h2, h3⟩ | ⟨h1, _⟩
          · exfalso
            unfold nameB at h1
            rw [← h2] at h1
            exact h (of_decide_eq_true h1)
          · exact HBK.out h1)
        rw [← hn] at hnx
        rw [← hdw] at hit2 hwd
        clear ec hn hdw hd hd' HBK
        have hcs : n < 45 ∨ n = 45 ∨ n = 46 ∨ n = 47 ∨ (48 ≤ n ∧ n ≤ 57) ∨ (57 < n ∧ n < 97) ∨ (97 ≤ n ∧ n ≤ 122) ∨ 122 < n := by omega
        have ef : ∀ m : Nat, n ≠ m → ((n : Int) == (m : Int)) = false := fun m h => by rw [beq_eq_false_iff_ne]; omega
        rcases hcs with h | h | h | h | ⟨h, h'⟩ | ⟨h, h'⟩ | ⟨h, h'⟩ | h
        · have HX := Lib.hid (HW.out (by omega))
          have q1 : ((n : Int) == 47) = false := ef 47 (by omega)
          have q2 : ((n : Int) == 46) = false := ef 46 (by omega)
          have q3 : ((n : Int) == 45) = false := ef 45 (by omega)
          clear ef
          go_wp2_with fail
          go_ret
          exact ⟨ret6_bool HX.out.symm, hb2.out⟩
        · subst h
          have HP := Lib.hid (HNX.out (by omega)).1
          have HX := Lib.hid (HNX.out (by omega)).2
          clear ef
          go_wp2_with fail
          go_roundw
          case rel => exact ⟨_, HP, hit2, HX, hb2⟩
          case measure => simp only [World.iterPos, hit2.out, hit.out]; have := hwd.out; omega
        · subst h
          have HP := Lib.hid (HNX.out (by omega)).1
          have HX := Lib.hid (HNX.out (by omega)).2
          clear ef
          go_wp2_with fail
          go_roundw
          case rel => exact ⟨_, HP, hit2, HX, hb2⟩
          case measure => simp only [World.iterPos, hit2.out, hit.out]; have := hwd.out; omega
        · subst h
          have HP := Lib.hid (HNX.out (by omega)).1
          have HX := Lib.hid (HNX.out (by omega)).2
          clear ef
          go_wp2_with fail
          go_roundw
          case rel => exact ⟨_, HP, hit2, HX, hb2⟩
          case measure => simp only [World.iterPos, hit2.out, hit.out]; have := hwd.out; omega
        · have HP := Lib.hid (HNX.out (by omega)).1
          have HX := Lib.hid (HNX.out (by omega)).2
          clear ef
          go_wp2_with fail
          go_roundw
          case rel => exact ⟨_, HP, hit2, HX, hb2⟩
          case measure => simp only [World.iterPos, hit2.out, hit.out]; have := hwd.out; omega
        · have HX := Lib.hid (HW.out (by omega))
          have q1 : ((n : Int) == 47) = false := ef 47 (by omega)
          have q2 : ((n : Int) == 46) = false := ef 46 (by omega)
          have q3 : ((n : Int) == 45) = false := ef 45 (by omega)
          have q4 : decide ((n : Int) ≤ 57) = false := decide_eq_false (by omega)
          clear ef
          go_wp2_with fail
          go_ret
          exact ⟨ret6_bool HX.out.symm, hb2.out⟩
        · have HP := Lib.hid (HNX.out (by omega)).1
          have HX := Lib.hid (HNX.out (by omega)).2
          clear ef
          go_wp2_with fail
          go_roundw
          case rel => exact ⟨_, HP, hit2, HX, hb2⟩
          case measure => simp only [World.iterPos, hit2.out, hit.out]; have := hwd.out; omega
        · have HX := Lib.hid (HW.out (by omega))
          have q1 : ((n : Int) == 47) = false := ef 47 (by omega)
          have q2 : ((n : Int) == 46) = false := ef 46 (by omega)
          have q3 : ((n : Int) == 45) = false := ef 45 (by omega)
          have q4 : decide ((n : Int) ≤ 57) = false := decide_eq_false (by omega)
          have q5 : decide ((n : Int) ≤ 122) = false := decide_eq_false (by omega)
          clear ef
          go_wp2_with fail
          go_ret
          exact ⟨ret6_bool HX.out.symm, hb2.out⟩
      · have hnx : ∀ ty, (Instr.next (.pointer (some ⟨w.heap.size, 0, none⟩)) true ty).run Tryd.prog wr = _ := fun ty => Lib.run_next_end_at wr w.heap.size s pos ty hit.out hp
        have HQ := Lib.hid (HE.out (fun j hj => hch.out j (by omega)))
        clear hp
        go_wp2_with fail
        go_ret
        exact ⟨ret6_bool HQ.out.symm, hbw.out⟩
end Go.Proofs.YtedidoeoomijjaaDoor.Pl

namespace Go.Proofs.YtedidoeoomijjaaDoor.Pl
open Go.RowKit

theorem conv_at (W : World) (b : Nat) (x : Int) (h : W.cell? ⟨b, 0, none⟩ = some (.int .u8 x)) :
    (convert 41 9 (.slice (some ⟨b, 0, none⟩) 1 1)).run Tryd.prog W = .ok (.string ⟨#[UInt8.ofNat x.toNat]⟩) W := by
  rw [run_convert_bytes_string W _ _ _ (some ⟨b, 0, none⟩) 1 1 Tryd.underlying41 Tryd.underlying5 Tryd.underlying9]
  have hl := run_loadCells_list (P := Tryd.prog) W ⟨b, 0, none⟩ ([x].map (Value.int .u8)) (fun j v hj => by
    have hj' := (List.getElem?_eq_some_iff.1 hj).1
    obtain rfl : j = 0 := by simp at hj'; omega
    simp at hj
    rw [← hj]
    exact h)
  rw [run_bytesToString W ⟨b, 0, none⟩ 1 1 [x] hl]
  rfl
theorem conv_new (W : World) (x : Int) (T : TypeId) :
    (convert 41 9 (.slice (some ⟨W.heap.size, 0, none⟩) 1 1)).run Tryd.prog (W.alloc (.cells #[.int .u8 x] T)) = .ok (.string ⟨#[UInt8.ofNat x.toNat]⟩) (W.alloc (.cells #[.int .u8 x] T)) :=
  conv_at _ _ x (by rw [World.cell?_alloc_mark]; rfl)
theorem conv_newd (W : World) (x : Int) (T : TypeId) :
    (convert 41 9 (.slice (some ⟨W.heap.size, 0, none⟩) 1 1)).run Tryd.prog (W.alloc (.cells #[.int .u8 x] T)).drew = .ok (.string ⟨#[UInt8.ofNat x.toNat]⟩) (W.alloc (.cells #[.int .u8 x] T)).drew :=
  conv_at _ _ x (by rw [show (W.alloc (.cells #[.int .u8 x] T)).drew.cell? ⟨W.heap.size, 0, none⟩ = (W.alloc (.cells #[.int .u8 x] T)).cell? ⟨W.heap.size, 0, none⟩ from rfl, World.cell?_alloc_mark]; rfl)
attribute [local go_sem] conv_new conv_newd
theorem conv_kept {a w1 : World} (hb : Below a.heap.size a w1) (x : Int) : ∀ b, a.cell? ⟨b, 0, none⟩ = some (.int .u8 x) →
    (convert 41 9 (.slice (some ⟨b, 0, none⟩) 1 1)).run Tryd.prog w1 = .ok (.string ⟨#[UInt8.ofNat x.toNat]⟩) w1 :=
  fun b h => conv_at w1 b x ((hb.cell (p := ⟨b, 0, none⟩) (World.block_lt_of_cell? _ _ h)).trans h)



set_option maxRecDepth 100000 in
theorem digits_any (f : Nat) : ∀ (v : Nat) (w : World), v < 256 ^ f → f ≤ 8 →
    Calls Tryd.prog 63 #[.int .u64 v] w fun e w' => e = .returned (.string ⟨(dig f v).toArray⟩) ∧ Below w.heap.size w w' := by
  induction f with
  | zero =>
    intro v w hv _
    obtain rfl : v = 0 := by simpa using hv
    go_enter Tryd.func63, Tryd.ntmps63
    go_wp2_with fail
    go_ret
    exact ⟨rfl, Below.refl _ _⟩
  | succ f ih =>
    intro v w hv hf
    by_cases h0 : v = 0
    · subst h0
      go_enter Tryd.func63, Tryd.ntmps63
      go_wp2_with fail
      go_ret
      exact ⟨rfl, Below.refl _ _⟩
    · have hz : ((v : Int) == 0) = false := by rw [beq_eq_false_iff_ne]; omega
      have h9 : v < 18446744073709551616 := by rw [← two64]; exact Nat.lt_of_lt_of_le hv (Nat.pow_le_pow_right (by decide) hf)
      have hl := dig_length_le f (v / 256)
      have ih' : ∀ W, Calls Tryd.prog 63 #[.int .u64 ((v : Int) / 256)] W fun e w' => e = .returned (.string ⟨(dig f (v / 256)).toArray⟩) ∧ Below W.heap.size W w' := fun W => by
        have h := ih (v / 256) W (by rw [Nat.pow_succ] at hv; omega) (by omega)
        have e : ((v / 256 : Nat) : Int) = (v : Int) / 256 := by omega
        rw [e] at h
        exact h
      have IH := Lib.hid ih'
      have HD := Lib.hid (dig_succ f v h0)
      clear ih ih' hv h0
      go_enter Tryd.func63, Tryd.ntmps63
      go_wp2_with fail

      have hw1 : IntKind.u64.wrap ((v : Int) / 256) = (v : Int) / 256 := IntWalk.u64_in _ (by omega)
      have hw2 : IntKind.u64.wrap ((v : Int) % 256) = (v : Int) % 256 := IntWalk.u64_in _ (by omega)
      have hw4 : (v : Int).tmod 256 = (v : Int) % 256 := Int.tmod_eq_emod_of_nonneg (by omega)
      have hw3 : IntKind.u8.wrap ((v : Int) % 256) = (v : Int) % 256 := IntWalk.u8_in _ (by omega)
      go_region_with (go_at_call 63; refine (IH.out _).mono ?_; rintro e w1 ⟨rfl, hb⟩; have hcv := conv_kept hb ((v : Int) % 256))
      all_goals go_wp2_with fail
      all_goals go_ret
      all_goals refine ⟨ret_str (by rw [HD.out]; exact ByteArray.mk_append_mk _ _), ?_⟩
      · exact (below_undrew hb).alloc (below_undrew hb).size _
      · exact below_step ((Below.refl _ _).alloc (Nat.le_refl _) _) (below_undrew hb)
      · exact below_step ((Below.refl _ _).alloc (Nat.le_refl _) _) (below_undrew hb)

set_option maxRecDepth 100000 in
theorem refnum_any (v : Nat) (h8 : v < 256 ^ 8) (w : World) :
    Calls Tryd.prog 49 #[.int .u64 v] w fun e w' => e = .returned (.string ⟨(enc v).toArray⟩) ∧ Below w.heap.size w w' := by
  by_cases hv : v < 248
  · go_enter Tryd.func49, Tryd.ntmps49
    go_wp2_with fail
    go_ret
    exact ⟨ret_str (by rw [enc_small hv]), (Below.refl _ _).alloc (Nat.le_refl _) _⟩
  · have hl := dig_length_le 8 v
    have HD := Lib.hid (fun W => digits_any 8 v W h8 (Nat.le_refl _))
    have HE := Lib.hid (enc_big hv)
    clear h8
    go_enter Tryd.func49, Tryd.ntmps49
    go_wp2_with fail
    refine (HD.out _).mono ?_; rintro e w1 ⟨rfl, hb⟩
    go_wp2_with fail
    go_ret
    refine ⟨ret_str ?_, hb.alloc hb.size _⟩
    rw [HE.out, ByteArray.mk_append_mk, UInt8.ofNat_add]
    rfl
end Go.Proofs.YtedidoeoomijjaaDoor.Pl

namespace Go.Proofs.YtedidoeoomijjaaDoor.Pl
open Go.RowKit

/-- The number that the first j bytes behind the first one are. -/
def pre (s : ByteArray) (j : Nat) : Nat := val ((s.data.toList.drop 1).take j)
theorem pre_lt (s : ByteArray) (j : Nat) : pre s j < 256 ^ j :=
  Nat.lt_of_lt_of_le (val_lt _) (Nat.pow_le_pow_right (by decide) (by simp; omega))
theorem pre_succ (s : ByteArray) (j : Nat) (h : 1 + j < s.size) : pre s (j + 1) = pre s j * 256 + s[1 + j].toNat := by
  unfold pre
  have hl : (s.data.toList.drop 1).length = s.size - 1 := by simp
  rw [val_take _ j (by omega), List.getElem_drop]
  rfl
end Go.Proofs.YtedidoeoomijjaaDoor.Pl

namespace Go.Proofs.YtedidoeoomijjaaDoor.Pl
open Go.RowKit

theorem gTab : Tryd.prog.globalNamed "chirograph/sha.tableK" = some 0 := by kernel_rfl
theorem tTab : (Tryd.prog.globals[0]?).map (·.type) = some 112 := by kernel_rfl
theorem c34 : Tryd.prog.cellsOf 100 = 1 := by kernel_rfl
theorem c45 : Tryd.prog.cellsOf 112 = 64 := by kernel_rfl
abbrev laidK : List (String × DataW Unit) := [("chirograph/sha.tableK", Rows.laid_chirograph_sha_tableK)]
theorem laid_tab {W : World} (h : laidMetH Tryd.prog laidK W) : Tab W := by
  rw [MakeChecks.laidMetH_plain _ _ _ (by kernel_rfl)] at h
  have hd : (Rows.laid_chirograph_sha_tableK : DataW Unit) = Lib.tabData .u32 (KL.map fun (x : Nat) => (x : Int)) := by rfl
  rw [laidK, hd] at h
  have ht := Lib.tabIs_of_head gTab tTab Tryd.underlying112 Tryd.underlying100 c34 c45 h
  have hc : ∀ j, j < 64 → W.cell? ⟨0, j, none⟩ = some (.int .u32 ((KL.getD j 0 : Nat) : Int)) := fun j hj => by
    have := ht.cell gTab j (by rw [List.length_map, KL_length]; exact hj)
    rw [this]
    have hj' : j < KL.length := by rw [KL_length]; exact hj
    simp [List.getD_eq_getElem?_getD, hj']
  have h0 := block_lt_of_cell (hc 0 (by decide))
  exact ⟨h0, hc⟩
theorem door_met (os : Os) (args : Array Value) : laidMetH Tryd.prog laidK ((World.doorLaid Tryd.prog 400 os).forCall (fun _ _ => 0) ⟨#[], args, []⟩).memory :=
  laidMetH_of_parts3 (fuel := 8) (laidMet_of_run' 8 (by kernel_rfl) (by kernel_rfl)) (by kernel_rfl) (by kernel_rfl)
end Go.Proofs.YtedidoeoomijjaaDoor.Pl
