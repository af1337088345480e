/- The program's own run of steps: what is thrown is caught; each kind of step by its number. The program's own run of steps: what a step does that may be. -/
import Derived.Test.YtpajcalfjfkogaaForgeF20
namespace Go.Proofs.Ytpajcalfjfkogaa.Pl
open Go.RowKit Go.Shelf
attribute [local go_sem] Oper.semAt_some

theorem assert11_none (w : World) : (Instr.typeAssert .nilIface 20 27 true).run Try.prog w = .ok (.tuple #[.int .i64 0, .bool false]) w := by kernel_rfl
theorem assert11_err (c : Nat) (w : World) : (Instr.typeAssert (.iface 27 (.int .i64 c)) 20 27 true).run Try.prog w = .ok (.tuple #[.int .i64 c, .bool true]) w := by kernel_rfl
theorem catch11_idle (p b c d : Nat) (w : World) :
    CallsD Try.prog 38 #[ptr11 p, ptr11 b, ptr11 c, ptr11 d] .returning w fun e u' w' => e = .returned (.tuple #[]) ∧ u' = .returning ∧ w' = w := by
  refine callsD_of_wpS Try.func38 rfl fun c₀ cs hu => ?_
  apply wpS_seq
  apply wpS_region
  simp [wpOpsS, go_sem, recoverD, hu, Try.ntmps38, Exit.thenS, assert11_none]
  apply wpS_seq
  apply wpS_region
  simp [wpOpsS, go_sem, Exit.thenS]
  refine wpS_cond (t := false) (by simp [Act.eval, Array.replicate]) ?_
  simp only [Bool.false_eq_true, if_false]
  refine wpS_of_wp (wp_skip ?_)
  cases c₀
  simp_all [bodyPostS, results, Try.results38]
set_option maxHeartbeats 4000000 in
set_option maxRecDepth 100000 in
theorem catch11_thrown (p q b c d n z : Nat) (sl' : Option Addr) (cap : Nat) (w : World) (u1 u2 u3 : Value) (hbc : c ≠ b) (hbd : d ≠ b) (hcd : d ≠ c)
    (hp : w.cell? ⟨p, 0, none⟩ = some (ptr11 q)) (hq : w.cell? ⟨q, 1, none⟩ = some (.slice sl' n cap)) (hb : Boxed w b 22 u1) (hc : Boxed w c 3 u2) (hd : Boxed w d 27 u3) :
    CallsD Try.prog 38 #[ptr11 p, ptr11 b, ptr11 c, ptr11 d] (.panicking [{ v := .iface 27 (.int .i64 z), recovered := false }]) w fun e u' w' =>
      e = .returned (.tuple #[]) ∧ u' = .panicking [{ v := .iface 27 (.int .i64 z), recovered := true }] ∧ w' = ((w.setCell ⟨b, 0, none⟩ (.slice none 0 0)).setCell ⟨c, 0, none⟩ (.int .i64 n)).setCell ⟨d, 0, none⟩ (.int .i64 z) := by
  have hb1 := hb.cell
  have hb2 := hb.frozen
  have hc0 := hc.other (B' := b) hbc (.slice none 0 0)
  have hc1 := hc0.cell
  have hc2 := hc0.frozen
  have hd0 := (hd.other (B' := b) hbd (.slice none 0 0)).other (B' := c) hcd (.int .i64 n)
  have hd1 := hd0.cell
  have hd2 := hd0.frozen
  refine callsD_of_wpS Try.func38 rfl fun c₀ cs hu => ?_
  apply wpS_seq
  apply wpS_region
  simp [wpOpsS, go_sem, recoverD, hu, Try.ntmps38, Exit.thenS, assert11_err]
  apply wpS_seq
  apply wpS_region
  simp [wpOpsS, go_sem, Exit.thenS]
  refine wpS_cond (t := true) (by simp [Act.eval, Array.replicate]) ?_
  simp only [if_true]
  refine wpS_of_wp ?_
  go_wp2_with fail
  simp [bodyPostS, results, Try.results38, Array.replicate]
theorem perform_results (V : World) (n at_ e : Nat) (v : Value) (tmps : Array Value) (h4 : tmps.getD 4 undef = ptr11 n) (h5 : tmps.getD 5 undef = ptr11 (n + 1)) (h6 : tmps.getD 6 undef = ptr11 (n + 2))
    (b1 : Boxed V n 22 v) (b2 : Boxed V (n + 1) 3 (.int .i64 at_)) (b3 : Boxed V (n + 2) 27 (.int .i64 e)) :
    (results Try.f22 tmps).run Try.prog V = .ok (.tuple #[v, .int .i64 at_, .int .i64 e]) V := by
  have c1 := b1.cell
  have c2 := b2.cell
  have c3 := b3.cell
  have h4' : tmps[4]?.getD undef = ptr11 n := by simpa using h4
  have h5' : tmps[5]?.getD undef = ptr11 (n + 1) := by simpa using h5
  have h6' : tmps[6]?.getD undef = ptr11 (n + 2) := by simpa using h6
  simp [results, Try.results22, go_sem, h4', h5', h6', c1, c2, c3, asAddr]
theorem leaves_congr {P : Program} {fn : Func} {t t' : Array Value} {R : Ending → World → Prop} (h : ∀ w, (results fn t').run P w = (results fn t).run P w) : ∀ (ds : List Deferred) (u : FrameMode) (w : World), Leaves P fn t R ds u w → Leaves P fn t' R ds u w
  | [], .returning, w, k => by
    obtain ⟨v, h1, h2⟩ := k
    exact ⟨v, (h w).trans h1, h2⟩
  | [], .panicking chain, w, k => k
  | [], .run, _, k => k
  | d :: ds, u, w, k => by
    obtain ⟨h1, fv, cap, f, args, h2, h3, h4⟩ := k
    refine ⟨h1, fv, cap, f, args, h2, h3, h4.mono ?_⟩
    intro e u' w' q
    cases e with
    | returned v => exact leaves_congr h ds _ _ q
    | panicked c => exact leaves_congr h ds _ _ q
    | outgrown => exact q
theorem perform_put {a : Act} {k : Nat} {v : Value} (hk : k ≠ 4 ∧ k ≠ 5 ∧ k ≠ 6) (w : World) : (results Try.f22 a.tmps).run Try.prog w = (results Try.f22 (a.put (some k) v).tmps).run Try.prog w := by
  have g : ∀ j, k ≠ j → (a.put (some k) v).tmps[j]? = a.tmps[j]? := fun j hj => by simp [Act.put, hj]
  simp [results, Try.results22, g 4 hk.1, g 5 hk.2.1, g 6 hk.2.2]
theorem hq11 {R : Ending → World → Prop} {a : Act} {c : List PanicEntry} {k : Nat} {v : Value} {w : World} (hk : k ≠ 4 ∧ k ≠ 5 ∧ k ≠ 6)
    (h : bodyPostD Try.prog Try.f22 R (.panic c) (a.put (some k) v) w) : bodyPostD Try.prog Try.f22 R (.panic c) a w :=
  leaves_congr (fun w => perform_put hk w) _ _ _ h
end Go.Proofs.Ytpajcalfjfkogaa.Pl

namespace Go.Proofs.Ytpajcalfjfkogaa.Pl
open Go.RowKit

theorem named_ix {v : Int} {k : Nat} (h : namedP true v k = true) : 0 ≤ v ∧ v < k := by
  simpa only [namedP, if_true, Bool.and_eq_true, decide_eq_true_eq] using h
theorem may_ix {s : Stp} {k : Nat} (h : maySt s k = true) : (1 ≤ s.fn ∧ s.fn ≤ 9) ∧ (namesA s.fn = true → 0 ≤ s.a ∧ s.a < k) ∧ (namesB s.fn = true → 0 ≤ s.b ∧ s.b < k) ∧ (namesC s.fn = true → 0 ≤ s.c ∧ s.c < k) ∧ ∀ v ∈ s.list, 0 ≤ v ∧ v < k := by
  unfold maySt at h
  simp only [Bool.and_eq_true] at h
  obtain ⟨⟨⟨⟨⟨⟨⟨mk, ma⟩, mb⟩, mc⟩, _⟩, _⟩, _⟩, ml⟩ := h
  refine ⟨?_, fun e => ?_, fun e => ?_, fun e => ?_, fun v hv => ?_⟩
  · simpa only [namesK, Bool.and_eq_true, decide_eq_true_eq] using mk
  · rw [e] at ma; exact named_ix ma
  · rw [e] at mb; exact named_ix mb
  · rw [e] at mc; exact named_ix mc
  · have h1 := List.all_eq_true.1 ml v hv
    simpa only [Bool.and_eq_true, decide_eq_true_eq] using h1
theorem do11_any (r : Nat) (s : Stp) (lo : Option Addr) (lc : Nat) (was : List ByteArray) (wo : Option Addr) (wc : Nat) (l : List ByteArray) (ao : Option Addr) (cap : Nat) (hm : maySt s l.length = true) (hx : ∀ x ∈ l, checkP (bl x) = 0) (hs : ∀ x ∈ was, x.size ≤ 281474976710656) (ht : s.text.size ≤ 281474976710656) (w : World) (h : RunAt w r was wo wc l ao cap) (hrow2 : IntRow w lo s.list) :
    Calls Try.prog (doF s.fn) #[ptr11 r, stpV s lo lc] w (DoPost (stepP (was.map bl) (l.map bl) s) w) := by
  obtain ⟨h19, hA, hB, hC, hL⟩ := may_ix hm
  have hf : s.fn = 1 ∨ s.fn = 2 ∨ s.fn = 3 ∨ s.fn = 4 ∨ s.fn = 5 ∨ s.fn = 6 ∨ s.fn = 7 ∨ s.fn = 8 ∨ s.fn = 9 := by omega
  rcases hf with e | e | e | e | e | e | e | e | e
  · rw [show doF s.fn = 63 by rw [e]; rfl]
    by_cases hn : 0 ≤ s.n ∧ s.n < was.length
    · exact do11_seen r s lo lc was wo wc l ao cap hs hn e w h
    · exact do11_none r s lo lc was wo wc l ao cap hn e w h
  · rw [show doF s.fn = 64 by rw [e]; rfl]
    exact do11_datum r s lo lc _ _ ht e w
  · rw [show doF s.fn = 65 by rw [e]; rfl]
    exact do11_part r s lo lc was wo wc l ao cap hx (hA (by rw [e]; rfl)) e w h
  · rw [show doF s.fn = 66 by rw [e]; rfl]
    exact do11_nonce r s lo lc was wo wc l ao cap hx (hA (by rw [e]; rfl)) e w h
  · rw [show doF s.fn = 67 by rw [e]; rfl]
    exact do11_body r s lo lc was wo wc l ao cap hx (hA (by rw [e]; rfl)) (hB (by rw [e]; rfl)) e w h
  · rw [show doF s.fn = 68 by rw [e]; rfl]
    exact do11_row r s lo lc was wo wc l ao cap hx hL e w h hrow2
  · rw [show doF s.fn = 69 by rw [e]; rfl]
    exact do11_hash r s lo lc was wo wc l ao cap hx (hA (by rw [e]; rfl)) e w h
  · rw [show doF s.fn = 70 by rw [e]; rfl]
    exact do11_mac r s lo lc was wo wc l ao cap hx (hA (by rw [e]; rfl)) (hB (by rw [e]; rfl)) e w h
  · rw [show doF s.fn = 71 by rw [e]; rfl]
    exact do11_seal r s lo lc was wo wc l ao cap hx (hA (by rw [e]; rfl)) (hB (by rw [e]; rfl)) (hC (by rw [e]; rfl)) e w h
end Go.Proofs.Ytpajcalfjfkogaa.Pl
