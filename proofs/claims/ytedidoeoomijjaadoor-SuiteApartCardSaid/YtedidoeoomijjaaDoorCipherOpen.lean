/- What cipher.Open answers: the text, or why there is none. -/
import Derived.Test.YtedidoeoomijjaaDoorCipherFit
import Derived.Deep.QuietTactic
import Derived.BigQuiet
namespace Go.Proofs.YtedidoeoomijjaaDoor.Pl
open Go.RowKit

theorem open_end (key x : ByteArray) (h : x.size < 44) (w : World) :
    Calls Tryd.prog 118 #[.string key, .string x] w fun e w' => e = .returned (.tuple #[.string ⟨#[]⟩, .int .i64 6]) ∧ w = w' := by
  go_enter Tryd.func118, Tryd.ntmps118
  go_wp2_with fail
  go_ret2
  exact ⟨rfl, rfl⟩
theorem open_long (key x : ByteArray) (h : 65580 < x.size) (w : World) :
    Calls Tryd.prog 118 #[.string key, .string x] w fun e w' => e = .returned (.tuple #[.string ⟨#[]⟩, .int .i64 5]) ∧ w = w' := by
  have h2 : ¬ (x.size : Int) < 44 := by omega
  go_enter Tryd.func118, Tryd.ntmps118
  go_wp2_with fail
  go_ret2
  exact ⟨rfl, rfl⟩

theorem slice_to (x : ByteArray) (m : Nat) (h : m ≤ x.size) (V : World) : (Instr.sliceAt 9 (.string x) none (some (.int .i64 (m : Int))) none).run Tryd.prog V = .ok (.string (x.extract 0 m)) V := by
  have h0 : (0 : Int) ≤ (m : Int) := by omega
  have h1 : (m : Int) ≤ (x.size : Int) := by omega
  go_simp
theorem slice_from (x : ByteArray) (m : Nat) (h : m ≤ x.size) (V : World) : (Instr.sliceAt 9 (.string x) (some (.int .i64 (m : Int))) none none).run Tryd.prog V = .ok (.string (x.extract m x.size)) V := by
  have h0 : (0 : Int) ≤ (m : Int) := by omega
  have h1 : (m : Int) ≤ (x.size : Int) := by omega
  go_simp
theorem slice_mid (x : ByteArray) (a b : Nat) (h : a ≤ b) (h2 : b ≤ x.size) (V : World) : (Instr.sliceAt 9 (.string x) (some (.int .i64 (a : Int))) (some (.int .i64 (b : Int))) none).run Tryd.prog V = .ok (.string (x.extract a b)) V := by
  have h0 : (0 : Int) ≤ (a : Int) := by omega
  have h1 : (a : Int) ≤ (b : Int) := by omega
  have h3 : (b : Int) ≤ (x.size : Int) := by omega
  go_simp
theorem eq_ptr_nil {P : Program} (d : Nat) (t e : TypeId) (a : Addr) (h : P.underlying t = some (.pointer e)) (w : World) : (Op.equalIn (d + 1) t (.pointer (some a)) (.pointer none)).run P w = .ok false w := by
  simp [Op.equalIn, run_underlying h]
theorem eq_nil_nil {P : Program} (d : Nat) (t e : TypeId) (h : P.underlying t = some (.pointer e)) (w : World) : (Op.equalIn (d + 1) t (.pointer none) (.pointer none)).run P w = .ok true w := by
  simp [Op.equalIn, run_underlying h]
theorem ptr_some_none (p : Nat) (V : World) : (Op.equalIn 9999 53 (.pointer (some ⟨p, 0, none⟩)) (.pointer none)).run Tryd.prog V = .ok false V := eq_ptr_nil 9998 _ _ _ Tryd.underlying53 V
theorem ptr_none_none (V : World) : (Op.equalIn 9999 53 (.pointer none) (.pointer none)).run Tryd.prog V = .ok true V := eq_nil_nil 9998 _ _ Tryd.underlying53 V
/-- What holds while the keys are used. -/
theorem ki_keep {w W V : World} {b p q : Nat} {k : List Nat}
    (h : W.cell? ⟨b, 0, none⟩ = some (.pointer (some ⟨p, 0, none⟩)) ∧ W.cell? ⟨b, 1, none⟩ = some (.pointer (some ⟨q, 0, none⟩)) ∧ Hid (KeysIn W b k p q) ∧ Hid (Below w.heap.size w W)) (hb : Below W.heap.size W V) :
    V.cell? ⟨b, 0, none⟩ = some (.pointer (some ⟨p, 0, none⟩)) ∧ V.cell? ⟨b, 1, none⟩ = some (.pointer (some ⟨q, 0, none⟩)) ∧ Hid (KeysIn V b k p q) ∧ Hid (Below w.heap.size w V) := by
  obtain ⟨_, _, h2, h3⟩ := h
  have h4 := h2.out.below hb
  exact ⟨h4.cells.1, h4.cells.2, Lib.hid h4, Lib.hid (below_step h3.out hb)⟩
theorem ki_turned {w W : World} {b p q : Nat} {k : List Nat} {n h R : ByteArray} (hn : Hid (n.size ≤ 1000000 ∧ h.size ≤ 1000000 ∧ R = bytesOf (hide (skey k) (nums n) (nums h))))
    (hS : W.cell? ⟨b, 0, none⟩ = some (.pointer (some ⟨p, 0, none⟩)) ∧ W.cell? ⟨b, 1, none⟩ = some (.pointer (some ⟨q, 0, none⟩)) ∧ Hid (KeysIn W b k p q) ∧ Hid (Below w.heap.size w W)) :
    Calls Tryd.prog 73 #[.agg #[.pointer (some ⟨p, 0, none⟩), .pointer (some ⟨q, 0, none⟩)], .string n, .string h] W fun e w' => e = .returned (.string R) ∧ Below W.heap.size W w' := by
  rw [hn.out.2.2]
  exact cturned_any p q (skey k) (skey_bytes _) n h hn.out.1 hn.out.2.1 W hS.2.2.1.out.2.2 hS.2.2.1.out.2.1.1
/-- What is hidden in a sealed form, and its tag. -/
def hidOf (x : ByteArray) : ByteArray := x.extract 0 (x.size - 32)
def tagAt (x : ByteArray) : ByteArray := x.extract (x.size - 32) x.size
/-- The tag is right. -/
def Fits (key x : ByteArray) : Prop := tagAt x = bytesOf (tagOf (tkey (nums key)) (nums (hidOf x)))
/-- The text, whose nonce and whose hidden bytes stand in y. -/
noncomputable def shown (key y : ByteArray) : ByteArray := bytesOf (hide (skey (nums key)) (nums (y.extract 0 12)) (nums (y.extract 12 y.size)))

set_option maxHeartbeats 1000000 in
set_option maxRecDepth 100000 in
theorem open_fits (key x : ByteArray) (hk : key.size ≤ 1000000) (h1 : 44 ≤ x.size) (h2 : x.size ≤ 65580) (hf : Fits key x) (w : World) (hT : Tab w) :
    Calls Tryd.prog 118 #[.string key, .string x] w fun e w' => e = .returned (.tuple #[.string (shown key (hidOf x)), .int .i64 0]) ∧ Below w.heap.size w w' := by
  obtain ⟨m, hm⟩ : ∃ m, m = x.size - 32 := ⟨_, rfl⟩
  have q0 : ¬ (x.size : Int) < 44 := by omega
  have q1 : ¬ (65580 : Int) < (x.size : Int) := by omega
  have q2 : IntKind.i64.wrap ((x.size : Int) - 32) = (m : Int) := by rw [IntWalk.i64_in _ (by omega)]; omega
  have hz := zero_keys
  have hs1 := slice_to x m (by omega)
  have hs2 := slice_from x m (by omega)
  have HY : Hid (hidOf x = x.extract 0 m) := Lib.hid (by rw [hm]; rfl)
  have HT2 : Hid (tagAt x = x.extract m x.size) := Lib.hid (by rw [hm]; rfl)
  have HYS : Hid ((x.extract 0 m).size = m ∧ 12 ≤ m ∧ m ≤ 65548) := Lib.hid ⟨by simp [hm], by omega, by omega⟩
  have HF := Lib.hid hf
  have HT := Lib.hid hT
  have HK := Lib.hid hk
  clear hm hf hT hk h1 h2
  go_enter Tryd.func118, Tryd.ntmps118
  go_wp2_with fail
  go_quiet (fail)
  have B0 : Hid (Below w.heap.size w (w.drewN nq)) := Lib.hid (below_drewN (Below.refl _ _) _)
  have T0 := Lib.hid (HT.out.below B0.out)
  generalize w.drewN nq = W0 at *
  clear hs1 hs2
  generalize x.extract 0 m = Y at *
  generalize x.extract m x.size = T at *
  go_wp2_with fail
  refine (fitting_any key Y T HK.out (by have := HYS.out; omega) W0 T0.out).mono ?_; rintro e w1 hfit
  have hyes : T = bytesOf (tagOf (tkey (nums key)) (nums Y)) := by rw [← HT2.out, ← HY.out]; exact HF.out
  unfold FitIf at hfit
  rw [if_pos hyes] at hfit
  clear hyes
  obtain ⟨p, q, rfl, k1, b1⟩ := hfit
  have KI := Lib.hid (keysIn_new w1 p q _ k1 (T0.out.below b1))
  have B1 := Lib.hid ((below_step B0.out b1).alloc (below_step B0.out b1).size (.cells #[.pointer (some ⟨p, 0, none⟩), .pointer (some ⟨q, 0, none⟩)] 109))
  have N1 := Lib.hid (Go.heap_alloc_new w1 (.cells #[.pointer none, .pointer none] 109))
  have N2 := Lib.hid (setRow_heap _ _ _ #[.pointer (some ⟨p, 0, none⟩), .pointer (some ⟨q, 0, none⟩)] _ _ N1.out)
  clear k1 b1
  have he := fun V => ptr_some_none p V
  unfold keysV
  go_wp2_with (first
    | (refine wpList_load_row rfl 109 _ rfl w1.heap.size rfl 109 _ _ _ N2.out Tryd.underlying109 rfl (keys_info p q) ?_)
    | (refine wpList_store_row rfl 109 _ _ rfl w1.heap.size #[.pointer (some ⟨p, 0, none⟩), .pointer (some ⟨q, 0, none⟩)] rfl rfl 109 #[.pointer none, .pointer none] N1.out (keys_info p q) rfl (keys_one p q) ?_))
  rw [World.setRow_alloc_new]
  have HR : Hid ((Y.extract 0 12).size ≤ 1000000 ∧ (Y.extract 12 Y.size).size ≤ 1000000 ∧ shown key (hidOf x) = bytesOf (hide (skey (nums key)) (nums (Y.extract 0 12)) (nums (Y.extract 12 Y.size)))) := Lib.hid ⟨by have := HYS.out; simp; omega, by have := HYS.out; simp; omega, by rw [HY.out]; rfl⟩
  have hs3 : ∀ V, (Instr.sliceAt 9 (.string Y) none (some (.int .i64 12)) none).run Tryd.prog V = .ok (.string (Y.extract 0 12)) V := slice_to Y 12 (by have := HYS.out; omega)
  have hs4 : ∀ V, (Instr.sliceAt 9 (.string Y) (some (.int .i64 12)) none none).run Tryd.prog V = .ok (.string (Y.extract 12 Y.size)) V := slice_from Y 12 (by have := HYS.out; omega)
  obtain ⟨R, eR⟩ : ∃ R, R = shown key (hidOf x) := ⟨_, rfl⟩
  rw [← eR] at HR
  have ER := Lib.hid eR
  clear eR
  generalize Y.extract 0 12 = n at *
  generalize Y.extract 12 Y.size = h at *
  generalize w1.alloc (.cells #[.pointer (some ⟨p, 0, none⟩), .pointer (some ⟨q, 0, none⟩)] 109) = W at *
  generalize w1.heap.size = b at *
  have KS := ki_keep (w := w) (W := W) ⟨KI.out.cells.1, KI.out.cells.2, KI, B1⟩ (drew_below W)
  clear hz N1 N2 he q0 q1 q2
  go_region_held3 (fun W => W.cell? ⟨b, 0, none⟩ = some (.pointer (some ⟨p, 0, none⟩)) ∧ W.cell? ⟨b, 1, none⟩ = some (.pointer (some ⟨q, 0, none⟩)) ∧ Hid (KeysIn W b (nums key) p q) ∧ Hid (Below w.heap.size w W)) (first | assumption | with_reducible exact ki_keep ‹_› ‹_›) (first
    | (go_at_call 73; with_reducible refine (ki_turned HR ‹_›).mono ?_; rintro e w3 ⟨rfl, hb3⟩))
  go_wp2_with fail
  go_ret2
  have hS : _ ∧ _ ∧ _ ∧ Hid (Below w.heap.size w w3) := ‹_ ∧ _›
  exact ⟨by rw [← ER.out]; rfl, hS.2.2.2.out⟩

set_option maxHeartbeats 1000000 in
set_option maxRecDepth 100000 in
theorem open_unfit (key x : ByteArray) (hk : key.size ≤ 1000000) (h1 : 44 ≤ x.size) (h2 : x.size ≤ 65580) (hf : ¬ Fits key x) (w : World) (hT : Tab w) :
    Calls Tryd.prog 118 #[.string key, .string x] w fun e w' => e = .returned (.tuple #[.string ⟨#[]⟩, .int .i64 40]) ∧ Below w.heap.size w w' := by
  obtain ⟨m, hm⟩ : ∃ m, m = x.size - 32 := ⟨_, rfl⟩
  have q0 : ¬ (x.size : Int) < 44 := by omega
  have q1 : ¬ (65580 : Int) < (x.size : Int) := by omega
  have q2 : IntKind.i64.wrap ((x.size : Int) - 32) = (m : Int) := by rw [IntWalk.i64_in _ (by omega)]; omega
  have hz := zero_keys
  have hs1 := slice_to x m (by omega)
  have hs2 := slice_from x m (by omega)
  have HY : Hid (hidOf x = x.extract 0 m) := Lib.hid (by rw [hm]; rfl)
  have HT2 : Hid (tagAt x = x.extract m x.size) := Lib.hid (by rw [hm]; rfl)
  have HYS : Hid ((x.extract 0 m).size = m ∧ 12 ≤ m ∧ m ≤ 65548) := Lib.hid ⟨by simp [hm], by omega, by omega⟩
  have HF := Lib.hid hf
  have HT := Lib.hid hT
  have HK := Lib.hid hk
  clear hm hf hT hk h1 h2
  go_enter Tryd.func118, Tryd.ntmps118
  go_wp2_with fail
  go_quiet (fail)
  have B0 : Hid (Below w.heap.size w (w.drewN nq)) := Lib.hid (below_drewN (Below.refl _ _) _)
  have T0 := Lib.hid (HT.out.below B0.out)
  generalize w.drewN nq = W0 at *
  clear hs1 hs2
  generalize x.extract 0 m = Y at *
  generalize x.extract m x.size = T at *
  go_wp2_with fail
  refine (fitting_any key Y T HK.out (by have := HYS.out; omega) W0 T0.out).mono ?_; rintro e w1 hfit
  have hno : ¬ T = bytesOf (tagOf (tkey (nums key)) (nums Y)) := by rw [← HT2.out, ← HY.out]; exact HF.out
  unfold FitIf at hfit
  rw [if_neg hno] at hfit
  clear hno
  obtain ⟨rfl, b1⟩ := hfit
  have N1 := Lib.hid (Go.heap_alloc_new w1 (.cells #[.pointer none, .pointer none] 109))
  have N2 := Lib.hid (setRow_heap _ _ _ #[.pointer none, .pointer none] _ _ N1.out)
  have B1 := Lib.hid (below_setRow ((below_step B0.out b1).alloc (below_step B0.out b1).size (.cells #[.pointer none, .pointer none] 109)) (below_step B0.out b1).size #[.pointer none, .pointer none])
  clear b1
  have he := ptr_none_none
  unfold noKeys
  go_wp2_with (first
    | (refine wpList_load_row rfl 109 _ rfl w1.heap.size rfl 109 _ _ _ N2.out Tryd.underlying109 rfl none_info ?_)
    | (refine wpList_store_row rfl 109 _ _ rfl w1.heap.size #[.pointer none, .pointer none] rfl rfl 109 #[.pointer none, .pointer none] N1.out none_info rfl none_one ?_))
  go_ret2
  exact ⟨rfl, B1.out⟩
end Go.Proofs.YtedidoeoomijjaaDoor.Pl
