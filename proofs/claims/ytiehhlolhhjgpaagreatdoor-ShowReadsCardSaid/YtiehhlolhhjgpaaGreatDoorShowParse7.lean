/- What show.Parse answers: it reads, and catches what is thrown. -/
import Derived.Test.YtiehhlolhhjgpaaGreatDoorShowZ4
import Derived.Test.YtiehhlolhhjgpaaGreatDoorShowZ1
import Derived.Test.YtiehhlolhhjgpaaGreatDoorShowPartsM
import Derived.Test.YtiehhlolhhjgpaaGreatDoorShowZ3
namespace Go.Proofs.YtiehhlolhhjgpaaGreatDoor.Pl
open Go.RowKit Go.Shelf
attribute [local go_sem] Oper.semAt_some

theorem assert7_none (w : World) : (Instr.typeAssert .nilIface 20 43 true).run Tryz.prog w = .ok (.tuple #[.agg #[], .bool false]) w := by kernel_rfl
theorem assert7_line (w : World) : (Instr.typeAssert (.iface 43 (.agg #[])) 20 43 true).run Tryz.prog w = .ok (.tuple #[.agg #[], .bool true]) w := by kernel_rfl
theorem catch7_idle (b c : Nat) (w : World) :
    CallsD Tryz.prog 36 #[.pointer (some ⟨b, 0, none⟩), .pointer (some ⟨c, 0, none⟩)] .returning w fun e u' w' => e = .returned (.tuple #[]) ∧ u' = .returning ∧ w' = w.alloc (.cells #[] 43) := by
  refine callsD_of_wpS Tryz.func36 rfl fun c₀ cs hu => ?_
  apply wpS_seq
  apply wpS_region
  simp [wpOpsS, go_sem, recoverD, hu, Tryz.ntmps36, Exit.thenS, assert7_none]
  apply wpS_seq
  apply wpS_region
  simp [wpOpsS, go_sem, Exit.thenS]
  refine wpS_cond (t := false) (by simp [Act.eval, Array.replicate]) ?_
  simp only [Bool.false_eq_true, if_false]
  refine wpS_of_wp (wp_skip ?_)
  cases c₀
  simp_all [bodyPostS, results, Tryz.results36]
theorem catch7_thrown (b c : Nat) (w : World) (u v : Value) (hbc : c ≠ b) (hb : Boxed w b 9 u) (hc : Boxed w c 24 v) :
    CallsD Tryz.prog 36 #[.pointer (some ⟨b, 0, none⟩), .pointer (some ⟨c, 0, none⟩)] (.panicking [{ v := .iface 43 (.agg #[]), recovered := false }]) w fun e u' w' =>
      e = .returned (.tuple #[]) ∧ u' = .panicking [{ v := .iface 43 (.agg #[]), recovered := true }] ∧ w' = ((w.alloc (.cells #[] 43)).setCell ⟨b, 0, none⟩ (.string ⟨#[]⟩)).setCell ⟨c, 0, none⟩ (.int .i64 7) := by
  have ha := hb.alloc (.cells #[] 43)
  have hb1 := ha.cell
  have hb2 := ha.frozen
  have hc0 := (hc.alloc (.cells #[] 43)).other (B' := b) hbc (.string ⟨#[]⟩)
  have hc1 := hc0.cell
  have hc2 := hc0.frozen
  refine callsD_of_wpS Tryz.func36 rfl fun c₀ cs hu => ?_
  apply wpS_seq
  apply wpS_region
  simp [wpOpsS, go_sem, recoverD, hu, Tryz.ntmps36, Exit.thenS, assert7_line]
  apply wpS_seq
  apply wpS_region
  simp [wpOpsS, go_sem, Exit.thenS]
  refine wpS_cond (t := true) (by simp [Act.eval, Array.replicate]) ?_
  simp only [if_true]
  apply wpS_region
  simp [wpOpsS, go_sem, hb1, hb2, hc1, hc2, bodyPostS, results, Tryz.results36, Array.replicate]
theorem run_true : ∀ r : List UInt8, runL (fun _ => true) r = r.length
  | [] => rfl
  | c :: r => by
    have ih := run_true r
    unfold runL at ih ⊢
    rw [List.takeWhile_cons_of_pos rfl, List.length_cons, List.length_cons, ih]
theorem isEmpty7 (l : List UInt8) : (⟨l.toArray⟩ : ByteArray).toList.isEmpty = decide (l = []) := by
  rw [Lib.toList_data]
  cases l with
  | nil => rfl
  | cons c l => rfl
theorem parse7_results (V : World) (n : Nat) (t : ByteArray) (e : Nat) (tmps : Array Value) (h2 : tmps.getD 2 undef = .pointer (some ⟨n, 0, none⟩)) (h3 : tmps.getD 3 undef = .pointer (some ⟨n + 1, 0, none⟩))
    (bT : Boxed V n 9 (.string t)) (bE : Boxed V (n + 1) 24 (.int .i64 e)) :
    (results Tryz.f18 tmps).run Tryz.prog V = .ok (.tuple #[.string t, .int .i64 e]) V := by
  have c1 := bT.cell
  have c2 := bE.cell
  have h2' : tmps[2]?.getD undef = .pointer (some ⟨n, 0, none⟩) := by simpa using h2
  have h3' : tmps[3]?.getD undef = .pointer (some ⟨n + 1, 0, none⟩) := by simpa using h3
  simp [results, Tryz.results18, go_sem, h2', h3', c1, c2, asAddr]
set_option maxHeartbeats 2000000 in
set_option maxRecDepth 100000 in
theorem parse7_any (s : List UInt8) (hs : s.length ≤ 1000000000) (w : World) (hF : Frames w)
    (hnext : ∀ (B : Nat), B ≠ 0 → ∀ (x : List UInt8) (V : World), x.length ≤ 1000000000 → At7 B x V → Frames V → Calls Tryz.prog 38 #[rdV B, .int .i64 1] V (RdPost B V (nxt 16 x))) :
    Calls Tryz.prog 18 #[.string ⟨s.toArray⟩] w fun e w' => e = .returned (st2 (parseN s)) ∧ Below w.heap.size w w' := by
  have hmf : ∀ (fn : Fn) (first cap : Array Value) (w : World), (Instr.makeFunc fn first cap).run Tryz.prog w = .ok (.func fn first cap) w := fun _ _ _ _ => rfl
  obtain ⟨W0, hW0⟩ : ∃ W0, (w.alloc (.cells #[.string ⟨#[]⟩] 9)).alloc (.cells #[.int .i64 0] 24) = W0 := ⟨_, rfl⟩
  have bT0 : Boxed W0 w.heap.size 9 (.string ⟨#[]⟩) := by rw [← hW0]; exact (Boxed.new w _ _).alloc _
  have bE0 : Boxed W0 (w.heap.size + 1) 24 (.int .i64 0) := by rw [← hW0]; have h := Boxed.new (w.alloc (.cells #[.string ⟨#[]⟩] 9)) 24 (.int .i64 0); simpa using h
  have hB0 : Below w.heap.size w W0 := by rw [← hW0]; exact ((Below.refl _ w).alloc (Nat.le_refl _) _).alloc (by simp) _
  have hsz : W0.heap.size = w.heap.size + 2 := by rw [← hW0]; simp
  have RO := Lib.hid (readerof_any s W0)
  have BT0 := Lib.hid bT0
  have BE0 := Lib.hid bE0
  have HB0 := Lib.hid hB0
  have HSZ := Lib.hid hsz
  have HFW := Lib.hid hF
  clear bT0 bE0 hB0 hsz hF
  obtain ⟨zp, hzp⟩ : ∃ zp, zp = parseN s := ⟨_, rfl⟩
  rw [← hzp]
  unfold parseN at hzp
  have HZP := Lib.hid hzp
  clear hzp
  go_enter_defers Tryz.func18, Tryz.ntmps18
  go_wp2_with fail
  refine RO.out.mono ?_; rintro e w1 ⟨rfl, a1, b1⟩
  clear hW0
  rw [HSZ.out] at a1 ⊢
  have hBB : w.heap.size + 2 + 1 ≠ 0 := by omega
  obtain ⟨B, hB⟩ : ∃ B, B = w.heap.size + 2 + 1 := ⟨_, rfl⟩
  rw [← hB] at a1 hBB ⊢
  have HBE := Lib.hid hB
  have N0 := Lib.hid (Go.heap_alloc_new w1 (.cells #[.nilFunc, .nilFunc] 47))
  have hlt : B < w1.heap.size := a1.lt
  have hlt2 : w.heap.size + 2 ≤ w1.heap.size := by omega
  obtain ⟨WS, hWS⟩ : ∃ WS, (w1.alloc (.cells #[.nilFunc, .nilFunc] 47)).setRow w1.heap.size #[skipV B, upV B] = WS := ⟨_, rfl⟩
  have old : ∀ b o, b < w1.heap.size → w1.heap[b]? = some o → WS.heap[b]? = some o := fun b o hb h => by
    rw [← hWS]
    exact (setRow_other _ _ _ _ (by omega)).trans ((Lib.alloc_old _ _ _ hb).trans h)
  have KS : Hid (WS.heap[w1.heap.size]? = some (.cells #[skipV B, upV B] 47 (0, 0))) := Lib.hid (by rw [← hWS]; exact setRow_heap _ _ _ _ _ _ N0.out)
  have AS : Hid (At7 B s WS) := Lib.hid (old _ _ hlt a1)
  have bT1 : Boxed w1 w.heap.size 9 (.string ⟨#[]⟩) := heap_below b1 BT0.out
  have bE1 : Boxed w1 (w.heap.size + 1) 24 (.int .i64 0) := heap_below b1 BE0.out
  have TS : Hid (Boxed WS w.heap.size 9 (.string ⟨#[]⟩)) := Lib.hid (old _ _ (by omega) bT1)
  have ES : Hid (Boxed WS (w.heap.size + 1) 24 (.int .i64 0)) := Lib.hid (old _ _ (by omega) bE1)
  have BS : Hid (Below w.heap.size w WS) := Lib.hid (by
    have h1 := HB0.out.trans (b1.mono (by rw [HSZ.out]; omega))
    have h2 := h1.alloc (by omega) (.cells #[.nilFunc, .nilFunc] 47)
    rw [← hWS]
    exact ⟨h2.os, h2.tape, h2.output, by simpa [World.setRow] using h2.size, fun k hk => (setRow_other _ _ _ _ (by omega)).trans (h2.block k hk)⟩)
  have FS : Frames WS := HFW.out.kept HFW.out.1 BS.out
  have NX := Lib.hid (hnext B hBB s WS hs AS.out FS)
  have HLT2 : Hid (w.heap.size + 2 ≤ w1.heap.size) := Lib.hid hlt2
  have KNB : Hid (w1.heap.size ≠ B) := Lib.hid (by omega)
  have TNB : Hid (w.heap.size ≠ B) := Lib.hid (by omega)
  have ENB : Hid (w.heap.size + 1 ≠ B) := Lib.hid (by omega)
  have BLE : Hid (w.heap.size ≤ B) := Lib.hid (by omega)
  have SZS : Hid (w.heap.size ≤ WS.heap.size) := Lib.hid BS.out.size
  have HWS := Lib.hid hWS
  have HSL := Lib.hid hs
  have FIT := Lib.hid (nxt_fits 16 s)
  clear hB a1 b1 hBB bT1 bE1 FS old hlt hlt2 hnext hs RO
  have hzp := HZP.out
  cases hn : nxt 16 s with
  | none =>
    rw [hn] at NX hzp
    have HZ : Hid (zp = ([], 7)) := Lib.hid hzp
    clear hzp hn
    go_wp2_with (first
      | (refine wpList_store_row rfl 47 _ _ rfl w1.heap.size #[skipV B, upV B] rfl rfl 47 #[.nilFunc, .nilFunc] N0.out reader_info rfl (reader_one _) ?_; rw [hWS])
      | (refine wpList_load_row rfl 47 _ rfl w1.heap.size rfl 47 _ _ _ KS.out Tryz.underlying47 rfl (boxed_load B) ?_)
      | (go_at_call 38; refine NX.out.mono ?_; rintro e w3 ⟨m3, rfl⟩))
    have T3 : Boxed w3 w.heap.size 9 (.string ⟨#[]⟩) := m3.heap TNB.out TS.out
    have E3 : Boxed w3 (w.heap.size + 1) 24 (.int .i64 0) := m3.heap ENB.out ES.out
    have B3 := m3.below BS.out BLE.out SZS.out
    refine leaves_cons (f := 36) (args := #[.pointer (some ⟨w.heap.size, 0, none⟩), .pointer (some ⟨w.heap.size + 1, 0, none⟩)]) (by simp) (by simp [go_sem]) ?_
    refine (catch7_thrown w.heap.size (w.heap.size + 1) _ _ _ (by omega) T3 E3).mono ?_
    rintro e u' v' ⟨rfl, rfl, rfl⟩
    have gT := ((T3.alloc (.cells #[] 43)).set (.string ⟨#[]⟩)).other (B' := w.heap.size + 1) (by omega) (.int .i64 7)
    have gE := ((E3.alloc (.cells #[] 43)).other (B' := w.heap.size) (by omega) (.string ⟨#[]⟩)).set (.int .i64 7)
    have gB := ((B3.alloc B3.size (.cells #[] 43)).setCell (p := ⟨w.heap.size, 0, none⟩) (Nat.le_refl _) (.string ⟨#[]⟩)).setCell (p := ⟨w.heap.size + 1, 0, none⟩) (Nat.le_succ _) (.int .i64 7)
    refine ⟨_, parse7_results _ w.heap.size ⟨#[]⟩ 7 _ rfl rfl gT gE, ?_⟩
    rw [HZ.out]
    exact ⟨rfl, gB⟩
  | some y =>
    obtain ⟨t, r⟩ := y
    rw [hn] at NX hzp
    have HRL : Hid (r.length ≤ 281474976710656) := Lib.hid (by have := (FIT.out t r hn).2; have := HSL.out; omega)
    have hrun := run_true r
    clear hn
    have hrl2 : runL (fun _ => true) r = r.length := hrun
    have UP := up_of B r [] (fun _ => true) (fun _ => rfl) (by decide) HRL.out
    rw [hrl2, List.take_length, List.drop_length] at UP
    have qe : (⟨r.toArray⟩ : ByteArray).toList.isEmpty = decide (r = []) := isEmpty7 r
    clear hrun hrl2
    by_cases hr : r = []
    · rw [decide_eq_true hr] at qe
      simp only [if_pos hr] at hzp
      have HZ : Hid (zp = (t, 0)) := Lib.hid hzp
      clear hzp hr
      generalize (⟨r.toArray⟩ : ByteArray) = rb at *
      go_wp2_with (first
        | (refine wpList_store_row rfl 47 _ _ rfl w1.heap.size #[skipV B, upV B] rfl rfl 47 #[.nilFunc, .nilFunc] N0.out reader_info rfl (reader_one _) ?_; rw [hWS])
        | (refine wpList_load_row rfl 47 _ rfl w1.heap.size rfl 47 _ _ _ KS.out Tryz.underlying47 rfl (boxed_load B) ?_)
        | (go_at_call 38; refine NX.out.mono ?_; rintro e w3 ⟨m3, rfl, a3⟩; have T3 := m3.heap TNB.out TS.out; have E3 := m3.heap ENB.out ES.out; have K3 := m3.heap KNB.out KS.out; have B3 := m3.below BS.out BLE.out SZS.out; have hcT := Boxed.cell T3; have hfT := Boxed.frozen T3; have hlN := Boxed.lt T3; have T4 := Lib.hid (Boxed.set (.string ⟨t.toArray⟩) T3); have E4 := Lib.hid (Boxed.other (B' := w.heap.size) E3 (by omega) (.string ⟨t.toArray⟩)); have A4 := Lib.hid (Boxed.other (B' := w.heap.size) a3 (fun h => TNB.out h.symm) (.string ⟨t.toArray⟩)); have K4 := Lib.hid ((Below.heap_setCell w3 ⟨w.heap.size, 0, none⟩ (.string ⟨t.toArray⟩) w1.heap.size (by simp only [ne_eq]; have := HLT2.out; omega)).trans K3); have B4 := Lib.hid (B3.setCell (p := ⟨w.heap.size, 0, none⟩) (Nat.le_refl _) (.string ⟨t.toArray⟩)); have hc41 := (rd_cells K4.out).2; clear T3 E3 K3 B3 m3 a3)
        | (go_at_call 63; refine (UP.out _ A4.out).mono ?_; rintro e w5 ⟨rfl, a5, m5⟩; have T5 := m5.heap TNB.out T4.out; have E5 := m5.heap ENB.out E4.out; have B5 := Lib.hid (m5.below B4.out BLE.out B4.out.size); have hcT5 := Boxed.cell T5; have hfT5 := Boxed.frozen T5; have E6 := Boxed.other (B' := w.heap.size) E5 (by omega) (.string ⟨t.toArray⟩); have hcE6 := Boxed.cell E6; have hfE6 := Boxed.frozen E6; have T6 := Lib.hid (Boxed.set (.string ⟨t.toArray⟩) T5); have HE6 := Lib.hid E6; clear a5 m5 T5 E5 E6)
        | (go_at_call 39; refine (need7_ok _).mono ?_; rintro e w6 ⟨rfl, rfl⟩))
      refine leaves_cons (f := 36) (args := #[.pointer (some ⟨w.heap.size, 0, none⟩), .pointer (some ⟨w.heap.size + 1, 0, none⟩)]) (by simp) (by simp [go_sem]) ?_
      refine (catch7_idle _ _ _).mono ?_
      rintro e u' v' ⟨rfl, rfl, rfl⟩
      have gT := (Boxed.other (B' := w.heap.size + 1) T6.out (by omega) (.int .i64 0)).alloc (.cells #[] 43)
      have gE := (Boxed.set (.int .i64 0) HE6.out).alloc (.cells #[] 43)
      have gB := ((B5.out.setCell (p := ⟨w.heap.size, 0, none⟩) (Nat.le_refl _) (.string ⟨t.toArray⟩)).setCell (p := ⟨w.heap.size + 1, 0, none⟩) (Nat.le_succ _) (.int .i64 0)).alloc (by simpa [World.setCell] using B5.out.size) (.cells #[] 43)
      refine ⟨_, parse7_results _ w.heap.size ⟨t.toArray⟩ 0 _ rfl rfl gT gE, ?_⟩
      rw [HZ.out]
      exact ⟨rfl, gB⟩
    · rw [decide_eq_false hr] at qe
      simp only [if_neg hr] at hzp
      have HZ : Hid (zp = ([], 7)) := Lib.hid hzp
      clear hzp hr
      generalize (⟨r.toArray⟩ : ByteArray) = rb at *
      go_wp2_with (first
        | (refine wpList_store_row rfl 47 _ _ rfl w1.heap.size #[skipV B, upV B] rfl rfl 47 #[.nilFunc, .nilFunc] N0.out reader_info rfl (reader_one _) ?_; rw [hWS])
        | (refine wpList_load_row rfl 47 _ rfl w1.heap.size rfl 47 _ _ _ KS.out Tryz.underlying47 rfl (boxed_load B) ?_)
        | (go_at_call 38; refine NX.out.mono ?_; rintro e w3 ⟨m3, rfl, a3⟩; have T3 := m3.heap TNB.out TS.out; have E3 := m3.heap ENB.out ES.out; have K3 := m3.heap KNB.out KS.out; have B3 := m3.below BS.out BLE.out SZS.out; have hcT := Boxed.cell T3; have hfT := Boxed.frozen T3; have hlN := Boxed.lt T3; have T4 := Lib.hid (Boxed.set (.string ⟨t.toArray⟩) T3); have E4 := Lib.hid (Boxed.other (B' := w.heap.size) E3 (by omega) (.string ⟨t.toArray⟩)); have A4 := Lib.hid (Boxed.other (B' := w.heap.size) a3 (fun h => TNB.out h.symm) (.string ⟨t.toArray⟩)); have K4 := Lib.hid ((Below.heap_setCell w3 ⟨w.heap.size, 0, none⟩ (.string ⟨t.toArray⟩) w1.heap.size (by simp only [ne_eq]; have := HLT2.out; omega)).trans K3); have B4 := Lib.hid (B3.setCell (p := ⟨w.heap.size, 0, none⟩) (Nat.le_refl _) (.string ⟨t.toArray⟩)); have hc41 := (rd_cells K4.out).2; clear T3 E3 K3 B3 m3 a3)
        | (go_at_call 63; refine (UP.out _ A4.out).mono ?_; rintro e w5 ⟨rfl, a5, m5⟩; have T5 := m5.heap TNB.out T4.out; have E5 := m5.heap ENB.out E4.out; have B5 := m5.below B4.out BLE.out B4.out.size; clear a5 m5)
        | (go_at_call 39; refine (need7_bad _).mono ?_; rintro e w6 ⟨rfl, rfl⟩))
      refine leaves_cons (f := 36) (args := #[.pointer (some ⟨w.heap.size, 0, none⟩), .pointer (some ⟨w.heap.size + 1, 0, none⟩)]) (by simp) (by simp [go_sem]) ?_
      refine (catch7_thrown w.heap.size (w.heap.size + 1) _ _ _ (by omega) T5 E5).mono ?_
      rintro e u' v' ⟨rfl, rfl, rfl⟩
      have gT := ((Boxed.alloc T5 (.cells #[] 43)).set (.string ⟨#[]⟩)).other (B' := w.heap.size + 1) (by omega) (.int .i64 7)
      have gE := ((Boxed.alloc E5 (.cells #[] 43)).other (B' := w.heap.size) (by omega) (.string ⟨#[]⟩)).set (.int .i64 7)
      have gB := ((B5.alloc B5.size (.cells #[] 43)).setCell (p := ⟨w.heap.size, 0, none⟩) (Nat.le_refl _) (.string ⟨#[]⟩)).setCell (p := ⟨w.heap.size + 1, 0, none⟩) (Nat.le_succ _) (.int .i64 7)
      refine ⟨_, parse7_results _ w.heap.size ⟨#[]⟩ 7 _ rfl rfl gT gE, ?_⟩
      rw [HZ.out]
      exact ⟨rfl, gB⟩
end Go.Proofs.YtiehhlolhhjgpaaGreatDoor.Pl
