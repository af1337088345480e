/- CipherBack answers true, whatever it is given. -/
import Derived.Test.YtogadffbnoinmaaDoorCipherBackSpec
import Derived.Test.YtogadffbnoinmaaDoorCipherTwice
namespace Go.Proofs.YtogadffbnoinmaaDoor.Pl
open Go.RowKit

theorem all32 (g : Nat) (V : World) : (Instr.sliceAt 29 (.pointer (some ⟨g, 0, none⟩)) none none none).run Tryd.prog V = .ok (.slice (some ⟨g, 0, none⟩) 32 32) V := by
  have ha : Tryd.prog.arrayLen 29 = 32 := by simp [Program.arrayLen, Tryd.underlying29]
  have he : Tryd.prog.elem 29 = 5 := by simp [Program.elem, Tryd.underlying29]
  rw [run_sliceAt_array_all V 29 ⟨g, 0, none⟩ (by rw [ha, he]; exact Tryd.underlying29), ha, he]
  have hs : (sizeOf 5).run Tryd.prog V = .ok 1 V := by kernel_rfl
  rw [hs]
  simp only [Result.andThen, slicedAt]
  rw [if_neg (by omega), add_none]
/-- What is opened of a sealed form. -/
theorem open_back (key nonce s x : ByteArray) (hk : key.size ≤ 1000000) (h : nonce.size = 12) (h2 : s.size ≤ 65536) (hx : x = sealedT key nonce s) (w : World) (hT : Tab w) :
    Calls Tryd.prog 11 #[.string key, .string x] w fun e w' => e = .returned (.tuple #[.string s, .int .i64 0]) ∧ Below w.heap.size w w' := by
  have hz := sealedT_size key nonce s h
  have hs := sealedT_shown key nonce s h
  have h := open_fits key (sealedT key nonce s) hk (by omega) (by omega) (sealedT_fits key nonce s h) w hT
  rw [hs, ← hx] at h
  exact h
/-- What is opened of a sealed form whose tag is another one. -/
theorem open_spoilt (key nonce s x d y : ByteArray) (hk : key.size ≤ 1000000) (h : nonce.size = 12) (h2 : s.size ≤ 65536) (hx : x = sealedT key nonce s) (hd : d.size = 32) (hy : y = hidOf x ++ d) (hne : y ≠ x) (w : World) (hT : Tab w) :
    Calls Tryd.prog 11 #[.string key, .string y] w fun e w' => e = .returned (.tuple #[.string ⟨#[]⟩, .int .i64 40]) ∧ Below w.heap.size w w' := by
  have hz := sealedT_size key nonce s h
  have hy2 : y.size = s.size + 44 := by
    rw [hy, ByteArray.size_append, hd]
    unfold hidOf
    rw [ext_size _ _ _ (Nat.sub_le _ _), hx, hz]; omega
  refine open_unfit key y hk (by omega) (by omega) (fun hf => hne ?_) w hT
  rw [hy, hx] at hf ⊢
  exact (spoilt_fits key nonce s d h hd).1 hf
theorem str_ne {a b : ByteArray} (h : a ≠ b) : (a.toList == b.toList) = false ∧ (a.toList != b.toList) = true := by
  have h' : a.toList ≠ b.toList := fun e => h (by
    rw [Lib.toList_data, Lib.toList_data] at e
    apply ByteArray.ext
    exact Array.ext' e)
  exact ⟨beq_eq_false_iff_ne.2 h', bne_iff_ne.2 h'⟩

set_option maxHeartbeats 1000000 in
set_option maxRecDepth 100000 in
theorem back_large (key nonce s : ByteArray) (ch : List Nat) (c : Nat) (w : World) (hT : Tab w) (h : Large key nonce s) :
    Calls Tryd.prog 5 #[.string key, .string nonce, .string s, .agg (row .u8 ch), .int .u8 (c : Int)] w fun e w' => e = .returned (.bool true) ∧ Below w.heap.size w w' := by
  have HT := Lib.hid hT
  have HG := Lib.hid h
  have B0 : Hid (Below w.heap.size w (w.alloc (.cells (row .u8 ch) 29))) := Lib.hid ((Below.refl _ _).alloc (Nat.le_refl _) _)
  clear hT h
  go_enter Tryd.func5, Tryd.ntmps5
  go_wp2_with fail
  generalize w.alloc (.cells (row .u8 ch) 29) = W at *
  refine (long_yes key nonce s HG.out W).mono ?_; rintro e w1 ⟨rfl, rfl⟩
  go_wp2_with fail
  refine (alive_any4 W (HT.out.below B0.out)).mono ?_; rintro e w1 ⟨rfl, b1⟩
  have B1 := Lib.hid (below_step B0.out b1)
  clear b1
  go_wp2_with fail
  go_ret
  exact ⟨rfl, B1.out⟩
set_option maxHeartbeats 1000000 in
set_option maxRecDepth 100000 in
theorem back_arg (key nonce s : ByteArray) (ch : List Nat) (c : Nat) (w : World) (hT : Tab w) (h : ¬ Large key nonce s) (hn : nonce.size ≠ 12) :
    Calls Tryd.prog 5 #[.string key, .string nonce, .string s, .agg (row .u8 ch), .int .u8 (c : Int)] w fun e w' => e = .returned (.bool true) ∧ Below w.heap.size w w' := by
  have HT := Lib.hid hT
  have HG := Lib.hid (not_large h)
  have HN := Lib.hid hn
  have e1 : ((nonce.size : Int) != 12) = true := by rw [bne_iff_ne]; omega
  have B0 : Hid (Below w.heap.size w (w.alloc (.cells (row .u8 ch) 29))) := Lib.hid ((Below.refl _ _).alloc (Nat.le_refl _) _)
  clear hT h hn
  go_enter Tryd.func5, Tryd.ntmps5
  go_wp2_with fail
  generalize w.alloc (.cells (row .u8 ch) 29) = W at *
  refine (long_no key nonce s HG.out W).mono ?_; rintro e w1 ⟨rfl, rfl⟩
  go_wp2_with fail
  refine (seal_arg key nonce s HN.out W).mono ?_; rintro e w1 ⟨rfl, rfl⟩
  go_wp2_with fail
  refine (alive_any4 W (HT.out.below B0.out)).mono ?_; rintro e w1 ⟨rfl, b1⟩
  have B1 := Lib.hid (below_step B0.out b1)
  clear b1
  go_wp2_with fail
  go_ret
  exact ⟨rfl, B1.out⟩
set_option maxHeartbeats 4000000 in
set_option maxRecDepth 100000 in
theorem back_small (key nonce s : ByteArray) (ch : List Nat) (c : Nat) (hc : c < 256) (hl : ch.length = 32) (hb : Bytes ch) (w : World) (hT : Tab w) (h : ¬ Large key nonce s) (hn : nonce.size = 12) :
    Calls Tryd.prog 5 #[.string key, .string nonce, .string s, .agg (row .u8 ch), .int .u8 (c : Int)] w fun e w' => e = .returned (.bool true) ∧ Below w.heap.size w w' := by
  have HT := Lib.hid hT
  have l1 := not_large h
  have HG := Lib.hid l1
  have B0 : Hid (Below w.heap.size w (w.alloc (.cells (row .u8 ch) 29))) := Lib.hid ((Below.refl _ _).alloc (Nat.le_refl _) _)
  have C0 := Lib.hid (Go.heap_alloc_new w (.cells (row .u8 ch) 29))
  have hz := sealedT_size key nonce s hn
  have hno := sealedT_nonce key nonce s hn
  obtain ⟨x, hx⟩ : ∃ x, x = sealedT key nonce s := ⟨_, rfl⟩
  have S1 := Lib.hid (fun V hV => seal_is key nonce s x (by omega) hn (by omega) hx V hV)
  have S2 := Lib.hid (fun V hV => open_back key nonce s x (by omega) hn (by omega) hx V hV)
  obtain ⟨d, hd⟩ : ∃ d, d = xorT (tagAt x) (bytesOf ch) := ⟨_, rfl⟩
  rw [← hx] at hz hno
  have htg : (tagAt x).size = 32 := by unfold tagAt; rw [ext_size _ _ _ (Nat.le_refl _)]; omega
  have hdz : d.size = 32 := by rw [hd, xorT_size]; exact htg
  obtain ⟨y, hy⟩ : ∃ y, y = hidOf x ++ d := ⟨_, rfl⟩
  have S3 := Lib.hid (fun (hne : y ≠ x) V hV => open_spoilt key nonce s x d y (by omega) hn (by omega) hx hdz hy hne V hV)
  obtain ⟨r, hr⟩ : ∃ r, r = c % 44 := ⟨_, rfl⟩
  have S4 := Lib.hid (fun V => open_end key (x.extract 0 r) (by rw [ext_size _ _ _ (by omega)]; omega) V)
  have hs4 := slice_to x r (by omega)
  obtain ⟨m, hm⟩ : ∃ m, m = x.size - 32 := ⟨_, rfl⟩
  have hs1 : ∀ V, (Instr.sliceAt 9 (.string x) none (some (.int .i64 (m : Int))) none).run Tryd.prog V = .ok (.string (hidOf x)) V := by
    have h := slice_to x m (by omega)
    rw [hm] at h ⊢
    exact h
  have hs2 : ∀ V, (Instr.sliceAt 9 (.string x) (some (.int .i64 (m : Int))) none none).run Tryd.prog V = .ok (.string (tagAt x)) V := by
    have h := slice_from x m (by omega)
    rw [hm] at h ⊢
    exact h
  have hs3 : ∀ V, (Instr.sliceAt 9 (.string x) none (some (.int .i64 12)) none).run Tryd.prog V = .ok (.string nonce) V := by
    have h : ∀ V, (Instr.sliceAt 9 (.string x) none (some (.int .i64 12)) none).run Tryd.prog V = .ok (.string (x.extract 0 12)) V := slice_to x 12 (by omega)
    rwa [hno] at h
  have hw : IntKind.i64.wrap ((x.size : Int) - 32) = (m : Int) := by rw [IntWalk.i64_in _ (by omega)]; omega
  have q0 : (s.size : Int) ≤ 4096 := by omega
  have qc : (c : Int) ≤ 255 := by omega
  have q1 : ((x.size : Int) != (s.size : Int) + 44) = false := by rw [bne_eq_false_iff_eq]; omega
  have q2 : (c : Int) % 44 = (r : Int) := by omega
  have q3 : (c : Int).tmod 44 = (r : Int) := by rw [Int.tmod_eq_emod_of_nonneg (by omega)]; omega
  have hcat : (hidOf x).size + d.size ≤ 9223372036854775807 := by unfold hidOf; rw [ext_size _ _ _ (Nat.sub_le _ _)]; omega
  have SX : Hid ((tagAt x).size ≤ 100000 ∧ d = xorT (tagAt x) (bytesOf ch)) := Lib.hid ⟨by omega, hd⟩
  have HCV : Hid (∀ V : World, V.heap[w.heap.size]? = some (.cells (row .u8 ch) 29 (0, 0)) → (convert 31 9 (.slice (some ⟨w.heap.size, 0, none⟩) 32 32)).run Tryd.prog V = .ok (.string (bytesOf ch)) V) := Lib.hid (fun V hV => by
    have h := back_string V w.heap.size 0 32 ch (fun j => hb.at j) (fun j hj => by rw [Nat.zero_add]; exact (at_row hV j hj).1)
    rwa [hl] at h)
  have hsl := all32 w.heap.size
  have HY := Lib.hid hy
  generalize bytesOf ch = CH at *
  generalize hidOf x = Y at *
  generalize tagAt x = Tg at *
  generalize x.extract 0 r = sh at *
  clear hT h hn hb hl hz hno hx hd htg hdz hy hr hm l1 hc
  go_enter Tryd.func5, Tryd.ntmps5
  go_wp2_with fail
  generalize w.alloc (.cells (row .u8 ch) 29) = W at *
  refine (long_no key nonce s HG.out W).mono ?_; rintro e w1 ⟨rfl, rfl⟩
  go_wp2_with fail
  refine (S1.out W (HT.out.below B0.out)).mono ?_; rintro e w1 ⟨rfl, b1⟩
  have B1 := Lib.hid (below_step B0.out b1)
  have C1 := Lib.hid (heap_below b1 C0.out)
  clear b1 B0 C0 S1
  go_wp2_with fail
  refine (S2.out w1 (HT.out.below B1.out)).mono ?_; rintro e w2 ⟨rfl, b2⟩
  have B2 := Lib.hid (below_step B1.out b2)
  have C2 := Lib.hid (heap_below b2 C1.out)
  clear b2 B1 C1
  go_wp2_with fail
  refine wp_region_any (by kernel_rfl) ?_
  change wpAny _ _ _ _ _ _ _ (World.drew w2)
  obtain ⟨U, hU⟩ : ∃ U, U = World.drew w2 := ⟨_, rfl⟩
  have CV := Lib.hid (HCV.out w2.drew C2.out)
  have BU := Lib.hid (B2.out.trans ((drew_below w2).mono B2.out.size))
  rw [← hU] at CV BU ⊢
  clear hU
  refine wpAny_take (i := 0) (oi := { dst := some 70, op := Op.move (Operand.tmp 11), type := 9, pos := "law.go:61", after := #[], guard := none }) (v := .string x) rfl (by kernel_rfl) (by kernel_rfl) (by kernel_rfl) (fun _ _ _ h => h) (Or.inl ⟨by rfl, fun w => by go_simp⟩) ?_
  (try simp only [Act.put, List.setIfInBounds_toArray, List.set_cons_zero, List.set_cons_succ])
  refine wpAny_take (i := 1) (oi := { dst := some 71, op := Op.move (Operand.tmp 11), type := 9, pos := "law.go:61", after := #[], guard := none }) (v := .string x) rfl (by kernel_rfl) (by kernel_rfl) (by kernel_rfl) (fun _ _ _ h => h) (Or.inl ⟨by rfl, fun w => by go_simp⟩) ?_
  (try simp only [Act.put, List.setIfInBounds_toArray, List.set_cons_zero, List.set_cons_succ])
  refine wpAny_take (i := 2) (oi := { dst := some 72, op := Op.call { callee := Callee.builtin Builtin.len, args := #[Operand.tmp 71], argTypes := #[9] }, type := 3, pos := "law.go:61", after := #[{ on := 1, ground := Ground.data }], guard := none }) (v := .int .i64 (x.size : Int)) rfl (by kernel_rfl) (by kernel_rfl) (by kernel_rfl) (fun _ _ _ h => h) (Or.inl ⟨by rfl, fun w => by go_simp⟩) ?_
  (try simp only [Act.put, List.setIfInBounds_toArray, List.set_cons_zero, List.set_cons_succ])
  refine wpAny_take (i := 3) (oi := { dst := some 73, op := Op.binOp BinOp.sub 3 (Operand.tmp 72) (Operand.const (Value.int IntKind.i64 32)) 3, type := 3, pos := "law.go:61", after := #[{ on := 2, ground := Ground.data }], guard := none }) (v := .int .i64 (m : Int)) rfl (by kernel_rfl) (by kernel_rfl) (by kernel_rfl) (fun _ _ _ h => h) (Or.inl ⟨by rfl, fun w => by go_simp⟩) ?_
  (try simp only [Act.put, List.setIfInBounds_toArray, List.set_cons_zero, List.set_cons_succ])
  refine wpAny_take (i := 4) (oi := { dst := some 74, op := Op.slice 9 (Operand.tmp 70) none (some (Operand.tmp 73)) none, type := 9, pos := "law.go:61", after := #[{ on := 0, ground := Ground.data }, { on := 3, ground := Ground.data }], guard := none }) (v := .string Y) rfl (by kernel_rfl) (by kernel_rfl) (by kernel_rfl) (fun _ _ _ h => h) (Or.inl ⟨by rfl, fun w => by go_simp⟩) ?_
  (try simp only [Act.put, List.setIfInBounds_toArray, List.set_cons_zero, List.set_cons_succ])
  refine wpAny_take (i := 5) (oi := { dst := some 75, op := Op.move (Operand.tmp 11), type := 9, pos := "law.go:61", after := #[], guard := none }) (v := .string x) rfl (by kernel_rfl) (by kernel_rfl) (by kernel_rfl) (fun _ _ _ h => h) (Or.inl ⟨by rfl, fun w => by go_simp⟩) ?_
  (try simp only [Act.put, List.setIfInBounds_toArray, List.set_cons_zero, List.set_cons_succ])
  refine wpAny_take (i := 6) (oi := { dst := some 76, op := Op.move (Operand.tmp 11), type := 9, pos := "law.go:61", after := #[], guard := none }) (v := .string x) rfl (by kernel_rfl) (by kernel_rfl) (by kernel_rfl) (fun _ _ _ h => h) (Or.inl ⟨by rfl, fun w => by go_simp⟩) ?_
  (try simp only [Act.put, List.setIfInBounds_toArray, List.set_cons_zero, List.set_cons_succ])
  refine wpAny_take (i := 7) (oi := { dst := some 77, op := Op.call { callee := Callee.builtin Builtin.len, args := #[Operand.tmp 76], argTypes := #[9] }, type := 3, pos := "law.go:61", after := #[{ on := 6, ground := Ground.data }], guard := none }) (v := .int .i64 (x.size : Int)) rfl (by kernel_rfl) (by kernel_rfl) (by kernel_rfl) (fun _ _ _ h => h) (Or.inl ⟨by rfl, fun w => by go_simp⟩) ?_
  (try simp only [Act.put, List.setIfInBounds_toArray, List.set_cons_zero, List.set_cons_succ])
  refine wpAny_take (i := 8) (oi := { dst := some 78, op := Op.binOp BinOp.sub 3 (Operand.tmp 77) (Operand.const (Value.int IntKind.i64 32)) 3, type := 3, pos := "law.go:61", after := #[{ on := 7, ground := Ground.data }], guard := none }) (v := .int .i64 (m : Int)) rfl (by kernel_rfl) (by kernel_rfl) (by kernel_rfl) (fun _ _ _ h => h) (Or.inl ⟨by rfl, fun w => by go_simp⟩) ?_
  (try simp only [Act.put, List.setIfInBounds_toArray, List.set_cons_zero, List.set_cons_succ])
  refine wpAny_take (i := 9) (oi := { dst := some 79, op := Op.slice 9 (Operand.tmp 75) (some (Operand.tmp 78)) none none, type := 9, pos := "law.go:61", after := #[{ on := 5, ground := Ground.data }, { on := 8, ground := Ground.data }], guard := none }) (v := .string Tg) rfl (by kernel_rfl) (by kernel_rfl) (by kernel_rfl) (fun _ _ _ h => h) (Or.inl ⟨by rfl, fun w => by go_simp⟩) ?_
  (try simp only [Act.put, List.setIfInBounds_toArray, List.set_cons_zero, List.set_cons_succ])
  refine wpAny_take (i := 10) (oi := { dst := some 80, op := Op.slice 29 (Operand.tmp 8) none none none, type := 31, pos := "law.go:61", after := #[], guard := none }) (v := .slice (some ⟨w.heap.size, 0, none⟩) 32 32) rfl (by kernel_rfl) (by kernel_rfl) (by kernel_rfl) (fun _ _ _ h => h) (Or.inl ⟨by rfl, fun w => by go_simp⟩) ?_
  (try simp only [Act.put, List.setIfInBounds_toArray, List.set_cons_zero, List.set_cons_succ])
  refine wpAny_ready (rs := [11]) (by kernel_rfl) (by simp) ?_
  refine AllReady.cons (o := { dst := some 81, op := Op.convert 31 9 (Operand.tmp 80), type := 9, pos := "law.go:61", after := #[{ on := 10, ground := Ground.data }], guard := none }) rfl (fun K hK => ?_) AllReady.nil
  rw [if_pos (by rfl)]
  have hcv := CV.out
  go_simp
  clear hcv
  refine hK _ _ ?_
  clear hK K
  (try simp only [Act.put, List.setIfInBounds_toArray, List.set_cons_zero, List.set_cons_succ])
  refine wpAny_ready (rs := [12]) (by kernel_rfl) (by simp) ?_
  refine AllReady.cons (o := { dst := some 82, op := Op.call { callee := Callee.value (Operand.func 13), args := #[Operand.tmp 79, Operand.tmp 81], argTypes := #[9, 9] }, type := 9, pos := "law.go:61", after := #[{ on := 9, ground := Ground.data }, { on := 11, ground := Ground.data }], guard := none }) rfl (fun K hK => ?_) AllReady.nil
  go_simp
  refine (tw_xor SX).mono ?_
  rintro e w3 ⟨rfl, b3⟩
  refine hK _ _ ?_
  clear hK K
  (try simp only [Act.put, List.setIfInBounds_toArray, List.set_cons_zero, List.set_cons_succ])
  refine wpAny_take (i := 13) (oi := { dst := some 83, op := Op.binOp BinOp.add 9 (Operand.tmp 74) (Operand.tmp 82) 9, type := 9, pos := "law.go:61", after := #[{ on := 4, ground := Ground.data }, { on := 12, ground := Ground.data }], guard := none }) (v := .string (Y ++ d)) rfl (by kernel_rfl) (by kernel_rfl) (by kernel_rfl) (fun _ _ _ h => h) (Or.inl ⟨by rfl, fun w => by go_simp⟩) ?_
  (try simp only [Act.put, List.setIfInBounds_toArray, List.set_cons_zero, List.set_cons_succ])
  refine wpAny_take (i := 14) (oi := { dst := some 15, op := Op.assign (Operand.tmp 83), type := 9, pos := "law.go:61", after := #[{ on := 13, ground := Ground.data }, { on := 12, ground := Ground.chain }, { on := 0, ground := Ground.phase }, { on := 1, ground := Ground.phase }, { on := 2, ground := Ground.phase }, { on := 3, ground := Ground.phase }, { on := 4, ground := Ground.phase }, { on := 5, ground := Ground.phase }, { on := 6, ground := Ground.phase }, { on := 7, ground := Ground.phase }, { on := 8, ground := Ground.phase }, { on := 9, ground := Ground.phase }, { on := 10, ground := Ground.phase }, { on := 11, ground := Ground.phase }, { on := 12, ground := Ground.phase }, { on := 13, ground := Ground.phase }], guard := none }) (v := .string (Y ++ d)) rfl (by kernel_rfl) (by kernel_rfl) (by kernel_rfl) (fun _ _ _ h => h) (Or.inl ⟨by rfl, fun w => by go_simp⟩) ?_
  (try simp only [Act.put, List.setIfInBounds_toArray, List.set_cons_zero, List.set_cons_succ])
  refine wpAny_done (by kernel_rfl) ?_ _
  rw [← HY.out]
  have B3 := Lib.hid (below_step BU.out b3)
  clear b3 BU CV
  go_wp2_with fail
  by_cases hne : y = x
  · have HE := Lib.hid hne
    rw [hne]
    clear hne S3 HY hcat hs1 hs2 hw SX
    refine (S2.out w3 (HT.out.below B3.out)).mono ?_; rintro e w4 ⟨rfl, b4⟩
    have B4 := Lib.hid (below_step B3.out b4)
    clear b4
    go_wp2_with fail
    refine (S4.out _).mono ?_; rintro e w5 ⟨rfl, rfl⟩
    go_wp2_with fail
    refine (alive_any4 w4 (HT.out.below B4.out)).mono ?_; rintro e w6 ⟨rfl, b6⟩
    have B6 := Lib.hid (below_step B4.out b6)
    clear b6
    go_wp2_with fail
    go_ret
    exact ⟨rfl, B6.out⟩
  · obtain ⟨g1, g2⟩ := str_ne hne
    refine (S3.out hne w3 (HT.out.below B3.out)).mono ?_; rintro e w4 ⟨rfl, b4⟩
    have B4 := Lib.hid (below_step B3.out b4)
    clear b4 hne S3 HY hcat hs1 hs2 hw SX S2
    go_wp2_with fail
    refine (S4.out _).mono ?_; rintro e w5 ⟨rfl, rfl⟩
    go_wp2_with fail
    refine (alive_any4 w4 (HT.out.below B4.out)).mono ?_; rintro e w6 ⟨rfl, b6⟩
    have B6 := Lib.hid (below_step B4.out b6)
    clear b6
    go_wp2_with fail
    go_ret
    exact ⟨rfl, B6.out⟩
theorem back_all (key nonce s : ByteArray) (ch : List Nat) (c : Nat) (hc : c < 256) (hl : ch.length = 32) (hb : Bytes ch) (w : World) (hT : Tab w) :
    Calls Tryd.prog 5 #[.string key, .string nonce, .string s, .agg (row .u8 ch), .int .u8 (c : Int)] w fun e w' => e = .returned (.bool true) ∧ Below w.heap.size w w' := by
  by_cases h : Large key nonce s
  · exact back_large key nonce s ch c w hT h
  · by_cases hn : nonce.size = 12
    · exact back_small key nonce s ch c hc hl hb w hT h hn
    · exact back_arg key nonce s ch c w hT h hn
end Go.Proofs.YtogadffbnoinmaaDoor.Pl
