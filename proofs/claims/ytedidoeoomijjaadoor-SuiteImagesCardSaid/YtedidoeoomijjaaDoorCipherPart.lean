/- What cipher's partAt answers: a part of the key stream. -/
import Derived.Test.YtedidoeoomijjaaDoorSuiteD5
import Derived.Test.YtedidoeoomijjaaDoorSuiteD7
import Derived.Laws.Cover3
import Derived.Lib.ConvBytes
namespace Go.Proofs.YtedidoeoomijjaaDoor.Pl
open Go.RowKit

theorem zero4 (w : World) : (zeroValue 137).run Tryd.prog w = .ok (.agg #[.int .u8 0, .int .u8 0, .int .u8 0, .int .u8 0]) w := by kernel_rfl
theorem zeroPart (w : World) : (zeroValue 132).run Tryd.prog w = .ok (.agg (row .u8 (List.replicate 32 0))) w := by kernel_rfl
theorem all4 (g : Nat) (V : World) : (Instr.sliceAt 137 (.pointer (some ⟨g, 0, none⟩)) none none none).run Tryd.prog V = .ok (.slice (some ⟨g, 0, none⟩) 4 4) V := by
  have ha : Tryd.prog.arrayLen 137 = 4 := by simp [Program.arrayLen, Tryd.underlying137]
  have he : Tryd.prog.elem 137 = 5 := by simp [Program.elem, Tryd.underlying137]
  rw [run_sliceAt_array_all V 137 ⟨g, 0, none⟩ (by rw [ha, he]; exact Tryd.underlying137), ha, he]
  have hs : (sizeOf 5).run Tryd.prog V = .ok 1 V := by kernel_rfl
  rw [hs]
  simp only [Result.andThen, slicedAt]
  rw [if_neg (by omega), add_none]

theorem heap3 (w : World) (o1 o2 o3 : Obj) : (((w.alloc o1).alloc o2).alloc o3).heap[w.heap.size + 1 + 1]? = some o3 := by
  have h := Go.heap_alloc_new ((w.alloc o1).alloc o2) o3
  rwa [size_alloc', size_alloc'] at h
def PartPost (sk nonce : List Nat) (i : Nat) (w : World) (e : Ending) (w' : World) : Prop := e = .returned (.agg (row .u8 (partL sk nonce i))) ∧ Below w.heap.size w w'

/-- The world behind the number's store. -/
theorem part_world (p q a b c d : Nat) (Z : List Nat) (w : World) (W : World)
    (hW : (((w.alloc (.cells #[.pointer (some ⟨p, 0, none⟩), .pointer (some ⟨q, 0, none⟩)] 109)).alloc (.cells (row .u8 Z) 132)).alloc (.cells #[.int .u8 0, .int .u8 0, .int .u8 0, .int .u8 0] 137)).setRow (w.heap.size + 1 + 1) #[.int .u8 (a : Int), .int .u8 (b : Int), .int .u8 (c : Int), .int .u8 (d : Int)] = W) :
    W.heap[w.heap.size]? = some (.cells #[.pointer (some ⟨p, 0, none⟩), .pointer (some ⟨q, 0, none⟩)] 109 (0, 0)) ∧ W.heap[w.heap.size + 1]? = some (.cells (row .u8 Z) 132 (0, 0)) ∧
    W.heap[w.heap.size + 1 + 1]? = some (.cells (row .u8 [a, b, c, d]) 137 (0, 0)) ∧ Below w.heap.size w W := by
  have h1 := Go.heap_alloc_new w (.cells #[.pointer (some ⟨p, 0, none⟩), .pointer (some ⟨q, 0, none⟩)] 109)
  have s1 := size_alloc' w (.cells #[.pointer (some ⟨p, 0, none⟩), .pointer (some ⟨q, 0, none⟩)] 109)
  have b1 : Below w.heap.size w (w.alloc (.cells #[.pointer (some ⟨p, 0, none⟩), .pointer (some ⟨q, 0, none⟩)] 109)) := (Below.refl _ _).alloc (Nat.le_refl _) _
  generalize w.alloc (.cells #[.pointer (some ⟨p, 0, none⟩), .pointer (some ⟨q, 0, none⟩)] 109) = W1 at *
  have h2 := Go.heap_alloc_new W1 (.cells (row .u8 Z) 132)
  have k2 := heap_alloc h1 (.cells (row .u8 Z) 132)
  have s2 := size_alloc' W1 (.cells (row .u8 Z) 132)
  have b2 := b1.alloc (by omega) (.cells (row .u8 Z) 132)
  rw [s1] at h2
  generalize W1.alloc (.cells (row .u8 Z) 132) = W2 at *
  have h3 := Go.heap_alloc_new W2 (.cells #[.int .u8 0, .int .u8 0, .int .u8 0, .int .u8 0] 137)
  have k3 := heap_alloc k2 (.cells #[.int .u8 0, .int .u8 0, .int .u8 0, .int .u8 0] 137)
  have l3 := heap_alloc h2 (.cells #[.int .u8 0, .int .u8 0, .int .u8 0, .int .u8 0] 137)
  have b3 := b2.alloc (by omega) (.cells #[.int .u8 0, .int .u8 0, .int .u8 0, .int .u8 0] 137)
  rw [s2, s1] at h3
  generalize W2.alloc (.cells #[.int .u8 0, .int .u8 0, .int .u8 0, .int .u8 0] 137) = W3 at *
  subst hW
  exact ⟨heap_setRow k3 (by omega) _, heap_setRow l3 (by omega) _, setRow_heap _ _ _ _ _ _ h3, below_setRow b3 (by omega) _⟩

set_option maxHeartbeats 1000000 in
set_option maxRecDepth 100000 in
theorem part_any (p q : Nat) (sk : List Nat) (nonce : ByteArray) (hn : nonce.size ≤ 1000000) (i : Nat) (hi : i < 4294967296) (w : World) (hT : Tab w) (hsk : Bytes sk) (hK : KeyAt w p sk) :
    Calls Tryd.prog 90 #[keysV p q, .string nonce, .int .i64 i] w (PartPost sk (nums nonce) i w) := by
  have hz := zero4
  have hz2 := zeroPart
  obtain ⟨a, ha⟩ : ∃ a, a = i / 16777216 % 256 := ⟨_, rfl⟩
  obtain ⟨b, hb⟩ : ∃ b, b = i / 65536 % 256 := ⟨_, rfl⟩
  obtain ⟨c, hc⟩ : ∃ c, c = i / 256 % 256 := ⟨_, rfl⟩
  obtain ⟨d, hd⟩ : ∃ d, d = i % 256 := ⟨_, rfl⟩
  have EL : Hid (be4 i = [a, b, c, d]) := Lib.hid (by rw [be4, ha, hb, hc, hd])
  have e1 : (i : Int) / 16777216 = (a : Int) := by omega
  have e2 : (i : Int) / 65536 % 256 = (b : Int) := by omega
  have e3 : (i : Int) / 256 % 256 = (c : Int) := by omega
  have e4 : (i : Int) % 256 = (d : Int) := by omega
  have HB : Hid (Bytes [a, b, c, d]) := Lib.hid (by rw [← EL.out]; exact be4_bytes i)
  have HS : Hid ((Tryd.prog.info? 137).map (·.size) = some (#[Value.int .u8 (a : Int), .int .u8 (b : Int), .int .u8 (c : Int), .int .u8 (d : Int)].size)) := Lib.hid (by kernel_rfl)
  clear ha hb hc hd
  have ZL : Hid ((List.replicate 32 0).length = 32) := Lib.hid List.length_replicate
  generalize List.replicate 32 0 = Z at *
  unfold keysV
  go_enter Tryd.func90, Tryd.ntmps90
  go_wp2_with (first
    | (refine wpList_store_row rfl 137 _ _ rfl (w.heap.size + 1 + 1) #[.int .u8 (a : Int), .int .u8 (b : Int), .int .u8 (c : Int), .int .u8 (d : Int)] rfl rfl 137 #[.int .u8 0, .int .u8 0, .int .u8 0, .int .u8 0] ?c1 HS.out rfl (row_one .u8 [a, b, c, d]) ?_))
  case c1 => exact heap3 w _ _ _
  obtain ⟨W, hW⟩ : ∃ W, (((w.alloc (.cells #[.pointer (some ⟨p, 0, none⟩), .pointer (some ⟨q, 0, none⟩)] 109)).alloc (.cells (row .u8 Z) 132)).alloc (.cells #[.int .u8 0, .int .u8 0, .int .u8 0, .int .u8 0] 137)).setRow (w.heap.size + 1 + 1) #[.int .u8 (a : Int), .int .u8 (b : Int), .int .u8 (c : Int), .int .u8 (d : Int)] = W := ⟨_, rfl⟩
  rw [hW]
  obtain ⟨h1, h2, h3, hB⟩ := part_world p q a b c d Z w W hW
  clear hW
  obtain ⟨U, hU⟩ : ∃ U, U = World.drew W := ⟨_, rfl⟩
  have HU := Lib.hid hU
  have g1 : U.heap[w.heap.size]? = some (.cells #[.pointer (some ⟨p, 0, none⟩), .pointer (some ⟨q, 0, none⟩)] 109 (0, 0)) := by rw [hU]; exact h1
  have g2 : U.heap[w.heap.size + 1]? = some (.cells (row .u8 Z) 132 (0, 0)) := by rw [hU]; exact h2
  have g3 : U.heap[w.heap.size + 1 + 1]? = some (.cells (row .u8 [a, b, c, d]) 137 (0, 0)) := by rw [hU]; exact h3
  have gB : Below w.heap.size w U := by rw [hU]; exact hB.drew
  clear hU
  have c0 : U.cell? ⟨w.heap.size, 0, none⟩ = some (.pointer (some ⟨p, 0, none⟩)) := cell_of_row _ _ _ _ _ _ g1
  have hld : (Instr.loadAt 53 (.pointer (some ⟨w.heap.size, 0, none⟩))).run Tryd.prog U = .ok (.pointer (some ⟨p, 0, none⟩)) U := by go_simp
  have hst : (convert 41 9 (.slice (some ⟨w.heap.size + 1 + 1, 0, none⟩) 4 4)).run Tryd.prog U = .ok (.string (bytesOf [a, b, c, d])) U := back_string U (w.heap.size + 1 + 1) 0 4 [a, b, c, d] (fun j => HB.out.at j) (fun j hj => by rw [Nat.zero_add]; exact (at_row g3 j hj).1)
  have hsl := all4 (w.heap.size + 1 + 1)
  have HLD := Lib.hid hld
  have HST := Lib.hid hst
  have G1 := Lib.hid g1
  have G2 := Lib.hid g2
  have G3 := Lib.hid g3
  have GB := Lib.hid gB
  have NE : Hid (nums (nonce ++ bytesOf [a, b, c, d]) = nums nonce ++ be4 i) := Lib.hid (by rw [nums_append, nums_bytesOf HB.out, EL.out])
  have NS : Hid ((nonce ++ bytesOf [a, b, c, d]).size ≤ 2000000) := Lib.hid (by rw [ByteArray.size_append, bytesOf_size]; simp only [List.length_cons, List.length_nil]; omega)
  have KS : Hid (∀ V, Below U.heap.size U V → Calls Tryd.prog 58 #[.pointer (some ⟨p, 0, none⟩), .string (nonce ++ bytesOf [a, b, c, d])] V fun e w' => e = .returned (.string (bytesOf (partL sk (nums nonce) i))) ∧ Below V.heap.size V w') := Lib.hid (fun V hV => by
    have hT2 := (hT.below gB).below hV
    have hK2 := (hK.below gB).below hV
    have hb : nums (bytesOf sk) = sk := nums_bytesOf hsk
    have h := keysum_any p (bytesOf sk) (nonce ++ bytesOf [a, b, c, d]) (by have := NS.out; omega) V hT2 (by rw [hb]; exact hK2)
    rwa [NE.out, hb] at h)
  have HS32 : Hid ((Tryd.prog.info? 132).map (·.size) = some (u8s (partL sk (nums nonce) i)).length) := Lib.hid (by rw [u8s, List.length_map, partL_length]; kernel_rfl)
  have HR : Hid ((Tryd.prog.info? 132).map (·.size) = some (row .u8 (partL sk (nums nonce) i)).size) := Lib.hid (by rw [row_size, partL_length]; kernel_rfl)
  have HZ : Hid ((row .u8 Z).size = (row .u8 (partL sk (nums nonce) i)).size) := Lib.hid (by rw [row_size, row_size, partL_length]; exact ZL.out)
  have PL := Lib.hid (partL_length sk (nums nonce) i)
  have PB := Lib.hid (partL_bytes sk (nums nonce) i)
  obtain ⟨P, hP⟩ : ∃ P, P = partL sk (nums nonce) i := ⟨_, rfl⟩
  rw [← hP] at KS HS32 HR HZ PL PB
  have EP := Lib.hid hP
  clear hP
  clear h1 h2 h3 hB g1 g2 g3 gB c0 hld hst hT hK hz hz2 e1 e2 e3 e4 hn hi
  have hcat : nonce.size + (bytesOf [a, b, c, d]).size ≤ 9223372036854775807 := by have := NS.out; rw [ByteArray.size_append] at this; omega
  generalize bytesOf [a, b, c, d] = N at *
  refine wp_region_any (by kernel_rfl) ?_
  change wpAny _ _ _ _ _ _ _ (World.drew W)
  rw [← HU.out]
  clear HU
  refine wpAny_take (i := 0) (oi := { dst := some 20, op := Op.fieldAddr 109 (Operand.tmp 3) 0, type := 0, pos := "cipher.go:93", after := #[], guard := none }) (v := .pointer (some ⟨w.heap.size, 0, none⟩)) rfl (by kernel_rfl) (by kernel_rfl) (by kernel_rfl) (fun _ _ _ h => h) (Or.inl ⟨by rfl, fun w => by go_simp⟩) ?_
  (try simp only [Act.put, List.setIfInBounds_toArray, List.set_cons_zero, List.set_cons_succ])
  refine wpAny_take (i := 2) (oi := { dst := some 22, op := Op.move (Operand.tmp 1), type := 9, pos := "cipher.go:93", after := #[], guard := none }) (v := .string nonce) rfl (by kernel_rfl) (by kernel_rfl) (by kernel_rfl) (fun _ _ _ h => h) (Or.inl ⟨by rfl, fun w => by go_simp⟩) ?_
  (try simp only [Act.put, List.setIfInBounds_toArray, List.set_cons_zero, List.set_cons_succ])
  refine wpAny_take (i := 3) (oi := { dst := some 23, op := Op.slice 137 (Operand.tmp 7) none none none, type := 41, pos := "cipher.go:93", after := #[], guard := none }) (v := .slice (some ⟨w.heap.size + 1 + 1, 0, none⟩) 4 4) rfl (by kernel_rfl) (by kernel_rfl) (by kernel_rfl) (fun _ _ _ h => h) (Or.inl ⟨by rfl, fun w => by go_simp⟩) ?_
  (try simp only [Act.put, List.setIfInBounds_toArray, List.set_cons_zero, List.set_cons_succ])
  refine wpAny_ready (rs := [1, 4]) (by kernel_rfl) (by simp) ?_
  refine AllReady.cons (o := { dst := some 21, op := Op.load 53 (Operand.tmp 20), type := 53, pos := "cipher.go:93", after := #[{ on := 0, ground := Ground.data }], guard := none }) rfl (fun K hK => ?_) ?_
  · refine step_load rfl 53 _ rfl (.pointer (some ⟨w.heap.size, 0, none⟩)) rfl _ HLD.out ?_
    refine hK _ _ ?_
    clear hK K
    (try simp only [Act.put, List.setIfInBounds_toArray, List.set_cons_zero, List.set_cons_succ])
    refine wpAny_ready (rs := [4]) (by kernel_rfl) (by simp) ?_
    refine AllReady.cons (o := { dst := some 24, op := Op.convert 41 9 (Operand.tmp 23), type := 9, pos := "cipher.go:93", after := #[{ on := 3, ground := Ground.data }], guard := none }) rfl (fun K hK => ?_) AllReady.nil
    rw [if_pos (by rfl)]
    have hst := HST.out
    go_simp
    clear hst
    refine hK _ _ ?_
    clear hK K
    (try simp only [Act.put, List.setIfInBounds_toArray, List.set_cons_zero, List.set_cons_succ])
    refine wpAny_take (i := 5) (oi := { dst := some 25, op := Op.binOp BinOp.add 9 (Operand.tmp 22) (Operand.tmp 24) 9, type := 9, pos := "cipher.go:93", after := #[{ on := 2, ground := Ground.data }, { on := 4, ground := Ground.data }], guard := none }) (v := .string (nonce ++ N)) rfl (by kernel_rfl) (by kernel_rfl) (by kernel_rfl) (fun _ _ _ h => h) (Or.inl ⟨by rfl, fun w => by go_simp⟩) ?_
    (try simp only [Act.put, List.setIfInBounds_toArray, List.set_cons_zero, List.set_cons_succ])
    refine wpAny_ready (rs := [6]) (by kernel_rfl) (by simp) ?_
    refine AllReady.cons (o := { dst := some 26, op := Op.call { callee := Callee.value (Operand.func 58), args := #[Operand.tmp 21, Operand.tmp 25], argTypes := #[53, 9] }, type := 9, pos := "cipher.go:93", after := #[{ on := 1, ground := Ground.data }, { on := 5, ground := Ground.data }], guard := none }) rfl (fun K hK => ?_) AllReady.nil
    go_simp
    refine (KS.out U (Below.refl _ _)).mono ?_
    rintro e w2 ⟨rfl, b2⟩
    refine hK _ _ ?_
    clear hK K
    (try simp only [Act.put, List.setIfInBounds_toArray, List.set_cons_zero, List.set_cons_succ])
    refine wpAny_ready (rs := [7]) (by kernel_rfl) (by simp) ?_
    refine AllReady.cons (o := { dst := some 27, op := Op.convert 9 41 (Operand.tmp 26), type := 41, pos := "cipher.go:93", after := #[{ on := 6, ground := Ground.data }], guard := none }) rfl (fun K hK => ?_) AllReady.nil
    rw [if_pos (by rfl)]
    have hcv := Lib.run_convert_string_bytes (P := Tryd.prog) w2 9 41 5 (bytesOf P) Tryd.underlying9 Tryd.underlying41 Tryd.underlying5
    rw [bytesOf_size, PL.out] at hcv
    have ha := at8_bytes w2 (bytesOf P)
    rw [nums_bytesOf PB.out] at ha
    have HA := Lib.hid ha
    have B3 := Lib.hid (below_step b2 (below_bytes w2 (bytesOf P)))
    clear ha b2
    generalize Lib.bytesWorld w2 5 (bytesOf P) = V at *
    generalize grownCap w2 32 0 5 = cap at *
    generalize w2.heap.size = g at *
    go_simp
    clear hcv
    refine hK _ _ ?_
    clear hK K
    (try simp only [Act.put, List.setIfInBounds_toArray, List.set_cons_zero, List.set_cons_succ])
    have hat : ∀ w, (Instr.arrayAt 132 (.slice (some ⟨g, 0, none⟩) 32 cap)).run Tryd.prog w = .ok (.pointer (some ⟨g, 0, none⟩)) w := fun w => run_arrayAt w 132 _ 32 _ 32 cap Tryd.underlying132 (by decide)
    refine wpAny_take (i := 8) (oi := { dst := some 28, op := Op.sliceToArrayPointer 132 (Operand.tmp 27), type := 0, pos := "cipher.go:93", after := #[{ on := 7, ground := Ground.data }], guard := none }) (v := .pointer (some ⟨g, 0, none⟩)) rfl (by kernel_rfl) (by kernel_rfl) (by kernel_rfl) (fun _ _ _ h => h) (Or.inl ⟨by rfl, fun w => by go_simp⟩) ?_
    (try simp only [Act.put, List.setIfInBounds_toArray, List.set_cons_zero, List.set_cons_succ])
    refine wpAny_ready (rs := [9]) (by kernel_rfl) (by simp) ?_
    refine AllReady.cons (o := { dst := some 29, op := Op.load 132 (Operand.tmp 28), type := 132, pos := "cipher.go:93", after := #[{ on := 8, ground := Ground.data }], guard := none }) rfl (fun K hK => ?_) AllReady.nil
    rw [if_pos (by rfl)]
    refine wp_load_mid 132 _ rfl g 0 rfl (u8s P) _ ?_ Tryd.underlying132 rfl HS32.out ?_
    · intro j v hv
      have hj : j < P.length := by have := (List.getElem?_eq_some_iff.1 hv).1; simpa [u8s] using this
      rw [Nat.zero_add, (HA.out j hj).1, ← hv]
      simp [u8s, List.getD_eq_getElem?_getD, hj]
    refine hK _ _ ?_
    clear hK K
    (try simp only [Act.put, List.setIfInBounds_toArray, List.set_cons_zero, List.set_cons_succ])
    refine wpAny_ready (rs := [10]) (by kernel_rfl) (by simp) ?_
    refine AllReady.cons (o := { dst := none, op := Op.store 132 (Operand.tmp 6) (Operand.tmp 29), type := 0, pos := "cipher.go:93", after := #[{ on := 9, ground := Ground.data }, { on := 6, ground := Ground.chain }, { on := 0, ground := Ground.phase }, { on := 1, ground := Ground.phase }, { on := 2, ground := Ground.phase }, { on := 3, ground := Ground.phase }, { on := 4, ground := Ground.phase }, { on := 5, ground := Ground.phase }, { on := 6, ground := Ground.phase }, { on := 7, ground := Ground.phase }, { on := 8, ground := Ground.phase }, { on := 9, ground := Ground.phase }], guard := none }) rfl (fun K hK => ?_) AllReady.nil
    rw [if_pos (by rfl)]
    have C2 := heap_below B3.out G2.out
    refine wp_store_row 132 _ _ rfl (w.heap.size + 1) (row .u8 P) rfl rfl 132 (row .u8 Z) C2 HR.out HZ.out (row_one _ _) ?_
    refine hK _ _ ?_
    clear hK K
    (try simp only [Act.put])
    refine wpAny_done (by kernel_rfl) ?_ _
    have C3 := Lib.hid (setRow_heap _ _ _ (row .u8 P) _ _ C2)
    have B4 := Lib.hid (below_setRow (GB.out.trans (B3.out.mono GB.out.size)) (Nat.le_succ _) (row .u8 P))
    clear C2
    go_wp2_with fail
    refine bodyPost_ret (v := .agg (row .u8 P)) ?_ rfl (show PartPost sk (nums nonce) i w (.returned (.agg (row .u8 P))) _ from ⟨by rw [EP.out], B4.out⟩)
    exact results_cell_row rfl _ _ (w.heap.size + 1) 132 _ (0, 0) _ rfl C3.out Tryd.underlying132 rfl HR.out
  refine AllReady.cons (o := { dst := some 24, op := Op.convert 41 9 (Operand.tmp 23), type := 9, pos := "cipher.go:93", after := #[{ on := 3, ground := Ground.data }], guard := none }) rfl (fun K hK => ?_) AllReady.nil
  · rw [if_pos (by rfl)]
    have hst := HST.out
    go_simp
    clear hst
    refine hK _ _ ?_
    clear hK K
    (try simp only [Act.put, List.setIfInBounds_toArray, List.set_cons_zero, List.set_cons_succ])
    refine wpAny_take (i := 5) (oi := { dst := some 25, op := Op.binOp BinOp.add 9 (Operand.tmp 22) (Operand.tmp 24) 9, type := 9, pos := "cipher.go:93", after := #[{ on := 2, ground := Ground.data }, { on := 4, ground := Ground.data }], guard := none }) (v := .string (nonce ++ N)) rfl (by kernel_rfl) (by kernel_rfl) (by kernel_rfl) (fun _ _ _ h => h) (Or.inl ⟨by rfl, fun w => by go_simp⟩) ?_
    (try simp only [Act.put, List.setIfInBounds_toArray, List.set_cons_zero, List.set_cons_succ])
    refine wpAny_ready (rs := [1]) (by kernel_rfl) (by simp) ?_
    refine AllReady.cons (o := { dst := some 21, op := Op.load 53 (Operand.tmp 20), type := 53, pos := "cipher.go:93", after := #[{ on := 0, ground := Ground.data }], guard := none }) rfl (fun K hK => ?_) AllReady.nil
    refine step_load rfl 53 _ rfl (.pointer (some ⟨w.heap.size, 0, none⟩)) rfl _ HLD.out ?_
    refine hK _ _ ?_
    clear hK K
    (try simp only [Act.put, List.setIfInBounds_toArray, List.set_cons_zero, List.set_cons_succ])
    refine wpAny_ready (rs := [6]) (by kernel_rfl) (by simp) ?_
    refine AllReady.cons (o := { dst := some 26, op := Op.call { callee := Callee.value (Operand.func 58), args := #[Operand.tmp 21, Operand.tmp 25], argTypes := #[53, 9] }, type := 9, pos := "cipher.go:93", after := #[{ on := 1, ground := Ground.data }, { on := 5, ground := Ground.data }], guard := none }) rfl (fun K hK => ?_) AllReady.nil
    go_simp
    refine (KS.out U (Below.refl _ _)).mono ?_
    rintro e w2 ⟨rfl, b2⟩
    refine hK _ _ ?_
    clear hK K
    (try simp only [Act.put, List.setIfInBounds_toArray, List.set_cons_zero, List.set_cons_succ])
    refine wpAny_ready (rs := [7]) (by kernel_rfl) (by simp) ?_
    refine AllReady.cons (o := { dst := some 27, op := Op.convert 9 41 (Operand.tmp 26), type := 41, pos := "cipher.go:93", after := #[{ on := 6, ground := Ground.data }], guard := none }) rfl (fun K hK => ?_) AllReady.nil
    rw [if_pos (by rfl)]
    have hcv := Lib.run_convert_string_bytes (P := Tryd.prog) w2 9 41 5 (bytesOf P) Tryd.underlying9 Tryd.underlying41 Tryd.underlying5
    rw [bytesOf_size, PL.out] at hcv
    have ha := at8_bytes w2 (bytesOf P)
    rw [nums_bytesOf PB.out] at ha
    have HA := Lib.hid ha
    have B3 := Lib.hid (below_step b2 (below_bytes w2 (bytesOf P)))
    clear ha b2
    generalize Lib.bytesWorld w2 5 (bytesOf P) = V at *
    generalize grownCap w2 32 0 5 = cap at *
    generalize w2.heap.size = g at *
    go_simp
    clear hcv
    refine hK _ _ ?_
    clear hK K
    (try simp only [Act.put, List.setIfInBounds_toArray, List.set_cons_zero, List.set_cons_succ])
    have hat : ∀ w, (Instr.arrayAt 132 (.slice (some ⟨g, 0, none⟩) 32 cap)).run Tryd.prog w = .ok (.pointer (some ⟨g, 0, none⟩)) w := fun w => run_arrayAt w 132 _ 32 _ 32 cap Tryd.underlying132 (by decide)
    refine wpAny_take (i := 8) (oi := { dst := some 28, op := Op.sliceToArrayPointer 132 (Operand.tmp 27), type := 0, pos := "cipher.go:93", after := #[{ on := 7, ground := Ground.data }], guard := none }) (v := .pointer (some ⟨g, 0, none⟩)) rfl (by kernel_rfl) (by kernel_rfl) (by kernel_rfl) (fun _ _ _ h => h) (Or.inl ⟨by rfl, fun w => by go_simp⟩) ?_
    (try simp only [Act.put, List.setIfInBounds_toArray, List.set_cons_zero, List.set_cons_succ])
    refine wpAny_ready (rs := [9]) (by kernel_rfl) (by simp) ?_
    refine AllReady.cons (o := { dst := some 29, op := Op.load 132 (Operand.tmp 28), type := 132, pos := "cipher.go:93", after := #[{ on := 8, ground := Ground.data }], guard := none }) rfl (fun K hK => ?_) AllReady.nil
    rw [if_pos (by rfl)]
    refine wp_load_mid 132 _ rfl g 0 rfl (u8s P) _ ?_ Tryd.underlying132 rfl HS32.out ?_
    · intro j v hv
      have hj : j < P.length := by have := (List.getElem?_eq_some_iff.1 hv).1; simpa [u8s] using this
      rw [Nat.zero_add, (HA.out j hj).1, ← hv]
      simp [u8s, List.getD_eq_getElem?_getD, hj]
    refine hK _ _ ?_
    clear hK K
    (try simp only [Act.put, List.setIfInBounds_toArray, List.set_cons_zero, List.set_cons_succ])
    refine wpAny_ready (rs := [10]) (by kernel_rfl) (by simp) ?_
    refine AllReady.cons (o := { dst := none, op := Op.store 132 (Operand.tmp 6) (Operand.tmp 29), type := 0, pos := "cipher.go:93", after := #[{ on := 9, ground := Ground.data }, { on := 6, ground := Ground.chain }, { on := 0, ground := Ground.phase }, { on := 1, ground := Ground.phase }, { on := 2, ground := Ground.phase }, { on := 3, ground := Ground.phase }, { on := 4, ground := Ground.phase }, { on := 5, ground := Ground.phase }, { on := 6, ground := Ground.phase }, { on := 7, ground := Ground.phase }, { on := 8, ground := Ground.phase }, { on := 9, ground := Ground.phase }], guard := none }) rfl (fun K hK => ?_) AllReady.nil
    rw [if_pos (by rfl)]
    have C2 := heap_below B3.out G2.out
    refine wp_store_row 132 _ _ rfl (w.heap.size + 1) (row .u8 P) rfl rfl 132 (row .u8 Z) C2 HR.out HZ.out (row_one _ _) ?_
    refine hK _ _ ?_
    clear hK K
    (try simp only [Act.put])
    refine wpAny_done (by kernel_rfl) ?_ _
    have C3 := Lib.hid (setRow_heap _ _ _ (row .u8 P) _ _ C2)
    have B4 := Lib.hid (below_setRow (GB.out.trans (B3.out.mono GB.out.size)) (Nat.le_succ _) (row .u8 P))
    clear C2
    go_wp2_with fail
    refine bodyPost_ret (v := .agg (row .u8 P)) ?_ rfl (show PartPost sk (nums nonce) i w (.returned (.agg (row .u8 P))) _ from ⟨by rw [EP.out], B4.out⟩)
    exact results_cell_row rfl _ _ (w.heap.size + 1) 132 _ (0, 0) _ rfl C3.out Tryd.underlying132 rfl HR.out
end Go.Proofs.YtedidoeoomijjaaDoor.Pl
