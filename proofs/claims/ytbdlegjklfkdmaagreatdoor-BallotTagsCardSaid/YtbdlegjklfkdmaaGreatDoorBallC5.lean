/- What sha.Write does to a Hash. -/
import Derived.Test.YtbdlegjklfkdmaaGreatDoorBallC3
import Derived.Deep.RegionHeld3
import Derived.Deep.RegionWith
import Derived.StillTailTactics
namespace Go.Proofs.YtbdlegjklfkdmaaGreatDoor.Pl
open Go.RowKit


theorem take_cells (x : ByteArray) (k : Nat) : List.take k (List.map (fun (c : UInt8) => Value.int .u8 (c.toNat : Int)) x.data.toList) = u8s ((nums x).take k) := by
  simp only [u8s, nums, List.map_take, List.map_map]; rfl
/-- The cells with c laid over those that wait, from r on. -/
def over (C : Array Value) (r : Nat) (c : List Nat) : Array Value := (C.toList.take (8 + r) ++ u8s c ++ C.toList.drop (8 + r + c.length)).toArray
theorem copy_part (w : World) (b : Nat) (s : S8) (wt : List Nat) (n : Nat) (h : HashAt w b s wt n) (r : Nat) (hr : r < 64) (x : ByteArray) (k : Nat) (hk : k = min x.size (64 - r)) :
    (Builtin.copy_ #[121, 9] 3 #[.slice (some ⟨b, 8 + r, none⟩) (64 - r) (64 - r), .string x]).run Tryz.prog w =
      .ok (goInt k) (w.setRow b (over (hcells s wt n) r ((nums x).take k))) := by
  have hlen : (u8s ((nums x).take k)).length = ((nums x).take k).length := by simp [u8s]
  have hle : ((nums x).take k).length = k := by rw [List.length_take, nums_length]; omega
  have hst := run_storeCells_at Tryz.prog b (8 + r) _ (u8s ((nums x).take k)) 0 _ w h.1 (by rw [hlen, hle, hcells_size n h.2]; omega) (by
    intro v hv
    obtain ⟨_, _, rfl⟩ := List.mem_map.1 hv
    rfl)
  rw [hlen] at hst
  simp only [Nat.add_zero] at hst
  have hs : (sizeOf 5).run Tryz.prog w = .ok 1 w := by kernel_rfl
  have hmin : Nat.min x.size (64 - r) = k := hk.symm
  simp [Builtin.copy_, run_underlying Tryz.underlying121, Builtin.lenOf, Builtin.firstCells, hs, hmin]
  rw [take_cells, hst]
  rfl
theorem HashAt.copied {w : World} {b : Nat} {s : S8} {wt : List Nat} {n : Nat} (h : HashAt w b s wt n) (r : Nat) (c : List Nat) (hr : r + c.length ≤ 64) :
    HashAt (w.setRow b (over (hcells s wt n) r c)) b s (wt.take r ++ c ++ wt.drop (r + c.length)) n := h.setWait r c hr

/-- Block b is a Hash to which m has been written. -/
def Holds (w : World) (b : Nat) (m : List Nat) : Prop := ∃ wt, HashAt w b (st m) wt m.length ∧ wt.take (m.length % 64) = tail m ∧ Bytes wt
/-- Nothing but block b of w has turned. -/
structure But (b : Nat) (w w' : World) : Prop where
  os : w'.os = w.os
  tape : w'.tape = w.tape
  output : w'.output = w.output
  size : w.heap.size ≤ w'.heap.size
  block : ∀ k, k < w.heap.size → k ≠ b → w'.heap[k]? = w.heap[k]?
theorem But.refl (b : Nat) (w : World) : But b w w := ⟨rfl, rfl, rfl, Nat.le_refl _, fun _ _ _ => rfl⟩
theorem But.trans {b : Nat} {u v w : World} (h : But b u v) (k : But b v w) : But b u w :=
  ⟨k.os.trans h.os, k.tape.trans h.tape, k.output.trans h.output, Nat.le_trans h.size k.size, fun i hi hb => (k.block i (Nat.lt_of_lt_of_le hi h.size) hb).trans (h.block i hi hb)⟩
theorem But.of_below {b : Nat} {w w' : World} (h : Below w.heap.size w w') : But b w w' := ⟨h.os, h.tape, h.output, h.size, fun k hk _ => h.block k hk⟩
theorem But.drewN {b : Nat} {w w' : World} (h : But b w w') (n : Nat) : But b w (w'.drewN n) := ⟨h.os, h.tape, h.output, h.size, h.block⟩
theorem But.drew {b : Nat} {w w' : World} (h : But b w w') : But b w w'.drew := ⟨h.os, h.tape, h.output, h.size, h.block⟩
theorem But.setRow {b : Nat} {w w' : World} (h : But b w w') (cs : Array Value) : But b w (w'.setRow b cs) :=
  ⟨h.os, h.tape, h.output, by rw [setRow_size]; exact h.size, fun k hk hb => by rw [setRow_other _ _ _ _ hb]; exact h.block k hk hb⟩
theorem But.setCell {b : Nat} {w w' : World} (h : But b w w') (i : Nat) (v : Value) : But b w (w'.setCell ⟨b, i, none⟩ v) :=
  ⟨h.os, h.tape, h.output, by simp [World.setCell]; exact h.size, fun k hk hb => by rw [heap_setCell_other _ _ _ _ hb]; exact h.block k hk hb⟩
theorem But.setCells {b : Nat} {w : World} : ∀ (vs : List Value) (o : Nat) {w' : World}, But b w w' → But b w (w'.setCells b o vs)
  | [], _, _, h => h
  | v :: r, o, _, h => But.setCells r (o + 1) (h.setCell o v)
theorem But.tab {b : Nat} {w w' : World} (h : But b w w') (hb : 1 < b) (t : Tab w) : Tab w' :=
  ⟨Nat.lt_of_lt_of_le t.1 h.size, fun j hj => by
    have := t.2 j hj
    simp only [World.cell?] at this ⊢
    rw [h.block 1 t.1 (by omega)]; exact this⟩
theorem But.below {b B : Nat} {w0 w w' : World} (h : But b w w') (k : Below B w0 w) (hB : B ≤ b) (hw : B ≤ w.heap.size) : Below B w0 w' :=
  ⟨h.os.trans k.os, h.tape.trans k.tape, h.output.trans k.output, Nat.le_trans k.size h.size, fun i hi => (h.block i (by omega) (by omega)).trans (k.block i hi)⟩

/-- A load whose value is known, as one step of a region that draws. -/
theorem step_load {P : Program} {ops : Array Oper} {o : Oper} {a : Act} {w : World} {K : Act → World → Prop} {Q : Exit → Act → World → Prop} {E : Prop} (hg : o.guard = none) (ty : TypeId) (x : Operand) (ho : o.op = .load ty x)
    (p : Value) (hx : a.eval x = p) (v : Value) (hl : (Instr.loadAt ty p).run P w = .ok v w) (h : K (a.put o.dst v) w) :
    if Region.wanted o (yielded ops a.tmps) = true then Oper.wp P o a w K Q else E := by
  rw [if_pos (by simp [Region.wanted, hg])]
  unfold Oper.wp execOp
  simp only [ho, hx, Sem.run_bind, hl, Result.andThen_ok, Sem.run_pure]
  exact h
set_option maxHeartbeats 1000000 in
set_option maxRecDepth 100000 in
theorem write_any (w : World) (b : Nat) (hb : 1 < b) (m : List Nat) (hm : Bytes m) (s : ByteArray) (hl : m.length + s.size < 2305843009213693952) (hT : Tab w) (h : Holds w b m) :
    Calls Tryz.prog 128 #[.pointer (some ⟨b, 0, none⟩), .string s] w fun e w' => e = .returned (.tuple #[]) ∧ Holds w' b (m ++ nums s) ∧ But b w w' := by
  have HM := Lib.hid hm
  have HT := Lib.hid hT
  clear hm hT
  go_enter Tryz.func128, Tryz.ntmps128
  go_wp2_with fail
  go_loopw [1] (fun sv wr => ∃ (x : ByteArray) (d : List Nat), sv = .string x ∧ Hid (d ++ nums x = nums s) ∧ Hid (Holds wr b (m ++ d)) ∧ Hid (But b w wr)) (fun sv _ => match sv with | .string x => x.size | _ => 0)
  case atStart => exact ⟨s, [], rfl, Lib.hid rfl, Lib.hid (by rw [List.append_nil]; exact h), Lib.hid (But.refl _ _)⟩
  case round =>
    obtain ⟨x, d, rfl, hd, hh, hbw⟩ := hrel
    by_cases hx : x.size = 0
    · obtain rfl : x = ByteArray.empty := ByteArray.size_eq_zero_iff.1 hx
      have hl0 : ByteArray.empty.toList = [] := by rw [ByteArray.toList_eq]; rfl
      go_wp2_with fail
      go_end0
      have hd' : d = nums s := by have := hd.out; simpa [nums] using this
      rw [← hd']
      exact ⟨rfl, hh.out, hbw.out⟩
    · have hl1 : x.toList.isEmpty = false := by
        rw [ByteArray.toList_eq]
        cases h' : x.data.toList with
        | nil => exact absurd (by rw [← nums_length, nums, h']; rfl) hx
        | cons => rfl
      have hd0 := hd.out
      have hlen : d.length + x.size = s.size := by
        have := congrArg List.length hd0
        rwa [List.length_append, nums_length, nums_length] at this
      obtain ⟨wt, hA, htl, hbt⟩ := hh.out
      obtain ⟨N, HN⟩ : ∃ N, Hid (N = (m ++ d).length) := ⟨_, Lib.hid rfl⟩
      obtain ⟨r, hr⟩ : ∃ r, r = N % 64 := ⟨_, rfl⟩
      obtain ⟨k, hk⟩ : ∃ k, k = min x.size (64 - r) := ⟨_, rfl⟩
      have hN : N + x.size < 2305843009213693952 := by rw [HN.out, List.length_append]; omega
      rw [← HN.out] at hA htl
      rw [← hr] at htl
      have hr64 : r < 64 := by omega
      have HN8 := Lib.hid hN
      have hcp := copy_part wr.drew b (st (m ++ d)) wt N hA r hr64 x k hk
      have hk64 : k ≤ 64 := by omega
      have hk1 : 0 < k := by omega
      have hkx : k ≤ x.size := by omega
      have hrk : r + k ≤ 64 := by omega
      have hsl := slice64 b 8 r hr64 .u64 (r : Int) rfl
      have hmod : Int.tmod (N : Int) 64 = (r : Int) := by rw [Int.tmod_eq_emod_of_nonneg (by omega)]; omega
      have hmod2 : (N : Int) % 64 = (r : Int) := by omega
      have HR := Lib.hid hr
      have HK := Lib.hid hk
      have HA := Lib.hid hA
      have HTL := Lib.hid htl
      have HBT := Lib.hid hbt
      have HLN := Lib.hid hlen
      have HS := Lib.hid hl
      have HX := Lib.hid hx
      have HNN := Lib.hid hN
      obtain ⟨c72, f72⟩ := hA.size
      have hgo : goInt k = .int .i64 (k : Int) := rfl
      have hck : ((nums x).take k).length = k := by rw [List.length_take, nums_length]; omega
      have hV : HashAt (wr.drew.setRow b (over (hcells (st (m ++ d)) wt N) r ((nums x).take k))) b (st (m ++ d)) (wt.take r ++ (nums x).take k ++ wt.drop (r + k)) N := by
        have := HashAt.copied (w := wr.drew) HA.out r ((nums x).take k) (by omega)
        rwa [hck] at this
      have hbV : But b w (wr.drew.setRow b (over (hcells (st (m ++ d)) wt N) r ((nums x).take k))) := (hbw.out.drew).setRow _
      obtain ⟨V, eV⟩ : ∃ V, V = wr.drew.setRow b (over (hcells (st (m ++ d)) wt N) r ((nums x).take k)) := ⟨_, rfl⟩
      rw [← eV] at hV hbV hcp
      have HV := Lib.hid hV
      have HBV := Lib.hid hbV
      have HCK := Lib.hid hck
      obtain ⟨d72, e72⟩ := hV.size
      have hw1 : IntKind.u64.wrap (k : Int) = k := by rw [IntKind.wrap_u64]; omega
      have hi0 : (0 : Int) ≤ (k : Int) := by omega
      have hi1 : (k : Int) ≤ (x.size : Int) := by omega
      clear hN hr hk hA htl hbt hlen hl hd0 h hh hx hV hbV eV hck
      go_wp2_with fail
      go_still_tail 10, (by kernel_rfl)
      change wpList _ _ _ _ _ wr.drew
      obtain ⟨M, eM⟩ : ∃ M, M = N + k := ⟨_, rfl⟩
      have EM := Lib.hid eM
      have hwr : IntKind.u64.wrap ((N : Int) + (k : Int)) = (M : Int) := by
        have := HN8.out
        rw [IntKind.wrap_u64, EM.out]; omega
      have hML : Hid (M = (m ++ (d ++ (nums x).take k)).length) := Lib.hid (by rw [← List.append_assoc, List.length_append, ← HN.out, HCK.out]; exact EM.out)
      have hnx : nums (x.extract k x.size) = (nums x).drop k := by
        have : (nums x).drop k = ((nums x).drop k).take (x.size - k) := by
          rw [List.take_of_length_le]
          rw [List.length_drop, nums_length]; exact Nat.le_refl _
        rw [this]
        simp [nums, ByteArray.data_extract, List.map_drop]
      have HNX := Lib.hid hnx
      have hdn : Hid ((d ++ (nums x).take k) ++ nums (x.extract k x.size) = nums s) := Lib.hid (by rw [HNX.out, List.append_assoc, List.take_append_drop]; exact hd.out)
      have hms : Hid ((x.extract k x.size).size < x.size) := Lib.hid (by simp; omega)
      have HU := Lib.hid (HV.out.setSize M)
      have HBU := Lib.hid (HBV.out.setCell 72 (.int .u64 (M : Int)))
      clear eM hnx
      have HRK : Hid (r = N % 64) := HR
      have hbc : Bytes ((nums x).take k) := (nums_bytes x).take k
      have hbd : Bytes (List.take r wt ++ List.take k (nums x) ++ List.drop (r + k) wt) := ((HBT.out.take r).append hbc).append (HBT.out.drop _)
      have HBD := Lib.hid hbd
      clear hbd hbc
      have hr' : Hid ((m ++ d).length % 64 = r) := Lib.hid (by rw [← HN.out]; exact HR.out.symm)
      by_cases hf : r + k = 64
      · have hq1 : ((M : Nat) : Int).tmod 64 = 0 := by rw [Int.tmod_eq_emod_of_nonneg (by omega), EM.out]; have := HR.out; omega
        have hq2 : ((M : Nat) : Int) % 64 = 0 := by rw [EM.out]; have := HR.out; omega
        obtain ⟨wt', hwt⟩ : ∃ wt', wt' = List.take r wt ++ List.take k (nums x) ++ List.drop (r + k) wt := ⟨_, rfl⟩
        rw [← hwt] at HU HBD
        have HWT := Lib.hid hwt
        clear hwt
        have hU := HU.out
        have hs35 : (Tryz.prog.info? 161).map (·.size) = some ((st (m ++ d)).list.map fun (x : Nat) => Value.int .u32 (x : Int)).length := by rw [List.length_map]; kernel_rfl
        have hs39 : (Tryz.prog.info? 119).map (·.size) = some (wt'.map fun (x : Nat) => Value.int .u8 (x : Int)).length := by rw [List.length_map, hU.2]; kernel_rfl
        obtain ⟨U, eU⟩ : ∃ U, U = V.setCell ⟨b, 72, none⟩ (.int .u64 (M : Int)) := ⟨_, rfl⟩
        rw [← eU] at HU HBU hU
        have hl1 := run_loadAt_mid (P := Tryz.prog) U.drew b 0 161 _ _ ((World.rangeAt_drew _ _ _ _).2 hU.state) Tryz.underlying161 rfl hs35
        have hl2 := run_loadAt_mid (P := Tryz.prog) U.drew b 8 119 _ _ ((World.rangeAt_drew _ _ _ _).2 hU.wait) Tryz.underlying119 rfl hs39
        have HL1 := Lib.hid hl1
        have HL2 := Lib.hid hl2
        have HEU := Lib.hid eU
        clear hl1 hl2 eU hs35 hs39 hU
        go_wp2_with fail
        rw [← HEU.out]
        have hproc : Calls Tryz.prog 144 #[.agg ((st (m ++ d)).list.map fun (x : Nat) => Value.int .u32 (x : Int)).toArray, .agg (wt'.map fun (x : Nat) => Value.int .u8 (x : Int)).toArray] U.drew fun e w' => e = .returned (.agg ((proc (st (m ++ d)) wt').list.map fun (x : Nat) => Value.int .u32 (x : Int)).toArray) ∧ Below U.drew.heap.size U.drew w' :=
          process_any (st (m ++ d)) (ab_fits _ _) wt' HU.out.2 (fun j => HBD.out.at j) U.drew (show Tab U from HBU.out.tab hb HT.out)
        have HP := Lib.hid hproc
        have hs8 : (Tryz.prog.info? 161).map (·.size) = some (((proc (st (m ++ d)) wt').list.map fun (x : Nat) => Value.int .u32 (x : Int)).toArray).size := by rw [List.size_toArray, List.length_map]; kernel_rfl
        have HS8 := Lib.hid hs8
        have h1c : (((proc (st (m ++ d)) wt').list.map fun (x : Nat) => Value.int .u32 (x : Int)).toArray).all (·.oneCell') = true := row_one _ _
        have H1C := Lib.hid h1c
        clear hproc hs8 h1c
        have hwt2 : Hid (wt' = tail (m ++ d) ++ (nums x).take k) := Lib.hid (by rw [HWT.out, hf, List.drop_of_length_le (by rw [HA.out.2]; omega), List.append_nil, HTL.out])
        have hfull : Hid ((m ++ d).length % 64 + ((nums x).take k).length = 64) := Lib.hid (by rw [HCK.out, hr'.out]; exact hf)
        have hm0 : Hid ((m ++ (d ++ (nums x).take k)).length % 64 = 0) := Lib.hid (by rw [← hML.out, EM.out]; have := HR.out; omega)
        refine wp_region_any (by kernel_rfl) ?_
        change wpAny _ _ _ _ _ _ _ (World.drew U)
        refine wpAny_take (i := 0) (oi := { dst := some 38, op := Op.move (Operand.tmp 0), type := 123, pos := "sha.go:57", after := #[], guard := none }) (v := .pointer (some ⟨b, 0, none⟩)) rfl (by kernel_rfl) (by kernel_rfl) (by kernel_rfl) (fun _ _ _ h => h) (Or.inl ⟨by rfl, fun w => by go_simp⟩) ?_
        refine wpAny_take (i := 1) (oi := { dst := some 39, op := Op.move (Operand.tmp 0), type := 123, pos := "sha.go:57", after := #[], guard := none }) (v := .pointer (some ⟨b, 0, none⟩)) rfl (by kernel_rfl) (by kernel_rfl) (by kernel_rfl) (fun _ _ _ h => h) (Or.inl ⟨by rfl, fun w => by go_simp⟩) ?_
        refine wpAny_take (i := 2) (oi := { dst := some 40, op := Op.nilCheck (Operand.tmp 39), type := 0, pos := "sha.go:57", after := #[{ on := 1, ground := Ground.data }], guard := none }) (v := .pointer (some ⟨b, 0, none⟩)) rfl (by kernel_rfl) (by kernel_rfl) (by kernel_rfl) (fun _ _ _ h => h) (Or.inl ⟨by rfl, fun w => by go_simp⟩) ?_
        refine wpAny_take (i := 3) (oi := { dst := some 41, op := Op.fieldAddr 163 (Operand.tmp 40) 0, type := 0, pos := "sha.go:57", after := #[{ on := 2, ground := Ground.data }], guard := none }) (v := .pointer (some ⟨b, 0, none⟩)) rfl (by kernel_rfl) (by kernel_rfl) (by kernel_rfl) (fun _ _ _ h => h) (Or.inl ⟨by rfl, fun w => by go_simp⟩) ?_
        refine wpAny_take (i := 5) (oi := { dst := some 43, op := Op.move (Operand.tmp 0), type := 123, pos := "sha.go:57", after := #[], guard := none }) (v := .pointer (some ⟨b, 0, none⟩)) rfl (by kernel_rfl) (by kernel_rfl) (by kernel_rfl) (fun _ _ _ h => h) (Or.inl ⟨by rfl, fun w => by go_simp⟩) ?_
        refine wpAny_take (i := 6) (oi := { dst := some 44, op := Op.nilCheck (Operand.tmp 43), type := 0, pos := "sha.go:57", after := #[{ on := 5, ground := Ground.data }], guard := none }) (v := .pointer (some ⟨b, 0, none⟩)) rfl (by kernel_rfl) (by kernel_rfl) (by kernel_rfl) (fun _ _ _ h => h) (Or.inl ⟨by rfl, fun w => by go_simp⟩) ?_
        refine wpAny_take (i := 7) (oi := { dst := some 45, op := Op.fieldAddr 163 (Operand.tmp 44) 1, type := 0, pos := "sha.go:57", after := #[{ on := 6, ground := Ground.data }], guard := none }) (v := .pointer (some ⟨b, 8, none⟩)) rfl (by kernel_rfl) (by kernel_rfl) (by kernel_rfl) (fun _ _ _ h => h) (Or.inl ⟨by rfl, fun w => by go_simp⟩) ?_
        simp only [Act.put, List.setIfInBounds_toArray, List.set_cons_zero, List.set_cons_succ]
        refine wpAny_ready (rs := [4, 8]) (by kernel_rfl) (by simp) ?_
        refine AllReady.cons (o := { dst := some 42, op := Op.load 161 (Operand.tmp 41), type := 161, pos := "sha.go:57", after := #[{ on := 3, ground := Ground.data }], guard := none }) rfl (fun K hK => ?_) ?_
        · refine step_load rfl 161 _ rfl (.pointer (some ⟨b, 0, none⟩)) rfl _ HL1.out ?_
          refine hK _ _ ?_
          clear hK K
          simp only [Act.put, List.setIfInBounds_toArray, List.set_cons_zero, List.set_cons_succ]
          refine wpAny_ready (rs := [8]) (by kernel_rfl) (by simp) ?_
          refine AllReady.cons (o := { dst := some 46, op := Op.load 119 (Operand.tmp 45), type := 119, pos := "sha.go:57", after := #[{ on := 7, ground := Ground.data }], guard := none }) rfl (fun K hK => ?_) AllReady.nil
          refine step_load rfl 119 _ rfl (.pointer (some ⟨b, 8, none⟩)) rfl _ HL2.out ?_
          refine hK _ _ ?_
          clear hK K
          simp only [Act.put, List.setIfInBounds_toArray, List.set_cons_zero, List.set_cons_succ]
          refine wpAny_ready (rs := [9]) (by kernel_rfl) (by simp) ?_
          refine AllReady.cons (o := { dst := some 47, op := Op.call { callee := Callee.value (Operand.func 144), args := #[Operand.tmp 42, Operand.tmp 46], argTypes := #[161, 119] }, type := 161, pos := "sha.go:57", after := #[{ on := 4, ground := Ground.data }, { on := 8, ground := Ground.data }], guard := none }) rfl (fun K hK => ?_) AllReady.nil
          go_simp
          refine HP.out.mono ?_
          rintro e w6 ⟨rfl, hb6⟩
          refine hK _ _ ?_
          clear hK K
          (try simp only [Act.put, List.setIfInBounds_toArray, List.set_cons_zero, List.set_cons_succ])
          refine wpAny_take (i := 10) (oi := { dst := some 48, op := Op.nilCheck (Operand.tmp 38), type := 0, pos := "sha.go:57", after := #[{ on := 0, ground := Ground.data }, { on := 0, ground := Ground.phase }, { on := 1, ground := Ground.phase }, { on := 2, ground := Ground.phase }, { on := 3, ground := Ground.phase }, { on := 4, ground := Ground.phase }, { on := 5, ground := Ground.phase }, { on := 6, ground := Ground.phase }, { on := 7, ground := Ground.phase }, { on := 8, ground := Ground.phase }, { on := 9, ground := Ground.phase }], guard := none }) (v := .pointer (some ⟨b, 0, none⟩)) rfl (by kernel_rfl) (by kernel_rfl) (by kernel_rfl) (fun _ _ _ h => h) (Or.inl ⟨by rfl, fun w => by go_simp⟩) ?_
          refine wpAny_take (i := 11) (oi := { dst := some 49, op := Op.fieldAddr 163 (Operand.tmp 48) 0, type := 0, pos := "sha.go:57", after := #[{ on := 10, ground := Ground.data }, { on := 0, ground := Ground.phase }, { on := 1, ground := Ground.phase }, { on := 2, ground := Ground.phase }, { on := 3, ground := Ground.phase }, { on := 4, ground := Ground.phase }, { on := 5, ground := Ground.phase }, { on := 6, ground := Ground.phase }, { on := 7, ground := Ground.phase }, { on := 8, ground := Ground.phase }, { on := 9, ground := Ground.phase }], guard := none }) (v := .pointer (some ⟨b, 0, none⟩)) rfl (by kernel_rfl) (by kernel_rfl) (by kernel_rfl) (fun _ _ _ h => h) (Or.inl ⟨by rfl, fun w => by go_simp⟩) ?_
          simp only [Act.put, List.setIfInBounds_toArray, List.set_cons_zero, List.set_cons_succ]
          refine wpAny_ready (rs := [12]) (by kernel_rfl) (by simp) ?_
          refine AllReady.cons (o := { dst := none, op := Op.store 161 (Operand.tmp 49) (Operand.tmp 47), type := 0, pos := "sha.go:57", after := #[{ on := 11, ground := Ground.data }, { on := 9, ground := Ground.data }, { on := 9, ground := Ground.chain }, { on := 0, ground := Ground.phase }, { on := 1, ground := Ground.phase }, { on := 2, ground := Ground.phase }, { on := 3, ground := Ground.phase }, { on := 4, ground := Ground.phase }, { on := 5, ground := Ground.phase }, { on := 6, ground := Ground.phase }, { on := 7, ground := Ground.phase }, { on := 8, ground := Ground.phase }, { on := 9, ground := Ground.phase }], guard := none }) rfl (fun K hK => ?_) AllReady.nil
          rw [if_pos (by rfl)]
          have hA6 : HashAt w6 b (st (m ++ d)) wt' M := HashAt.below (w := U.drew) HU.out hb6
          refine wp_store_mid 161 _ _ rfl b 0 ((proc (st (m ++ d)) wt').list.map fun (x : Nat) => Value.int .u32 (x : Int)).toArray rfl rfl (hA6.there 0 _ (by simp [S8.list])) HS8.out H1C.out ?_
          refine hK _ _ ?_
          clear hK K
          refine wpAny_done (by kernel_rfl) ?_ _
          have HH : Hid (Holds (w6.setCells b 0 ((proc (st (m ++ d)) wt').list.map fun (x : Nat) => Value.int .u32 (x : Int))) b (m ++ (d ++ (nums x).take k))) := Lib.hid (by
            refine ⟨wt', ?_, ?_, HBD.out⟩
            · rw [← hML.out, ← List.append_assoc, st_full _ _ hfull.out, ← hwt2.out]; exact hA6.setState _
            · rw [hm0.out, ← List.append_assoc, tail_full _ _ hfull.out]; rfl)
          have HB6 : Hid (But b w (w6.setCells b 0 ((proc (st (m ++ d)) wt').list.map fun (x : Nat) => Value.int .u32 (x : Int)))) := Lib.hid (But.setCells _ _ ((HBU.out.drew).trans (But.of_below hb6)))
          rw [List.toList_toArray]
          generalize w6.setCells b 0 _ = W7 at *
          clear hA6 hb6
          simp only [Act.put]
          go_wp2_with fail
          exact ⟨⟨_, _, rfl, hdn, HH, HB6⟩, hms.out⟩
        · refine AllReady.cons (o := { dst := some 46, op := Op.load 119 (Operand.tmp 45), type := 119, pos := "sha.go:57", after := #[{ on := 7, ground := Ground.data }], guard := none }) rfl (fun K hK => ?_) AllReady.nil
          refine step_load rfl 119 _ rfl (.pointer (some ⟨b, 8, none⟩)) rfl _ HL2.out ?_
          refine hK _ _ ?_
          clear hK K
          simp only [Act.put, List.setIfInBounds_toArray, List.set_cons_zero, List.set_cons_succ]
          refine wpAny_ready (rs := [4]) (by kernel_rfl) (by simp) ?_
          refine AllReady.cons (o := { dst := some 42, op := Op.load 161 (Operand.tmp 41), type := 161, pos := "sha.go:57", after := #[{ on := 3, ground := Ground.data }], guard := none }) rfl (fun K hK => ?_) AllReady.nil
          refine step_load rfl 161 _ rfl (.pointer (some ⟨b, 0, none⟩)) rfl _ HL1.out ?_
          refine hK _ _ ?_
          clear hK K
          simp only [Act.put, List.setIfInBounds_toArray, List.set_cons_zero, List.set_cons_succ]
          refine wpAny_ready (rs := [9]) (by kernel_rfl) (by simp) ?_
          refine AllReady.cons (o := { dst := some 47, op := Op.call { callee := Callee.value (Operand.func 144), args := #[Operand.tmp 42, Operand.tmp 46], argTypes := #[161, 119] }, type := 161, pos := "sha.go:57", after := #[{ on := 4, ground := Ground.data }, { on := 8, ground := Ground.data }], guard := none }) rfl (fun K hK => ?_) AllReady.nil
          go_simp
          refine HP.out.mono ?_
          rintro e w6 ⟨rfl, hb6⟩
          refine hK _ _ ?_
          clear hK K
          (try simp only [Act.put, List.setIfInBounds_toArray, List.set_cons_zero, List.set_cons_succ])
          refine wpAny_take (i := 10) (oi := { dst := some 48, op := Op.nilCheck (Operand.tmp 38), type := 0, pos := "sha.go:57", after := #[{ on := 0, ground := Ground.data }, { on := 0, ground := Ground.phase }, { on := 1, ground := Ground.phase }, { on := 2, ground := Ground.phase }, { on := 3, ground := Ground.phase }, { on := 4, ground := Ground.phase }, { on := 5, ground := Ground.phase }, { on := 6, ground := Ground.phase }, { on := 7, ground := Ground.phase }, { on := 8, ground := Ground.phase }, { on := 9, ground := Ground.phase }], guard := none }) (v := .pointer (some ⟨b, 0, none⟩)) rfl (by kernel_rfl) (by kernel_rfl) (by kernel_rfl) (fun _ _ _ h => h) (Or.inl ⟨by rfl, fun w => by go_simp⟩) ?_
          refine wpAny_take (i := 11) (oi := { dst := some 49, op := Op.fieldAddr 163 (Operand.tmp 48) 0, type := 0, pos := "sha.go:57", after := #[{ on := 10, ground := Ground.data }, { on := 0, ground := Ground.phase }, { on := 1, ground := Ground.phase }, { on := 2, ground := Ground.phase }, { on := 3, ground := Ground.phase }, { on := 4, ground := Ground.phase }, { on := 5, ground := Ground.phase }, { on := 6, ground := Ground.phase }, { on := 7, ground := Ground.phase }, { on := 8, ground := Ground.phase }, { on := 9, ground := Ground.phase }], guard := none }) (v := .pointer (some ⟨b, 0, none⟩)) rfl (by kernel_rfl) (by kernel_rfl) (by kernel_rfl) (fun _ _ _ h => h) (Or.inl ⟨by rfl, fun w => by go_simp⟩) ?_
          simp only [Act.put, List.setIfInBounds_toArray, List.set_cons_zero, List.set_cons_succ]
          refine wpAny_ready (rs := [12]) (by kernel_rfl) (by simp) ?_
          refine AllReady.cons (o := { dst := none, op := Op.store 161 (Operand.tmp 49) (Operand.tmp 47), type := 0, pos := "sha.go:57", after := #[{ on := 11, ground := Ground.data }, { on := 9, ground := Ground.data }, { on := 9, ground := Ground.chain }, { on := 0, ground := Ground.phase }, { on := 1, ground := Ground.phase }, { on := 2, ground := Ground.phase }, { on := 3, ground := Ground.phase }, { on := 4, ground := Ground.phase }, { on := 5, ground := Ground.phase }, { on := 6, ground := Ground.phase }, { on := 7, ground := Ground.phase }, { on := 8, ground := Ground.phase }, { on := 9, ground := Ground.phase }], guard := none }) rfl (fun K hK => ?_) AllReady.nil
          rw [if_pos (by rfl)]
          have hA6 : HashAt w6 b (st (m ++ d)) wt' M := HashAt.below (w := U.drew) HU.out hb6
          refine wp_store_mid 161 _ _ rfl b 0 ((proc (st (m ++ d)) wt').list.map fun (x : Nat) => Value.int .u32 (x : Int)).toArray rfl rfl (hA6.there 0 _ (by simp [S8.list])) HS8.out H1C.out ?_
          refine hK _ _ ?_
          clear hK K
          refine wpAny_done (by kernel_rfl) ?_ _
          have HH : Hid (Holds (w6.setCells b 0 ((proc (st (m ++ d)) wt').list.map fun (x : Nat) => Value.int .u32 (x : Int))) b (m ++ (d ++ (nums x).take k))) := Lib.hid (by
            refine ⟨wt', ?_, ?_, HBD.out⟩
            · rw [← hML.out, ← List.append_assoc, st_full _ _ hfull.out, ← hwt2.out]; exact hA6.setState _
            · rw [hm0.out, ← List.append_assoc, tail_full _ _ hfull.out]; rfl)
          have HB6 : Hid (But b w (w6.setCells b 0 ((proc (st (m ++ d)) wt').list.map fun (x : Nat) => Value.int .u32 (x : Int)))) := Lib.hid (But.setCells _ _ ((HBU.out.drew).trans (But.of_below hb6)))
          rw [List.toList_toArray]
          generalize w6.setCells b 0 _ = W7 at *
          clear hA6 hb6
          simp only [Act.put]
          go_wp2_with fail
          exact ⟨⟨_, _, rfl, hdn, HH, HB6⟩, hms.out⟩
      · have hq1 : ((M : Nat) : Int).tmod 64 = ((r + k : Nat) : Int) := by rw [Int.tmod_eq_emod_of_nonneg (by omega), EM.out]; have := HR.out; omega
        have hq2 : ((M : Nat) : Int) % 64 = ((r + k : Nat) : Int) := by rw [EM.out]; have := HR.out; omega
        have hq3 : (((r + k : Nat) : Int) == 0) = false := by simp; omega
        have hlt : (m ++ d).length % 64 + ((nums x).take k).length < 64 := by rw [HCK.out, hr'.out]; omega
        have HH : Hid (Holds (V.setCell ⟨b, 72, none⟩ (.int .u64 (M : Int))) b (m ++ (d ++ (nums x).take k))) := Lib.hid (by
          refine ⟨_, ?_, ?_, HBD.out⟩
          · rw [← hML.out, ← List.append_assoc, st_part _ _ hlt]; exact HU.out
          · rw [← List.append_assoc, tail_part _ _ hlt, ← HTL.out, List.length_append, HCK.out, ← HN.out]
            have h1 : (N + k) % 64 = r + k := by have := HR.out; omega
            rw [h1, List.take_append_of_le_length (by rw [List.length_append, HCK.out, List.length_take, HA.out.2]; omega)]
            exact List.take_of_length_le (by rw [List.length_append, HCK.out, List.length_take, HA.out.2]; omega))
        clear hlt
        go_wp2_with fail
        exact ⟨⟨_, _, rfl, hdn, HH, HBU⟩, hms.out⟩
end Go.Proofs.YtbdlegjklfkdmaaGreatDoor.Pl
