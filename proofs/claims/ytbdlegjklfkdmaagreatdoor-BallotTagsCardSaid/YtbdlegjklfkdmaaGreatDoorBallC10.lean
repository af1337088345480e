/- What the document's Sum answers. -/
import Derived.Test.YtbdlegjklfkdmaaGreatDoorBallC3
import Derived.Test.YtbdlegjklfkdmaaGreatDoorBallC8
import Derived.Test.YtbdlegjklfkdmaaGreatDoorBallC5
import Derived.Deep.RegionLaw
import Derived.Deep.AppendLies
namespace Go.Proofs.YtbdlegjklfkdmaaGreatDoor.Pl
open Go.RowKit

theorem bytesOf_size_r (l : List Nat) : (bytesOf l).size = l.length := by simp [bytesOf, ByteArray.size]
theorem nums_bytesOf_r {l : List Nat} (h : Bytes l) : nums (bytesOf l) = l := by
  simp only [nums, bytesOf, List.map_map]
  conv => rhs; rw [← List.map_id l]
  refine List.map_congr_left fun x hx => ?_
  have := h x hx
  simp; omega
theorem nums_extract (P : ByteArray) (a b : Nat) : nums (P.extract a b) = ((nums P).drop a).take (b - a) := by
  simp [nums, ByteArray.data_extract, List.map_drop, List.map_take]
theorem outs_next (q : S8) (k : Nat) (h : k < 8) : (outs q).take (4 * (k + 1)) = (outs q).take (4 * k) ++ [q.list.getD k 0 / 16777216 % 256, q.list.getD k 0 / 65536 % 256, q.list.getD k 0 / 256 % 256, q.list.getD k 0 % 256] := by
  have e0 : (outs q).getD (4 * k) 0 = q.list.getD k 0 / 16777216 % 256 := by
    rw [outs_at q _ (by omega), outAt, show 4 * k / 4 = k by omega, show 3 - 4 * k % 4 = 3 by omega]
  have e1 : (outs q).getD (4 * k + 1) 0 = q.list.getD k 0 / 65536 % 256 := by
    rw [outs_at q _ (by omega), outAt, show (4 * k + 1) / 4 = k by omega, show 3 - (4 * k + 1) % 4 = 2 by omega]
  have e2 : (outs q).getD (4 * k + 2) 0 = q.list.getD k 0 / 256 % 256 := by
    rw [outs_at q _ (by omega), outAt, show (4 * k + 2) / 4 = k by omega, show 3 - (4 * k + 2) % 4 = 1 by omega]
  have e3 : (outs q).getD (4 * k + 3) 0 = q.list.getD k 0 % 256 := by
    rw [outs_at q _ (by omega), outAt, show (4 * k + 3) / 4 = k by omega, show 3 - (4 * k + 3) % 4 = 0 by omega, Nat.mul_zero, Nat.pow_zero, Nat.div_one]
  rw [show 4 * (k + 1) = 4 * k + 1 + 1 + 1 + 1 by omega, take_next _ _ (by rw [outs_length]; omega), take_next _ _ (by rw [outs_length]; omega), take_next _ _ (by rw [outs_length]; omega), take_next _ _ (by rw [outs_length]; omega), e0, e1, e2, e3]
  simp
set_option maxHeartbeats 1000000 in
set_option maxRecDepth 100000 in
theorem refsum_any (s : ByteArray) (hs : s.size ≤ 900000) (w : World) :
    Calls Tryz.prog 132 #[.string s] w fun e w' => e = .returned (.string (bytesOf (digest (nums s)))) ∧ Below w.heap.size w w' := by
  obtain ⟨p, ep⟩ : ∃ p, p = padded (nums s) := ⟨_, rfl⟩
  have HP := padded_any s hs
  rw [← ep] at HP
  have hbp : Bytes p := by rw [ep]; exact Bytes.padded (nums_bytes s)
  have hmod : p.length % 64 = 0 := by rw [ep]; exact padded_mod _
  have hle : p.length ≤ 910000 := by rw [ep, padded_length, nums_length]; have := zs_le s.size; omega
  have hab : ab p (p.length / 64) = fin (nums s) := by rw [ep]; exact ab_padded _
  have hps := bytesOf_size_r p
  have hnp := nums_bytesOf_r hbp
  generalize bytesOf p = P at HP hps hnp
  have HP := Lib.hid HP
  have HBP := Lib.hid hbp
  have HAB := Lib.hid hab
  have HMOD := Lib.hid hmod
  have HPS := Lib.hid hps
  have HNP := Lib.hid hnp
  clear ep hbp hab hmod hps hnp
  go_enter Tryz.func132, Tryz.ntmps132
  go_wp2_with fail
  refine (HP.out _).mono ?_; rintro e w1 ⟨rfl, hb1⟩
  go_wp2_with fail
  have HG := Lib.hid (show (w1.alloc (.cells (row .u32 S0.list) 161)).heap[w1.heap.size]? = some (.cells (row .u32 S0.list) 161 (0, 0)) from Go.heap_alloc_new _ _)
  have HB := Lib.hid (hb1.alloc hb1.size (.cells (row .u32 S0.list) 161))
  have HGE : Hid (w.heap.size ≤ w1.heap.size) := Lib.hid hb1.size
  clear hb1
  change Code.wp _ _ _ _ (w1.alloc (.cells (row .u32 S0.list) 161))
  obtain ⟨g, eg⟩ : ∃ g, g = w1.heap.size := ⟨_, rfl⟩
  rw [← eg] at HG HGE ⊢
  generalize w1.alloc (.cells (row .u32 S0.list) 161) = W at *
  clear eg
  go_loopw [5] (fun i wr => ∃ k : Nat, 64 * k ≤ p.length ∧ i = .int .i64 ((64 * k : Nat) : Int) ∧ Hid (wr.heap[g]? = some (.cells (row .u32 (ab p k).list) 161 (0, 0))) ∧ Hid (Below w.heap.size w wr)) (fun i _ => p.length - (intOf i).toNat)
  case atStart => exact ⟨0, by omega, rfl, HG, HB⟩
  case round =>
    clear HG HB
    obtain ⟨k, hk, rfl, HR, hbw⟩ := hrel
    obtain ⟨a, ea⟩ : ∃ a, a = 64 * k := ⟨_, rfl⟩
    rw [← ea]
    by_cases hlt : a < p.length
    · obtain ⟨b, eb⟩ : ∃ b, b = a + 64 := ⟨_, rfl⟩
      have hbl : b ≤ p.length := by have := HMOD.out; omega
      have hab1 : ((a : Nat) : Int) + 64 = (b : Int) := by omega
      have hsz : (P.extract a b).size = 64 := by have := HPS.out; simp; omega
      have hnx : nums (P.extract a b) = (p.drop (64 * k)).take 64 := by rw [nums_extract, HNP.out, ea, show b - 64 * k = 64 by omega]
      have HNX := Lib.hid hnx
      have hl1 : (0 : Int) ≤ (a : Int) := by omega
      have hl2 : (a : Int) ≤ (b : Int) := by omega
      have hl3 : (b : Int) ≤ (P.size : Int) := by have := HPS.out; omega
      have hl4 : (a : Int) < (P.size : Int) := by have := HPS.out; omega
      have HTK := Lib.hid (took_any (ab p k) (ab_fits _ _) (P.extract a b) hsz wr.drew)
      have hs8 : (Tryz.prog.info? 161).map (·.size) = some (row .u32 (ab p k).list).size := by rw [row_size]; kernel_rfl
      have hs8' : (Tryz.prog.info? 161).map (·.size) = some (row .u32 (proc (ab p k) (nums (P.extract a b))).list).size := by rw [row_size]; kernel_rfl
      have HS8 := Lib.hid hs8
      have HS8' := Lib.hid hs8'
      have HSZ := Lib.hid hsz
      have hwb : IntKind.i64.wrap (b : Int) = b := by rw [IntKind.wrap_i64]; omega
      clear hs8 hs8' hnx hsz
      have EA := Lib.hid ea
      have EB := Lib.hid eb
      clear ea eb
      go_wp2_with fail
      refine wp_region_any (by kernel_rfl) ?_
      change wpAny _ _ _ _ _ _ _ (World.drew wr)
      refine wpAny_take (i := 1) (oi := { dst := some 18, op := Op.move (Operand.tmp 3), type := 9, pos := "ref.go:68", after := #[], guard := none }) (v := .string P) rfl (by kernel_rfl) (by kernel_rfl) (by kernel_rfl) (fun _ _ _ h => h) (Or.inl ⟨by rfl, fun w => by go_simp⟩) ?_
      (try simp only [Act.put, List.setIfInBounds_toArray, List.set_cons_zero, List.set_cons_succ])
      refine wpAny_take (i := 2) (oi := { dst := some 19, op := Op.move (Operand.tmp 5), type := 3, pos := "ref.go:68", after := #[], guard := none }) (v := .int .i64 (a : Nat)) rfl (by kernel_rfl) (by kernel_rfl) (by kernel_rfl) (fun _ _ _ h => h) (Or.inl ⟨by rfl, fun w => by go_simp⟩) ?_
      (try simp only [Act.put, List.setIfInBounds_toArray, List.set_cons_zero, List.set_cons_succ])
      refine wpAny_take (i := 3) (oi := { dst := some 20, op := Op.move (Operand.tmp 5), type := 3, pos := "ref.go:68", after := #[], guard := none }) (v := .int .i64 (a : Nat)) rfl (by kernel_rfl) (by kernel_rfl) (by kernel_rfl) (fun _ _ _ h => h) (Or.inl ⟨by rfl, fun w => by go_simp⟩) ?_
      (try simp only [Act.put, List.setIfInBounds_toArray, List.set_cons_zero, List.set_cons_succ])
      refine wpAny_take (i := 4) (oi := { dst := some 21, op := Op.binOp BinOp.add 3 (Operand.tmp 20) (Operand.const (Value.int IntKind.i64 64)) 3, type := 3, pos := "ref.go:68", after := #[{ on := 3, ground := Ground.data }], guard := none }) (v := .int .i64 (b : Nat)) rfl (by kernel_rfl) (by kernel_rfl) (by kernel_rfl) (fun _ _ _ h => h) (Or.inl ⟨by rfl, fun w => by go_simp⟩) ?_
      (try simp only [Act.put, List.setIfInBounds_toArray, List.set_cons_zero, List.set_cons_succ])
      refine wpAny_take (i := 5) (oi := { dst := some 22, op := Op.slice 9 (Operand.tmp 18) (some (Operand.tmp 19)) (some (Operand.tmp 21)) none, type := 9, pos := "ref.go:68", after := #[{ on := 1, ground := Ground.data }, { on := 2, ground := Ground.data }, { on := 4, ground := Ground.data }], guard := none }) (v := .string (P.extract a b)) rfl (by kernel_rfl) (by kernel_rfl) (by kernel_rfl) (fun _ _ _ h => h) (Or.inl ⟨by rfl, fun w => by go_simp⟩) ?_
      (try simp only [Act.put, List.setIfInBounds_toArray, List.set_cons_zero, List.set_cons_succ])
      refine wpAny_ready (rs := [0]) (by kernel_rfl) (by simp) ?_
      refine AllReady.cons (o := { dst := some 17, op := Op.load 161 (Operand.tmp 4), type := 161, pos := "ref.go:68", after := #[], guard := none }) rfl (fun K hK => ?_) AllReady.nil
      rw [if_pos (by rfl)]
      refine wp_load_row 161 _ rfl g rfl 161 _ _ _ HR.out Tryz.underlying161 rfl HS8.out ?_
      refine hK _ _ ?_
      clear hK K
      (try simp only [Act.put, List.setIfInBounds_toArray, List.set_cons_zero, List.set_cons_succ])
      refine wpAny_ready (rs := [6]) (by kernel_rfl) (by simp) ?_
      refine AllReady.cons (o := { dst := some 23, op := Op.call { callee := Callee.value (Operand.func 146), args := #[Operand.tmp 17, Operand.tmp 22], argTypes := #[161, 9] }, type := 161, pos := "ref.go:68", after := #[{ on := 0, ground := Ground.data }, { on := 5, ground := Ground.data }], guard := none }) rfl (fun K hK => ?_) AllReady.nil
      go_simp
      refine HTK.out.mono ?_
      rintro e w2 ⟨rfl, hb2⟩
      refine hK _ _ ?_
      clear hK K
      (try simp only [Act.put, List.setIfInBounds_toArray, List.set_cons_zero, List.set_cons_succ])
      refine wpAny_ready (rs := [7]) (by kernel_rfl) (by simp) ?_
      refine AllReady.cons (o := { dst := none, op := Op.store 161 (Operand.tmp 4) (Operand.tmp 23), type := 0, pos := "ref.go:68", after := #[{ on := 6, ground := Ground.data }, { on := 6, ground := Ground.chain }, { on := 0, ground := Ground.phase }, { on := 1, ground := Ground.phase }, { on := 2, ground := Ground.phase }, { on := 3, ground := Ground.phase }, { on := 4, ground := Ground.phase }, { on := 5, ground := Ground.phase }, { on := 6, ground := Ground.phase }], guard := none }) rfl (fun K hK => ?_) AllReady.nil
      rw [if_pos (by rfl)]
      have hg2 : w2.heap[g]? = some (.cells (row .u32 (ab p k).list) 161 (0, 0)) := heap_below (w := wr.drew) hb2 HR.out
      refine wp_store_row 161 _ _ rfl g (row .u32 (proc (ab p k) (nums (P.extract a b))).list) rfl rfl 161 (row .u32 (ab p k).list) hg2 HS8'.out (by rw [row_size, row_size]; rfl) (row_one _ _) ?_
      refine hK _ _ ?_
      clear hK K
      (try simp only [Act.put])
      refine wpAny_done (by kernel_rfl) ?_ _
      have HG := Lib.hid (setRow_heap _ _ _ (row .u32 (proc (ab p k) (nums (P.extract a b))).list) _ _ hg2)
      have HB2 := Lib.hid (below_setRow (hbw.out.drew.trans (hb2.mono (show w.heap.size ≤ wr.drew.heap.size from hbw.out.size))) HGE.out (row .u32 (proc (ab p k) (nums (P.extract a b))).list))
      clear hg2 hb2
      go_wp2_with fail
      go_roundw
      case rel =>
        have ea := EA.out
        have eb := EB.out
        refine ⟨k + 1, by omega, by go_num, Lib.hid ?_, HB2⟩
        have e : ab p (k + 1) = proc (ab p k) (nums (P.extract a b)) := by rw [HNX.out, ab]
        rw [e]
        exact HG.out
      case measure => simp [intOf]; omega
    · obtain rfl : a = p.length := by omega
      have hkk : k = p.length / 64 := by omega
      have hst := HAB.out
      rw [← hkk] at hst
      rw [hst] at HR
      have hqf : (fin (nums s)).fits := by rw [← hst]; exact ab_fits _ _
      have HD : Hid (digest (nums s) = outs (fin (nums s))) := Lib.hid rfl
      generalize fin (nums s) = q at *
      have HQF := Lib.hid hqf
      have hpz : (p.length : Int) = (P.size : Int) := by have := HPS.out; omega
      have HBW := hbw
      have HRR := HR
      clear hst hqf hkk ea HR hbw
      obtain ⟨V, rfl⟩ : ∃ V, V = wr := ⟨_, rfl⟩
      obtain ⟨i0, hi, hz0, hz1, hz2⟩ := info_parts info_u8
      go_wp2_with fail
      clear hpz
      go_loopw [6, 7] (fun v i wl => ∃ k : Nat, k ≤ 8 ∧ i = .int .i64 k ∧ Hid (wl.ownsRow V.heap.size 5 1 v (4 * k) (u8s ((outs q).take (4 * k)))) ∧ Hid (Below V.heap.size V wl)) (fun _ i _ => 8 - (intOf i).toNat)
      case atStart => exact ⟨0, by omega, rfl, Lib.hid (World.ownsRow_nil _ _ _ _), Lib.hid (Below.refl _ _)⟩
      case round =>
        obtain ⟨k, hk, rfl, hown, hbl⟩ := hrel
        have hgl := heap_below hbl.out HRR.out
        have HGL := Lib.hid hgl
        clear hgl
        by_cases hlt2 : k < 8
        · obtain ⟨c, EC⟩ : ∃ c, Hid (q.list.getD k 0 = c) := ⟨_, Lib.hid rfl⟩
          have hcl : c < 4294967296 := by
            rw [← EC.out]
            obtain ⟨f1, f2, f3, f4, f5, f6, f7, f8⟩ := HQF.out
            obtain rfl | rfl | rfl | rfl | rfl | rfl | rfl | rfl : k = 0 ∨ k = 1 ∨ k = 2 ∨ k = 3 ∨ k = 4 ∨ k = 5 ∨ k = 6 ∨ k = 7 := by omega
            all_goals (first | exact f1 | exact f2 | exact f3 | exact f4 | exact f5 | exact f6 | exact f7 | exact f8)
          have hc : wr.drew.cell? ⟨g, k, none⟩ = some (.int .u32 (c : Int)) := by
            have := (at_row HGL.out k (by rw [S8.list]; exact hlt2)).1
            rw [EC.out] at this; exact this
          have hlc : (Instr.loadAt 160 (.pointer (some ⟨g, k, none⟩))).run Tryz.prog wr.drew = .ok (.int .u32 (c : Int)) wr.drew := by go_simp
          have HLC := Lib.hid hlc
          obtain ⟨y1, ey1⟩ : ∃ y, y = c / 16777216 := ⟨_, rfl⟩
          obtain ⟨y2, ey2⟩ : ∃ y, y = c / 65536 := ⟨_, rfl⟩
          obtain ⟨y3, ey3⟩ : ∃ y, y = c / 256 := ⟨_, rfl⟩
          obtain ⟨z1, ez1⟩ : ∃ y, y = y1 % 256 := ⟨_, rfl⟩
          obtain ⟨z2, ez2⟩ : ∃ y, y = y2 % 256 := ⟨_, rfl⟩
          obtain ⟨z3, ez3⟩ : ∃ y, y = y3 % 256 := ⟨_, rfl⟩
          obtain ⟨z4, ez4⟩ : ∃ y, y = c % 256 := ⟨_, rfl⟩
          have a1 : (c : Int) / 16777216 = (y1 : Int) := by omega
          have a2 : (c : Int) / 65536 = (y2 : Int) := by omega
          have a3 : (c : Int) / 256 = (y3 : Int) := by omega
          have b1 : (y1 : Int) % 256 = (z1 : Int) := by omega
          have b2 : (y2 : Int) % 256 = (z2 : Int) := by omega
          have b3 : (y3 : Int) % 256 = (z3 : Int) := by omega
          have b4 : (c : Int) % 256 = (z4 : Int) := by omega
          have c1 : IntKind.u8.wrap (y1 : Int) = (z1 : Int) := by rw [IntKind.wrap_u8']; exact b1
          have c2 : IntKind.u8.wrap (y2 : Int) = (z2 : Int) := by rw [IntKind.wrap_u8']; exact b2
          have c3 : IntKind.u8.wrap (y3 : Int) = (z3 : Int) := by rw [IntKind.wrap_u8']; exact b3
          have c4 : IntKind.u8.wrap (c : Int) = (z4 : Int) := by rw [IntKind.wrap_u8']; exact b4
          have hk8 : (k : Int) < 8 := by omega
          have hk0 : (0 : Int) ≤ (k : Int) := by omega
          have EY1 := Lib.hid ey1
          have EY2 := Lib.hid ey2
          have EY3 := Lib.hid ey3
          have EZ1 := Lib.hid ez1
          have EZ2 := Lib.hid ez2
          have EZ3 := Lib.hid ez3
          have EZ4 := Lib.hid ez4
          clear ey1 ey2 ey3 ez1 ez2 ez3 ez4 hcl hlc hc
          go_wp2_with fail
          refine wp_region_any (by kernel_rfl) ?_
          change wpAny _ _ _ _ _ _ _ (World.drew wr)
          refine wpAny_take (i := 0) (oi := { dst := some 28, op := Op.move (Operand.tmp 6), type := 121, pos := "ref.go:72", after := #[], guard := none }) (v := u6) rfl (by kernel_rfl) (by kernel_rfl) (by kernel_rfl) (fun _ _ _ h => h) (Or.inl ⟨by rfl, fun w => by go_simp⟩) ?_
          (try simp only [Act.put, List.setIfInBounds_toArray, List.set_cons_zero, List.set_cons_succ])
          refine wpAny_take (i := 1) (oi := { dst := some 29, op := Op.move (Operand.tmp 7), type := 3, pos := "ref.go:72", after := #[], guard := none }) (v := .int .i64 k) rfl (by kernel_rfl) (by kernel_rfl) (by kernel_rfl) (fun _ _ _ h => h) (Or.inl ⟨by rfl, fun w => by go_simp⟩) ?_
          (try simp only [Act.put, List.setIfInBounds_toArray, List.set_cons_zero, List.set_cons_succ])
          refine wpAny_take (i := 2) (oi := { dst := some 30, op := Op.indexAddr 161 (Operand.tmp 4) (Operand.tmp 29), type := 0, pos := "ref.go:72", after := #[{ on := 1, ground := Ground.data }], guard := none }) (v := .pointer (some ⟨g, k, none⟩)) rfl (by kernel_rfl) (by kernel_rfl) (by kernel_rfl) (fun _ _ _ h => h) (Or.inl ⟨by rfl, fun w => by go_simp⟩) ?_
          (try simp only [Act.put, List.setIfInBounds_toArray, List.set_cons_zero, List.set_cons_succ])
          refine wpAny_take (i := 6) (oi := { dst := some 34, op := Op.move (Operand.tmp 7), type := 3, pos := "ref.go:72", after := #[], guard := none }) (v := .int .i64 k) rfl (by kernel_rfl) (by kernel_rfl) (by kernel_rfl) (fun _ _ _ h => h) (Or.inl ⟨by rfl, fun w => by go_simp⟩) ?_
          (try simp only [Act.put, List.setIfInBounds_toArray, List.set_cons_zero, List.set_cons_succ])
          refine wpAny_take (i := 7) (oi := { dst := some 35, op := Op.indexAddr 161 (Operand.tmp 4) (Operand.tmp 34), type := 0, pos := "ref.go:72", after := #[{ on := 6, ground := Ground.data }], guard := none }) (v := .pointer (some ⟨g, k, none⟩)) rfl (by kernel_rfl) (by kernel_rfl) (by kernel_rfl) (fun _ _ _ h => h) (Or.inl ⟨by rfl, fun w => by go_simp⟩) ?_
          (try simp only [Act.put, List.setIfInBounds_toArray, List.set_cons_zero, List.set_cons_succ])
          refine wpAny_take (i := 11) (oi := { dst := some 39, op := Op.move (Operand.tmp 7), type := 3, pos := "ref.go:72", after := #[], guard := none }) (v := .int .i64 k) rfl (by kernel_rfl) (by kernel_rfl) (by kernel_rfl) (fun _ _ _ h => h) (Or.inl ⟨by rfl, fun w => by go_simp⟩) ?_
          (try simp only [Act.put, List.setIfInBounds_toArray, List.set_cons_zero, List.set_cons_succ])
          refine wpAny_take (i := 12) (oi := { dst := some 40, op := Op.indexAddr 161 (Operand.tmp 4) (Operand.tmp 39), type := 0, pos := "ref.go:72", after := #[{ on := 11, ground := Ground.data }], guard := none }) (v := .pointer (some ⟨g, k, none⟩)) rfl (by kernel_rfl) (by kernel_rfl) (by kernel_rfl) (fun _ _ _ h => h) (Or.inl ⟨by rfl, fun w => by go_simp⟩) ?_
          (try simp only [Act.put, List.setIfInBounds_toArray, List.set_cons_zero, List.set_cons_succ])
          refine wpAny_take (i := 16) (oi := { dst := some 44, op := Op.move (Operand.tmp 7), type := 3, pos := "ref.go:72", after := #[], guard := none }) (v := .int .i64 k) rfl (by kernel_rfl) (by kernel_rfl) (by kernel_rfl) (fun _ _ _ h => h) (Or.inl ⟨by rfl, fun w => by go_simp⟩) ?_
          (try simp only [Act.put, List.setIfInBounds_toArray, List.set_cons_zero, List.set_cons_succ])
          refine wpAny_take (i := 17) (oi := { dst := some 45, op := Op.indexAddr 161 (Operand.tmp 4) (Operand.tmp 44), type := 0, pos := "ref.go:72", after := #[{ on := 16, ground := Ground.data }], guard := none }) (v := .pointer (some ⟨g, k, none⟩)) rfl (by kernel_rfl) (by kernel_rfl) (by kernel_rfl) (fun _ _ _ h => h) (Or.inl ⟨by rfl, fun w => by go_simp⟩) ?_
          (try simp only [Act.put, List.setIfInBounds_toArray, List.set_cons_zero, List.set_cons_succ])
          refine wpAny_ready (rs := [3, 8, 13, 18]) (by kernel_rfl) (by simp) ?_
          refine AllReady.cons (o := { dst := some 31, op := Op.load 160 (Operand.tmp 30), type := 160, pos := "ref.go:72", after := #[{ on := 2, ground := Ground.data }], guard := none }) rfl (fun K hK => ?_) ?_
          · refine step_load rfl 160 _ rfl (.pointer (some ⟨g, k, none⟩)) rfl _ HLC.out ?_
            refine hK _ _ ?_
            clear hK K
            (try simp only [Act.put, List.setIfInBounds_toArray, List.set_cons_zero, List.set_cons_succ])
            refine wpAny_take (i := 4) (oi := { dst := some 32, op := Op.binOp BinOp.shr 160 (Operand.tmp 31) (Operand.const (Value.int IntKind.u64 24)) 141, type := 160, pos := "ref.go:72", after := #[{ on := 3, ground := Ground.data }], guard := none }) (v := .int .u32 y1) rfl (by kernel_rfl) (by kernel_rfl) (by kernel_rfl) (fun _ _ _ h => h) (Or.inl ⟨by rfl, fun w => by go_simp⟩) ?_
            (try simp only [Act.put, List.setIfInBounds_toArray, List.set_cons_zero, List.set_cons_succ])
            refine wpAny_take (i := 5) (oi := { dst := some 33, op := Op.convert 160 5 (Operand.tmp 32), type := 5, pos := "ref.go:72", after := #[{ on := 4, ground := Ground.data }], guard := none }) (v := .int .u8 z1) rfl (by kernel_rfl) (by kernel_rfl) (by kernel_rfl) (fun _ _ _ h => h) (Or.inl ⟨by rfl, fun w => by go_simp⟩) ?_
            (try simp only [Act.put, List.setIfInBounds_toArray, List.set_cons_zero, List.set_cons_succ])
            refine wpAny_ready (rs := [8, 13, 18]) (by kernel_rfl) (by simp) ?_
            refine AllReady.cons (o := { dst := some 36, op := Op.load 160 (Operand.tmp 35), type := 160, pos := "ref.go:72", after := #[{ on := 7, ground := Ground.data }], guard := none }) rfl (fun K hK => ?_) ?_
            · refine step_load rfl 160 _ rfl (.pointer (some ⟨g, k, none⟩)) rfl _ HLC.out ?_
              refine hK _ _ ?_
              clear hK K
              (try simp only [Act.put, List.setIfInBounds_toArray, List.set_cons_zero, List.set_cons_succ])
              refine wpAny_take (i := 9) (oi := { dst := some 37, op := Op.binOp BinOp.shr 160 (Operand.tmp 36) (Operand.const (Value.int IntKind.u64 16)) 141, type := 160, pos := "ref.go:72", after := #[{ on := 8, ground := Ground.data }], guard := none }) (v := .int .u32 y2) rfl (by kernel_rfl) (by kernel_rfl) (by kernel_rfl) (fun _ _ _ h => h) (Or.inl ⟨by rfl, fun w => by go_simp⟩) ?_
              (try simp only [Act.put, List.setIfInBounds_toArray, List.set_cons_zero, List.set_cons_succ])
              refine wpAny_take (i := 10) (oi := { dst := some 38, op := Op.convert 160 5 (Operand.tmp 37), type := 5, pos := "ref.go:72", after := #[{ on := 9, ground := Ground.data }], guard := none }) (v := .int .u8 z2) rfl (by kernel_rfl) (by kernel_rfl) (by kernel_rfl) (fun _ _ _ h => h) (Or.inl ⟨by rfl, fun w => by go_simp⟩) ?_
              (try simp only [Act.put, List.setIfInBounds_toArray, List.set_cons_zero, List.set_cons_succ])
              refine wpAny_ready (rs := [13, 18]) (by kernel_rfl) (by simp) ?_
              refine AllReady.cons (o := { dst := some 41, op := Op.load 160 (Operand.tmp 40), type := 160, pos := "ref.go:72", after := #[{ on := 12, ground := Ground.data }], guard := none }) rfl (fun K hK => ?_) ?_
              · refine step_load rfl 160 _ rfl (.pointer (some ⟨g, k, none⟩)) rfl _ HLC.out ?_
                refine hK _ _ ?_
                clear hK K
                (try simp only [Act.put, List.setIfInBounds_toArray, List.set_cons_zero, List.set_cons_succ])
                refine wpAny_take (i := 14) (oi := { dst := some 42, op := Op.binOp BinOp.shr 160 (Operand.tmp 41) (Operand.const (Value.int IntKind.u64 8)) 141, type := 160, pos := "ref.go:72", after := #[{ on := 13, ground := Ground.data }], guard := none }) (v := .int .u32 y3) rfl (by kernel_rfl) (by kernel_rfl) (by kernel_rfl) (fun _ _ _ h => h) (Or.inl ⟨by rfl, fun w => by go_simp⟩) ?_
                (try simp only [Act.put, List.setIfInBounds_toArray, List.set_cons_zero, List.set_cons_succ])
                refine wpAny_take (i := 15) (oi := { dst := some 43, op := Op.convert 160 5 (Operand.tmp 42), type := 5, pos := "ref.go:72", after := #[{ on := 14, ground := Ground.data }], guard := none }) (v := .int .u8 z3) rfl (by kernel_rfl) (by kernel_rfl) (by kernel_rfl) (fun _ _ _ h => h) (Or.inl ⟨by rfl, fun w => by go_simp⟩) ?_
                (try simp only [Act.put, List.setIfInBounds_toArray, List.set_cons_zero, List.set_cons_succ])
                refine wpAny_ready (rs := [18]) (by kernel_rfl) (by simp) ?_
                refine AllReady.cons (o := { dst := some 46, op := Op.load 160 (Operand.tmp 45), type := 160, pos := "ref.go:72", after := #[{ on := 17, ground := Ground.data }], guard := none }) rfl (fun K hK => ?_) AllReady.nil
                refine step_load rfl 160 _ rfl (.pointer (some ⟨g, k, none⟩)) rfl _ HLC.out ?_
                refine hK _ _ ?_
                clear hK K
                (try simp only [Act.put, List.setIfInBounds_toArray, List.set_cons_zero, List.set_cons_succ])
                refine wpAny_take (i := 19) (oi := { dst := some 47, op := Op.convert 160 5 (Operand.tmp 46), type := 5, pos := "ref.go:72", after := #[{ on := 18, ground := Ground.data }], guard := none }) (v := .int .u8 z4) rfl (by kernel_rfl) (by kernel_rfl) (by kernel_rfl) (fun _ _ _ h => h) (Or.inl ⟨by rfl, fun w => by go_simp⟩) ?_
                (try simp only [Act.put, List.setIfInBounds_toArray, List.set_cons_zero, List.set_cons_succ])
                refine wpAny_ready (rs := [20]) (by kernel_rfl) (by simp) ?_
                refine AllReady.cons (o := { dst := some 48, op := Op.buildSlice 121 4 #[(0, Operand.tmp 33), (1, Operand.tmp 38), (2, Operand.tmp 43), (3, Operand.tmp 47)], type := 121, pos := "ref.go:72", after := #[{ on := 5, ground := Ground.data }, { on := 10, ground := Ground.data }, { on := 15, ground := Ground.data }, { on := 19, ground := Ground.data }], guard := none }) rfl (fun K hK => ?_) AllReady.nil
                go_simp
                refine hK _ _ ?_
                clear hK K
                (try simp only [Act.put, List.setIfInBounds_toArray, List.set_cons_zero, List.set_cons_succ])
                refine wpAny_ready (rs := [21]) (by kernel_rfl) (by simp) ?_
                refine AllReady.cons (o := { dst := some 49, op := Op.call { callee := Callee.builtin Builtin.append, args := #[Operand.tmp 28, Operand.tmp 48], argTypes := #[121, 121] }, type := 121, pos := "ref.go:72", after := #[{ on := 0, ground := Ground.data }, { on := 20, ground := Ground.data }], guard := none }) rfl (fun K hK => ?_) AllReady.nil
                refine step_append_lies _ (by rfl) (.tmp 28) (.tmp 48) 121 (by rfl) V.heap.size 5 i0 (.int .u8 0) 1 1 Tryz.underlying121 hi hz0 hz1 hz2 rfl (by decide) u6 (4 * k) (u8s ((outs q).take (4 * k))) (by rfl) (hown.out.alloc _) ⟨wr.heap.size, 0, none⟩ 4 4 [.int .u8 z1, .int .u8 z2, .int .u8 z3, .int .u8 z4] (by rfl) rfl
                  (World.news_of_block (Go.heap_alloc_new wr (.cells #[.int .u8 z1, .int .u8 z2, .int .u8 z3, .int .u8 z4] 5))) (by intro u hu; simp only [List.mem_cons, List.not_mem_nil, or_false] at hu; rcases hu with rfl | rfl | rfl | rfl <;> rfl) (by decide) (by unfold maxLen; omega) (by omega) (by have := hbl.out.size; simp; omega) _ rfl ?_
                intro g1 cap1 w3 hown1 hgrow _ _
                refine hK _ _ ?_
                clear hK K
                have hb1 : Below V.heap.size V w3 := Below.grown ((hbl.out.alloc (by have := hbl.out.size; omega) _).drew) hgrow (by have := hbl.out.size; show V.heap.size ≤ (wr.alloc _).heap.size; rw [size_alloc']; omega) (fun k hk => (hown.out.lt k hk).1)
                have HO1 := Lib.hid hown1
                have HB1 := Lib.hid hb1
                clear hown1 hb1 hgrow
                (try simp only [Act.put, List.setIfInBounds_toArray, List.set_cons_zero, List.set_cons_succ])
                refine wpAny_take (i := 22) (oi := { dst := some 6, op := Op.assign (Operand.tmp 49), type := 121, pos := "ref.go:72", after := #[{ on := 21, ground := Ground.data }, { on := 21, ground := Ground.chain }, { on := 0, ground := Ground.phase }, { on := 1, ground := Ground.phase }, { on := 2, ground := Ground.phase }, { on := 3, ground := Ground.phase }, { on := 4, ground := Ground.phase }, { on := 5, ground := Ground.phase }, { on := 6, ground := Ground.phase }, { on := 7, ground := Ground.phase }, { on := 8, ground := Ground.phase }, { on := 9, ground := Ground.phase }, { on := 10, ground := Ground.phase }, { on := 11, ground := Ground.phase }, { on := 12, ground := Ground.phase }, { on := 13, ground := Ground.phase }, { on := 14, ground := Ground.phase }, { on := 15, ground := Ground.phase }, { on := 16, ground := Ground.phase }, { on := 17, ground := Ground.phase }, { on := 18, ground := Ground.phase }, { on := 19, ground := Ground.phase }, { on := 20, ground := Ground.phase }, { on := 21, ground := Ground.phase }], guard := none }) (v := .slice (some ⟨g1, 0, none⟩) (4 * k + 4) cap1) rfl (by kernel_rfl) (by kernel_rfl) (by kernel_rfl) (fun _ _ _ h => h) (Or.inl ⟨by rfl, fun w => by go_simp⟩) ?_
                (try simp only [Act.put, List.setIfInBounds_toArray, List.set_cons_zero, List.set_cons_succ])
                refine wpAny_done (by kernel_rfl) ?_ _
                go_wp2_with fail
                go_roundw
                case rel =>
                  refine ⟨k + 1, by omega, by go_num, Lib.hid ?_, HB1⟩
                  have e : (outs q).take (4 * (k + 1)) = (outs q).take (4 * k) ++ [z1, z2, z3, z4] := by
                    rw [outs_next q k hlt2, EC.out, ← EY1.out, ← EY2.out, ← EY3.out, ← EZ1.out, ← EZ2.out, ← EZ3.out, ← EZ4.out]
                  rw [e, show 4 * (k + 1) = 4 * k + 4 by omega]
                  have h := HO1.out
                  rwa [show [Value.int .u8 (z1 : Int), Value.int .u8 (z2 : Int), Value.int .u8 (z3 : Int), Value.int .u8 (z4 : Int)] = u8s [z1, z2, z3, z4] from rfl, show u8s ((outs q).take (4 * k)) ++ u8s [z1, z2, z3, z4] = u8s ((outs q).take (4 * k) ++ [z1, z2, z3, z4]) from (List.map_append ..).symm] at h
                case measure => simp [intOf]; omega
              refine AllReady.cons (o := { dst := some 46, op := Op.load 160 (Operand.tmp 45), type := 160, pos := "ref.go:72", after := #[{ on := 17, ground := Ground.data }], guard := none }) rfl (fun K hK => ?_) AllReady.nil
              refine step_load rfl 160 _ rfl (.pointer (some ⟨g, k, none⟩)) rfl _ HLC.out ?_
              refine hK _ _ ?_
              clear hK K
              (try simp only [Act.put, List.setIfInBounds_toArray, List.set_cons_zero, List.set_cons_succ])
              refine wpAny_take (i := 19) (oi := { dst := some 47, op := Op.convert 160 5 (Operand.tmp 46), type := 5, pos := "ref.go:72", after := #[{ on := 18, ground := Ground.data }], guard := none }) (v := .int .u8 z4) rfl (by kernel_rfl) (by kernel_rfl) (by kernel_rfl) (fun _ _ _ h => h) (Or.inl ⟨by rfl, fun w => by go_simp⟩) ?_
              (try simp only [Act.put, List.setIfInBounds_toArray, List.set_cons_zero, List.set_cons_succ])
              refine wpAny_ready (rs := [13]) (by kernel_rfl) (by simp) ?_
              refine AllReady.cons (o := { dst := some 41, op := Op.load 160 (Operand.tmp 40), type := 160, pos := "ref.go:72", after := #[{ on := 12, ground := Ground.data }], guard := none }) rfl (fun K hK => ?_) AllReady.nil
              refine step_load rfl 160 _ rfl (.pointer (some ⟨g, k, none⟩)) rfl _ HLC.out ?_
              refine hK _ _ ?_
              clear hK K
              (try simp only [Act.put, List.setIfInBounds_toArray, List.set_cons_zero, List.set_cons_succ])
              refine wpAny_take (i := 14) (oi := { dst := some 42, op := Op.binOp BinOp.shr 160 (Operand.tmp 41) (Operand.const (Value.int IntKind.u64 8)) 141, type := 160, pos := "ref.go:72", after := #[{ on := 13, ground := Ground.data }], guard := none }) (v := .int .u32 y3) rfl (by kernel_rfl) (by kernel_rfl) (by kernel_rfl) (fun _ _ _ h => h) (Or.inl ⟨by rfl, fun w => by go_simp⟩) ?_
              (try simp only [Act.put, List.setIfInBounds_toArray, List.set_cons_zero, List.set_cons_succ])
              refine wpAny_take (i := 15) (oi := { dst := some 43, op := Op.convert 160 5 (Operand.tmp 42), type := 5, pos := "ref.go:72", after := #[{ on := 14, ground := Ground.data }], guard := none }) (v := .int .u8 z3) rfl (by kernel_rfl) (by kernel_rfl) (by kernel_rfl) (fun _ _ _ h => h) (Or.inl ⟨by rfl, fun w => by go_simp⟩) ?_
              (try simp only [Act.put, List.setIfInBounds_toArray, List.set_cons_zero, List.set_cons_succ])
              refine wpAny_ready (rs := [20]) (by kernel_rfl) (by simp) ?_
              refine AllReady.cons (o := { dst := some 48, op := Op.buildSlice 121 4 #[(0, Operand.tmp 33), (1, Operand.tmp 38), (2, Operand.tmp 43), (3, Operand.tmp 47)], type := 121, pos := "ref.go:72", after := #[{ on := 5, ground := Ground.data }, { on := 10, ground := Ground.data }, { on := 15, ground := Ground.data }, { on := 19, ground := Ground.data }], guard := none }) rfl (fun K hK => ?_) AllReady.nil
              go_simp
              refine hK _ _ ?_
              clear hK K
              (try simp only [Act.put, List.setIfInBounds_toArray, List.set_cons_zero, List.set_cons_succ])
              refine wpAny_ready (rs := [21]) (by kernel_rfl) (by simp) ?_
              refine AllReady.cons (o := { dst := some 49, op := Op.call { callee := Callee.builtin Builtin.append, args := #[Operand.tmp 28, Operand.tmp 48], argTypes := #[121, 121] }, type := 121, pos := "ref.go:72", after := #[{ on := 0, ground := Ground.data }, { on := 20, ground := Ground.data }], guard := none }) rfl (fun K hK => ?_) AllReady.nil
              refine step_append_lies _ (by rfl) (.tmp 28) (.tmp 48) 121 (by rfl) V.heap.size 5 i0 (.int .u8 0) 1 1 Tryz.underlying121 hi hz0 hz1 hz2 rfl (by decide) u6 (4 * k) (u8s ((outs q).take (4 * k))) (by rfl) (hown.out.alloc _) ⟨wr.heap.size, 0, none⟩ 4 4 [.int .u8 z1, .int .u8 z2, .int .u8 z3, .int .u8 z4] (by rfl) rfl
                (World.news_of_block (Go.heap_alloc_new wr (.cells #[.int .u8 z1, .int .u8 z2, .int .u8 z3, .int .u8 z4] 5))) (by intro u hu; simp only [List.mem_cons, List.not_mem_nil, or_false] at hu; rcases hu with rfl | rfl | rfl | rfl <;> rfl) (by decide) (by unfold maxLen; omega) (by omega) (by have := hbl.out.size; simp; omega) _ rfl ?_
              intro g1 cap1 w3 hown1 hgrow _ _
              refine hK _ _ ?_
              clear hK K
              have hb1 : Below V.heap.size V w3 := Below.grown ((hbl.out.alloc (by have := hbl.out.size; omega) _).drew) hgrow (by have := hbl.out.size; show V.heap.size ≤ (wr.alloc _).heap.size; rw [size_alloc']; omega) (fun k hk => (hown.out.lt k hk).1)
              have HO1 := Lib.hid hown1
              have HB1 := Lib.hid hb1
              clear hown1 hb1 hgrow
              (try simp only [Act.put, List.setIfInBounds_toArray, List.set_cons_zero, List.set_cons_succ])
              refine wpAny_take (i := 22) (oi := { dst := some 6, op := Op.assign (Operand.tmp 49), type := 121, pos := "ref.go:72", after := #[{ on := 21, ground := Ground.data }, { on := 21, ground := Ground.chain }, { on := 0, ground := Ground.phase }, { on := 1, ground := Ground.phase }, { on := 2, ground := Ground.phase }, { on := 3, ground := Ground.phase }, { on := 4, ground := Ground.phase }, { on := 5, ground := Ground.phase }, { on := 6, ground := Ground.phase }, { on := 7, ground := Ground.phase }, { on := 8, ground := Ground.phase }, { on := 9, ground := Ground.phase }, { on := 10, ground := Ground.phase }, { on := 11, ground := Ground.phase }, { on := 12, ground := Ground.phase }, { on := 13, ground := Ground.phase }, { on := 14, ground := Ground.phase }, { on := 15, ground := Ground.phase }, { on := 16, ground := Ground.phase }, { on := 17, ground := Ground.phase }, { on := 18, ground := Ground.phase }, { on := 19, ground := Ground.phase }, { on := 20, ground := Ground.phase }, { on := 21, ground := Ground.phase }], guard := none }) (v := .slice (some ⟨g1, 0, none⟩) (4 * k + 4) cap1) rfl (by kernel_rfl) (by kernel_rfl) (by kernel_rfl) (fun _ _ _ h => h) (Or.inl ⟨by rfl, fun w => by go_simp⟩) ?_
              (try simp only [Act.put, List.setIfInBounds_toArray, List.set_cons_zero, List.set_cons_succ])
              refine wpAny_done (by kernel_rfl) ?_ _
              go_wp2_with fail
              go_roundw
              case rel =>
                refine ⟨k + 1, by omega, by go_num, Lib.hid ?_, HB1⟩
                have e : (outs q).take (4 * (k + 1)) = (outs q).take (4 * k) ++ [z1, z2, z3, z4] := by
                  rw [outs_next q k hlt2, EC.out, ← EY1.out, ← EY2.out, ← EY3.out, ← EZ1.out, ← EZ2.out, ← EZ3.out, ← EZ4.out]
                rw [e, show 4 * (k + 1) = 4 * k + 4 by omega]
                have h := HO1.out
                rwa [show [Value.int .u8 (z1 : Int), Value.int .u8 (z2 : Int), Value.int .u8 (z3 : Int), Value.int .u8 (z4 : Int)] = u8s [z1, z2, z3, z4] from rfl, show u8s ((outs q).take (4 * k)) ++ u8s [z1, z2, z3, z4] = u8s ((outs q).take (4 * k) ++ [z1, z2, z3, z4]) from (List.map_append ..).symm] at h
              case measure => simp [intOf]; omega
            refine AllReady.cons (o := { dst := some 41, op := Op.load 160 (Operand.tmp 40), type := 160, pos := "ref.go:72", after := #[{ on := 12, ground := Ground.data }], guard := none }) rfl (fun K hK => ?_) ?_
            · refine step_load rfl 160 _ rfl (.pointer (some ⟨g, k, none⟩)) rfl _ HLC.out ?_
              refine hK _ _ ?_
              clear hK K
              (try simp only [Act.put, List.setIfInBounds_toArray, List.set_cons_zero, List.set_cons_succ])
              refine wpAny_take (i := 14) (oi := { dst := some 42, op := Op.binOp BinOp.shr 160 (Operand.tmp 41) (Operand.const (Value.int IntKind.u64 8)) 141, type := 160, pos := "ref.go:72", after := #[{ on := 13, ground := Ground.data }], guard := none }) (v := .int .u32 y3) rfl (by kernel_rfl) (by kernel_rfl) (by kernel_rfl) (fun _ _ _ h => h) (Or.inl ⟨by rfl, fun w => by go_simp⟩) ?_
              (try simp only [Act.put, List.setIfInBounds_toArray, List.set_cons_zero, List.set_cons_succ])
              refine wpAny_take (i := 15) (oi := { dst := some 43, op := Op.convert 160 5 (Operand.tmp 42), type := 5, pos := "ref.go:72", after := #[{ on := 14, ground := Ground.data }], guard := none }) (v := .int .u8 z3) rfl (by kernel_rfl) (by kernel_rfl) (by kernel_rfl) (fun _ _ _ h => h) (Or.inl ⟨by rfl, fun w => by go_simp⟩) ?_
              (try simp only [Act.put, List.setIfInBounds_toArray, List.set_cons_zero, List.set_cons_succ])
              refine wpAny_ready (rs := [8, 18]) (by kernel_rfl) (by simp) ?_
              refine AllReady.cons (o := { dst := some 36, op := Op.load 160 (Operand.tmp 35), type := 160, pos := "ref.go:72", after := #[{ on := 7, ground := Ground.data }], guard := none }) rfl (fun K hK => ?_) ?_
              · refine step_load rfl 160 _ rfl (.pointer (some ⟨g, k, none⟩)) rfl _ HLC.out ?_
                refine hK _ _ ?_
                clear hK K
                (try simp only [Act.put, List.setIfInBounds_toArray, List.set_cons_zero, List.set_cons_succ])
                refine wpAny_take (i := 9) (oi := { dst := some 37, op := Op.binOp BinOp.shr 160 (Operand.tmp 36) (Operand.const (Value.int IntKind.u64 16)) 141, type := 160, pos := "ref.go:72", after := #[{ on := 8, ground := Ground.data }], guard := none }) (v := .int .u32 y2) rfl (by kernel_rfl) (by kernel_rfl) (by kernel_rfl) (fun _ _ _ h => h) (Or.inl ⟨by rfl, fun w => by go_simp⟩) ?_
                (try simp only [Act.put, List.setIfInBounds_toArray, List.set_cons_zero, List.set_cons_succ])
                refine wpAny_take (i := 10) (oi := { dst := some 38, op := Op.convert 160 5 (Operand.tmp 37), type := 5, pos := "ref.go:72", after := #[{ on := 9, ground := Ground.data }], guard := none }) (v := .int .u8 z2) rfl (by kernel_rfl) (by kernel_rfl) (by kernel_rfl) (fun _ _ _ h => h) (Or.inl ⟨by rfl, fun w => by go_simp⟩) ?_
                (try simp only [Act.put, List.setIfInBounds_toArray, List.set_cons_zero, List.set_cons_succ])
                refine wpAny_ready (rs := [18]) (by kernel_rfl) (by simp) ?_
                refine AllReady.cons (o := { dst := some 46, op := Op.load 160 (Operand.tmp 45), type := 160, pos := "ref.go:72", after := #[{ on := 17, ground := Ground.data }], guard := none }) rfl (fun K hK => ?_) AllReady.nil
                refine step_load rfl 160 _ rfl (.pointer (some ⟨g, k, none⟩)) rfl _ HLC.out ?_
                refine hK _ _ ?_
                clear hK K
                (try simp only [Act.put, List.setIfInBounds_toArray, List.set_cons_zero, List.set_cons_succ])
                refine wpAny_take (i := 19) (oi := { dst := some 47, op := Op.convert 160 5 (Operand.tmp 46), type := 5, pos := "ref.go:72", after := #[{ on := 18, ground := Ground.data }], guard := none }) (v := .int .u8 z4) rfl (by kernel_rfl) (by kernel_rfl) (by kernel_rfl) (fun _ _ _ h => h) (Or.inl ⟨by rfl, fun w => by go_simp⟩) ?_
                (try simp only [Act.put, List.setIfInBounds_toArray, List.set_cons_zero, List.set_cons_succ])
                refine wpAny_ready (rs := [20]) (by kernel_rfl) (by simp) ?_
                refine AllReady.cons (o := { dst := some 48, op := Op.buildSlice 121 4 #[(0, Operand.tmp 33), (1, Operand.tmp 38), (2, Operand.tmp 43), (3, Operand.tmp 47)], type := 121, pos := "ref.go:72", after := #[{ on := 5, ground := Ground.data }, { on := 10, ground := Ground.data }, { on := 15, ground := Ground.data }, { on := 19, ground := Ground.data }], guard := none }) rfl (fun K hK => ?_) AllReady.nil
                go_simp
                refine hK _ _ ?_
                clear hK K
                (try simp only [Act.put, List.setIfInBounds_toArray, List.set_cons_zero, List.set_cons_succ])
                refine wpAny_ready (rs := [21]) (by kernel_rfl) (by simp) ?_
                refine AllReady.cons (o := { dst := some 49, op := Op.call { callee := Callee.builtin Builtin.append, args := #[Operand.tmp 28, Operand.tmp 48], argTypes := #[121, 121] }, type := 121, pos := "ref.go:72", after := #[{ on := 0, ground := Ground.data }, { on := 20, ground := Ground.data }], guard := none }) rfl (fun K hK => ?_) AllReady.nil
                refine step_append_lies _ (by rfl) (.tmp 28) (.tmp 48) 121 (by rfl) V.heap.size 5 i0 (.int .u8 0) 1 1 Tryz.underlying121 hi hz0 hz1 hz2 rfl (by decide) u6 (4 * k) (u8s ((outs q).take (4 * k))) (by rfl) (hown.out.alloc _) ⟨wr.heap.size, 0, none⟩ 4 4 [.int .u8 z1, .int .u8 z2, .int .u8 z3, .int .u8 z4] (by rfl) rfl
                  (World.news_of_block (Go.heap_alloc_new wr (.cells #[.int .u8 z1, .int .u8 z2, .int .u8 z3, .int .u8 z4] 5))) (by intro u hu; simp only [List.mem_cons, List.not_mem_nil, or_false] at hu; rcases hu with rfl | rfl | rfl | rfl <;> rfl) (by decide) (by unfold maxLen; omega) (by omega) (by have := hbl.out.size; simp; omega) _ rfl ?_
                intro g1 cap1 w3 hown1 hgrow _ _
                refine hK _ _ ?_
                clear hK K
                have hb1 : Below V.heap.size V w3 := Below.grown ((hbl.out.alloc (by have := hbl.out.size; omega) _).drew) hgrow (by have := hbl.out.size; show V.heap.size ≤ (wr.alloc _).heap.size; rw [size_alloc']; omega) (fun k hk => (hown.out.lt k hk).1)
                have HO1 := Lib.hid hown1
                have HB1 := Lib.hid hb1
                clear hown1 hb1 hgrow
                (try simp only [Act.put, List.setIfInBounds_toArray, List.set_cons_zero, List.set_cons_succ])
                refine wpAny_take (i := 22) (oi := { dst := some 6, op := Op.assign (Operand.tmp 49), type := 121, pos := "ref.go:72", after := #[{ on := 21, ground := Ground.data }, { on := 21, ground := Ground.chain }, { on := 0, ground := Ground.phase }, { on := 1, ground := Ground.phase }, { on := 2, ground := Ground.phase }, { on := 3, ground := Ground.phase }, { on := 4, ground := Ground.phase }, { on := 5, ground := Ground.phase }, { on := 6, ground := Ground.phase }, { on := 7, ground := Ground.phase }, { on := 8, ground := Ground.phase }, { on := 9, ground := Ground.phase }, { on := 10, ground := Ground.phase }, { on := 11, ground := Ground.phase }, { on := 12, ground := Ground.phase }, { on := 13, ground := Ground.phase }, { on := 14, ground := Ground.phase }, { on := 15, ground := Ground.phase }, { on := 16, ground := Ground.phase }, { on := 17, ground := Ground.phase }, { on := 18, ground := Ground.phase }, { on := 19, ground := Ground.phase }, { on := 20, ground := Ground.phase }, { on := 21, ground := Ground.phase }], guard := none }) (v := .slice (some ⟨g1, 0, none⟩) (4 * k + 4) cap1) rfl (by kernel_rfl) (by kernel_rfl) (by kernel_rfl) (fun _ _ _ h => h) (Or.inl ⟨by rfl, fun w => by go_simp⟩) ?_
                (try simp only [Act.put, List.setIfInBounds_toArray, List.set_cons_zero, List.set_cons_succ])
                refine wpAny_done (by kernel_rfl) ?_ _
                go_wp2_with fail
                go_roundw
                case rel =>
                  refine ⟨k + 1, by omega, by go_num, Lib.hid ?_, HB1⟩
                  have e : (outs q).take (4 * (k + 1)) = (outs q).take (4 * k) ++ [z1, z2, z3, z4] := by
                    rw [outs_next q k hlt2, EC.out, ← EY1.out, ← EY2.out, ← EY3.out, ← EZ1.out, ← EZ2.out, ← EZ3.out, ← EZ4.out]
                  rw [e, show 4 * (k + 1) = 4 * k + 4 by omega]
                  have h := HO1.out
                  rwa [show [Value.int .u8 (z1 : Int), Value.int .u8 (z2 : Int), Value.int .u8 (z3 : Int), Value.int .u8 (z4 : Int)] = u8s [z1, z2, z3, z4] from rfl, show u8s ((outs q).take (4 * k)) ++ u8s [z1, z2, z3, z4] = u8s ((outs q).take (4 * k) ++ [z1, z2, z3, z4]) from (List.map_append ..).symm] at h
                case measure => simp [intOf]; omega
              refine AllReady.cons (o := { dst := some 46, op := Op.load 160 (Operand.tmp 45), type := 160, pos := "ref.go:72", after := #[{ on := 17, ground := Ground.data }], guard := none }) rfl (fun K hK => ?_) AllReady.nil
              refine step_load rfl 160 _ rfl (.pointer (some ⟨g, k, none⟩)) rfl _ HLC.out ?_
              refine hK _ _ ?_
              clear hK K
              (try simp only [Act.put, List.setIfInBounds_toArray, List.set_cons_zero, List.set_cons_succ])
              refine wpAny_take (i := 19) (oi := { dst := some 47, op := Op.convert 160 5 (Operand.tmp 46), type := 5, pos := "ref.go:72", after := #[{ on := 18, ground := Ground.data }], guard := none }) (v := .int .u8 z4) rfl (by kernel_rfl) (by kernel_rfl) (by kernel_rfl) (fun _ _ _ h => h) (Or.inl ⟨by rfl, fun w => by go_simp⟩) ?_
              (try simp only [Act.put, List.setIfInBounds_toArray, List.set_cons_zero, List.set_cons_succ])
              refine wpAny_ready (rs := [8]) (by kernel_rfl) (by simp) ?_
              refine AllReady.cons (o := { dst := some 36, op := Op.load 160 (Operand.tmp 35), type := 160, pos := "ref.go:72", after := #[{ on := 7, ground := Ground.data }], guard := none }) rfl (fun K hK => ?_) AllReady.nil
              refine step_load rfl 160 _ rfl (.pointer (some ⟨g, k, none⟩)) rfl _ HLC.out ?_
              refine hK _ _ ?_
              clear hK K
              (try simp only [Act.put, List.setIfInBounds_toArray, List.set_cons_zero, List.set_cons_succ])
              refine wpAny_take (i := 9) (oi := { dst := some 37, op := Op.binOp BinOp.shr 160 (Operand.tmp 36) (Operand.const (Value.int IntKind.u64 16)) 141, type := 160, pos := "ref.go:72", after := #[{ on := 8, ground := Ground.data }], guard := none }) (v := .int .u32 y2) rfl (by kernel_rfl) (by kernel_rfl) (by kernel_rfl) (fun _ _ _ h => h) (Or.inl ⟨by rfl, fun w => by go_simp⟩) ?_
              (try simp only [Act.put, List.setIfInBounds_toArray, List.set_cons_zero, List.set_cons_succ])
              refine wpAny_take (i := 10) (oi := { dst := some 38, op := Op.convert 160 5 (Operand.tmp 37), type := 5, pos := "ref.go:72", after := #[{ on := 9, ground := Ground.data }], guard := none }) (v := .int .u8 z2) rfl (by kernel_rfl) (by kernel_rfl) (by kernel_rfl) (fun _ _ _ h => h) (Or.inl ⟨by rfl, fun w => by go_simp⟩) ?_
              (try simp only [Act.put, List.setIfInBounds_toArray, List.set_cons_zero, List.set_cons_succ])
              refine wpAny_ready (rs := [20]) (by kernel_rfl) (by simp) ?_
              refine AllReady.cons (o := { dst := some 48, op := Op.buildSlice 121 4 #[(0, Operand.tmp 33), (1, Operand.tmp 38), (2, Operand.tmp 43), (3, Operand.tmp 47)], type := 121, pos := "ref.go:72", after := #[{ on := 5, ground := Ground.data }, { on := 10, ground := Ground.data }, { on := 15, ground := Ground.data }, { on := 19, ground := Ground.data }], guard := none }) rfl (fun K hK => ?_) AllReady.nil
              go_simp
              refine hK _ _ ?_
              clear hK K
              (try simp only [Act.put, List.setIfInBounds_toArray, List.set_cons_zero, List.set_cons_succ])
              refine wpAny_ready (rs := [21]) (by kernel_rfl) (by simp) ?_
              refine AllReady.cons (o := { dst := some 49, op := Op.call { callee := Callee.builtin Builtin.append, args := #[Operand.tmp 28, Operand.tmp 48], argTypes := #[121, 121] }, type := 121, pos := "ref.go:72", after := #[{ on := 0, ground := Ground.data }, { on := 20, ground := Ground.data }], guard := none }) rfl (fun K hK => ?_) AllReady.nil
              refine step_append_lies _ (by rfl) (.tmp 28) (.tmp 48) 121 (by rfl) V.heap.size 5 i0 (.int .u8 0) 1 1 Tryz.underlying121 hi hz0 hz1 hz2 rfl (by decide) u6 (4 * k) (u8s ((outs q).take (4 * k))) (by rfl) (hown.out.alloc _) ⟨wr.heap.size, 0, none⟩ 4 4 [.int .u8 z1, .int .u8 z2, .int .u8 z3, .int .u8 z4] (by rfl) rfl
                (World.news_of_block (Go.heap_alloc_new wr (.cells #[.int .u8 z1, .int .u8 z2, .int .u8 z3, .int .u8 z4] 5))) (by intro u hu; simp only [List.mem_cons, List.not_mem_nil, or_false] at hu; rcases hu with rfl | rfl | rfl | rfl <;> rfl) (by decide) (by unfold maxLen; omega) (by omega) (by have := hbl.out.size; simp; omega) _ rfl ?_
              intro g1 cap1 w3 hown1 hgrow _ _
              refine hK _ _ ?_
              clear hK K
              have hb1 : Below V.heap.size V w3 := Below.grown ((hbl.out.alloc (by have := hbl.out.size; omega) _).drew) hgrow (by have := hbl.out.size; show V.heap.size ≤ (wr.alloc _).heap.size; rw [size_alloc']; omega) (fun k hk => (hown.out.lt k hk).1)
              have HO1 := Lib.hid hown1
              have HB1 := Lib.hid hb1
              clear hown1 hb1 hgrow
              (try simp only [Act.put, List.setIfInBounds_toArray, List.set_cons_zero, List.set_cons_succ])
              refine wpAny_take (i := 22) (oi := { dst := some 6, op := Op.assign (Operand.tmp 49), type := 121, pos := "ref.go:72", after := #[{ on := 21, ground := Ground.data }, { on := 21, ground := Ground.chain }, { on := 0, ground := Ground.phase }, { on := 1, ground := Ground.phase }, { on := 2, ground := Ground.phase }, { on := 3, ground := Ground.phase }, { on := 4, ground := Ground.phase }, { on := 5, ground := Ground.phase }, { on := 6, ground := Ground.phase }, { on := 7, ground := Ground.phase }, { on := 8, ground := Ground.phase }, { on := 9, ground := Ground.phase }, { on := 10, ground := Ground.phase }, { on := 11, ground := Ground.phase }, { on := 12, ground := Ground.phase }, { on := 13, ground := Ground.phase }, { on := 14, ground := Ground.phase }, { on := 15, ground := Ground.phase }, { on := 16, ground := Ground.phase }, { on := 17, ground := Ground.phase }, { on := 18, ground := Ground.phase }, { on := 19, ground := Ground.phase }, { on := 20, ground := Ground.phase }, { on := 21, ground := Ground.phase }], guard := none }) (v := .slice (some ⟨g1, 0, none⟩) (4 * k + 4) cap1) rfl (by kernel_rfl) (by kernel_rfl) (by kernel_rfl) (fun _ _ _ h => h) (Or.inl ⟨by rfl, fun w => by go_simp⟩) ?_
              (try simp only [Act.put, List.setIfInBounds_toArray, List.set_cons_zero, List.set_cons_succ])
              refine wpAny_done (by kernel_rfl) ?_ _
              go_wp2_with fail
              go_roundw
              case rel =>
                refine ⟨k + 1, by omega, by go_num, Lib.hid ?_, HB1⟩
                have e : (outs q).take (4 * (k + 1)) = (outs q).take (4 * k) ++ [z1, z2, z3, z4] := by
                  rw [outs_next q k hlt2, EC.out, ← EY1.out, ← EY2.out, ← EY3.out, ← EZ1.out, ← EZ2.out, ← EZ3.out, ← EZ4.out]
                rw [e, show 4 * (k + 1) = 4 * k + 4 by omega]
                have h := HO1.out
                rwa [show [Value.int .u8 (z1 : Int), Value.int .u8 (z2 : Int), Value.int .u8 (z3 : Int), Value.int .u8 (z4 : Int)] = u8s [z1, z2, z3, z4] from rfl, show u8s ((outs q).take (4 * k)) ++ u8s [z1, z2, z3, z4] = u8s ((outs q).take (4 * k) ++ [z1, z2, z3, z4]) from (List.map_append ..).symm] at h
              case measure => simp [intOf]; omega
            refine AllReady.cons (o := { dst := some 46, op := Op.load 160 (Operand.tmp 45), type := 160, pos := "ref.go:72", after := #[{ on := 17, ground := Ground.data }], guard := none }) rfl (fun K hK => ?_) AllReady.nil
            refine step_load rfl 160 _ rfl (.pointer (some ⟨g, k, none⟩)) rfl _ HLC.out ?_
            refine hK _ _ ?_
            clear hK K
            (try simp only [Act.put, List.setIfInBounds_toArray, List.set_cons_zero, List.set_cons_succ])
            refine wpAny_take (i := 19) (oi := { dst := some 47, op := Op.convert 160 5 (Operand.tmp 46), type := 5, pos := "ref.go:72", after := #[{ on := 18, ground := Ground.data }], guard := none }) (v := .int .u8 z4) rfl (by kernel_rfl) (by kernel_rfl) (by kernel_rfl) (fun _ _ _ h => h) (Or.inl ⟨by rfl, fun w => by go_simp⟩) ?_
            (try simp only [Act.put, List.setIfInBounds_toArray, List.set_cons_zero, List.set_cons_succ])
            refine wpAny_ready (rs := [8, 13]) (by kernel_rfl) (by simp) ?_
            refine AllReady.cons (o := { dst := some 36, op := Op.load 160 (Operand.tmp 35), type := 160, pos := "ref.go:72", after := #[{ on := 7, ground := Ground.data }], guard := none }) rfl (fun K hK => ?_) ?_
            · refine step_load rfl 160 _ rfl (.pointer (some ⟨g, k, none⟩)) rfl _ HLC.out ?_
              refine hK _ _ ?_
              clear hK K
              (try simp only [Act.put, List.setIfInBounds_toArray, List.set_cons_zero, List.set_cons_succ])
              refine wpAny_take (i := 9) (oi := { dst := some 37, op := Op.binOp BinOp.shr 160 (Operand.tmp 36) (Operand.const (Value.int IntKind.u64 16)) 141, type := 160, pos := "ref.go:72", after := #[{ on := 8, ground := Ground.data }], guard := none }) (v := .int .u32 y2) rfl (by kernel_rfl) (by kernel_rfl) (by kernel_rfl) (fun _ _ _ h => h) (Or.inl ⟨by rfl, fun w => by go_simp⟩) ?_
              (try simp only [Act.put, List.setIfInBounds_toArray, List.set_cons_zero, List.set_cons_succ])
              refine wpAny_take (i := 10) (oi := { dst := some 38, op := Op.convert 160 5 (Operand.tmp 37), type := 5, pos := "ref.go:72", after := #[{ on := 9, ground := Ground.data }], guard := none }) (v := .int .u8 z2) rfl (by kernel_rfl) (by kernel_rfl) (by kernel_rfl) (fun _ _ _ h => h) (Or.inl ⟨by rfl, fun w => by go_simp⟩) ?_
              (try simp only [Act.put, List.setIfInBounds_toArray, List.set_cons_zero, List.set_cons_succ])
              refine wpAny_ready (rs := [13]) (by kernel_rfl) (by simp) ?_
              refine AllReady.cons (o := { dst := some 41, op := Op.load 160 (Operand.tmp 40), type := 160, pos := "ref.go:72", after := #[{ on := 12, ground := Ground.data }], guard := none }) rfl (fun K hK => ?_) AllReady.nil
              refine step_load rfl 160 _ rfl (.pointer (some ⟨g, k, none⟩)) rfl _ HLC.out ?_
              refine hK _ _ ?_
              clear hK K
              (try simp only [Act.put, List.setIfInBounds_toArray, List.set_cons_zero, List.set_cons_succ])
              refine wpAny_take (i := 14) (oi := { dst := some 42, op := Op.binOp BinOp.shr 160 (Operand.tmp 41) (Operand.const (Value.int IntKind.u64 8)) 141, type := 160, pos := "ref.go:72", after := #[{ on := 13, ground := Ground.data }], guard := none }) (v := .int .u32 y3) rfl (by kernel_rfl) (by kernel_rfl) (by kernel_rfl) (fun _ _ _ h => h) (Or.inl ⟨by rfl, fun w => by go_simp⟩) ?_
              (try simp only [Act.put, List.setIfInBounds_toArray, List.set_cons_zero, List.set_cons_succ])
              refine wpAny_take (i := 15) (oi := { dst := some 43, op := Op.convert 160 5 (Operand.tmp 42), type := 5, pos := "ref.go:72", after := #[{ on := 14, ground := Ground.data }], guard := none }) (v := .int .u8 z3) rfl (by kernel_rfl) (by kernel_rfl) (by kernel_rfl) (fun _ _ _ h => h) (Or.inl ⟨by rfl, fun w => by go_simp⟩) ?_
              (try simp only [Act.put, List.setIfInBounds_toArray, List.set_cons_zero, List.set_cons_succ])
              refine wpAny_ready (rs := [20]) (by kernel_rfl) (by simp) ?_
              refine AllReady.cons (o := { dst := some 48, op := Op.buildSlice 121 4 #[(0, Operand.tmp 33), (1, Operand.tmp 38), (2, Operand.tmp 43), (3, Operand.tmp 47)], type := 121, pos := "ref.go:72", after := #[{ on := 5, ground := Ground.data }, { on := 10, ground := Ground.data }, { on := 15, ground := Ground.data }, { on := 19, ground := Ground.data }], guard := none }) rfl (fun K hK => ?_) AllReady.nil
              go_simp
              refine hK _ _ ?_
              clear hK K
              (try simp only [Act.put, List.setIfInBounds_toArray, List.set_cons_zero, List.set_cons_succ])
              refine wpAny_ready (rs := [21]) (by kernel_rfl) (by simp) ?_
              refine AllReady.cons (o := { dst := some 49, op := Op.call { callee := Callee.builtin Builtin.append, args := #[Operand.tmp 28, Operand.tmp 48], argTypes := #[121, 121] }, type := 121, pos := "ref.go:72", after := #[{ on := 0, ground := Ground.data }, { on := 20, ground := Ground.data }], guard := none }) rfl (fun K hK => ?_) AllReady.nil
              refine step_append_lies _ (by rfl) (.tmp 28) (.tmp 48) 121 (by rfl) V.heap.size 5 i0 (.int .u8 0) 1 1 Tryz.underlying121 hi hz0 hz1 hz2 rfl (by decide) u6 (4 * k) (u8s ((outs q).take (4 * k))) (by rfl) (hown.out.alloc _) ⟨wr.heap.size, 0, none⟩ 4 4 [.int .u8 z1, .int .u8 z2, .int .u8 z3, .int .u8 z4] (by rfl) rfl
                (World.news_of_block (Go.heap_alloc_new wr (.cells #[.int .u8 z1, .int .u8 z2, .int .u8 z3, .int .u8 z4] 5))) (by intro u hu; simp only [List.mem_cons, List.not_mem_nil, or_false] at hu; rcases hu with rfl | rfl | rfl | rfl <;> rfl) (by decide) (by unfold maxLen; omega) (by omega) (by have := hbl.out.size; simp; omega) _ rfl ?_
              intro g1 cap1 w3 hown1 hgrow _ _
              refine hK _ _ ?_
              clear hK K
              have hb1 : Below V.heap.size V w3 := Below.grown ((hbl.out.alloc (by have := hbl.out.size; omega) _).drew) hgrow (by have := hbl.out.size; show V.heap.size ≤ (wr.alloc _).heap.size; rw [size_alloc']; omega) (fun k hk => (hown.out.lt k hk).1)
              have HO1 := Lib.hid hown1
              have HB1 := Lib.hid hb1
              clear hown1 hb1 hgrow
              (try simp only [Act.put, List.setIfInBounds_toArray, List.set_cons_zero, List.set_cons_succ])
              refine wpAny_take (i := 22) (oi := { dst := some 6, op := Op.assign (Operand.tmp 49), type := 121, pos := "ref.go:72", after := #[{ on := 21, ground := Ground.data }, { on := 21, ground := Ground.chain }, { on := 0, ground := Ground.phase }, { on := 1, ground := Ground.phase }, { on := 2, ground := Ground.phase }, { on := 3, ground := Ground.phase }, { on := 4, ground := Ground.phase }, { on := 5, ground := Ground.phase }, { on := 6, ground := Ground.phase }, { on := 7, ground := Ground.phase }, { on := 8, ground := Ground.phase }, { on := 9, ground := Ground.phase }, { on := 10, ground := Ground.phase }, { on := 11, ground := Ground.phase }, { on := 12, ground := Ground.phase }, { on := 13, ground := Ground.phase }, { on := 14, ground := Ground.phase }, { on := 15, ground := Ground.phase }, { on := 16, ground := Ground.phase }, { on := 17, ground := Ground.phase }, { on := 18, ground := Ground.phase }, { on := 19, ground := Ground.phase }, { on := 20, ground := Ground.phase }, { on := 21, ground := Ground.phase }], guard := none }) (v := .slice (some ⟨g1, 0, none⟩) (4 * k + 4) cap1) rfl (by kernel_rfl) (by kernel_rfl) (by kernel_rfl) (fun _ _ _ h => h) (Or.inl ⟨by rfl, fun w => by go_simp⟩) ?_
              (try simp only [Act.put, List.setIfInBounds_toArray, List.set_cons_zero, List.set_cons_succ])
              refine wpAny_done (by kernel_rfl) ?_ _
              go_wp2_with fail
              go_roundw
              case rel =>
                refine ⟨k + 1, by omega, by go_num, Lib.hid ?_, HB1⟩
                have e : (outs q).take (4 * (k + 1)) = (outs q).take (4 * k) ++ [z1, z2, z3, z4] := by
                  rw [outs_next q k hlt2, EC.out, ← EY1.out, ← EY2.out, ← EY3.out, ← EZ1.out, ← EZ2.out, ← EZ3.out, ← EZ4.out]
                rw [e, show 4 * (k + 1) = 4 * k + 4 by omega]
                have h := HO1.out
                rwa [show [Value.int .u8 (z1 : Int), Value.int .u8 (z2 : Int), Value.int .u8 (z3 : Int), Value.int .u8 (z4 : Int)] = u8s [z1, z2, z3, z4] from rfl, show u8s ((outs q).take (4 * k)) ++ u8s [z1, z2, z3, z4] = u8s ((outs q).take (4 * k) ++ [z1, z2, z3, z4]) from (List.map_append ..).symm] at h
              case measure => simp [intOf]; omega
            refine AllReady.cons (o := { dst := some 41, op := Op.load 160 (Operand.tmp 40), type := 160, pos := "ref.go:72", after := #[{ on := 12, ground := Ground.data }], guard := none }) rfl (fun K hK => ?_) AllReady.nil
            refine step_load rfl 160 _ rfl (.pointer (some ⟨g, k, none⟩)) rfl _ HLC.out ?_
            refine hK _ _ ?_
            clear hK K
            (try simp only [Act.put, List.setIfInBounds_toArray, List.set_cons_zero, List.set_cons_succ])
            refine wpAny_take (i := 14) (oi := { dst := some 42, op := Op.binOp BinOp.shr 160 (Operand.tmp 41) (Operand.const (Value.int IntKind.u64 8)) 141, type := 160, pos := "ref.go:72", after := #[{ on := 13, ground := Ground.data }], guard := none }) (v := .int .u32 y3) rfl (by kernel_rfl) (by kernel_rfl) (by kernel_rfl) (fun _ _ _ h => h) (Or.inl ⟨by rfl, fun w => by go_simp⟩) ?_
            (try simp only [Act.put, List.setIfInBounds_toArray, List.set_cons_zero, List.set_cons_succ])
            refine wpAny_take (i := 15) (oi := { dst := some 43, op := Op.convert 160 5 (Operand.tmp 42), type := 5, pos := "ref.go:72", after := #[{ on := 14, ground := Ground.data }], guard := none }) (v := .int .u8 z3) rfl (by kernel_rfl) (by kernel_rfl) (by kernel_rfl) (fun _ _ _ h => h) (Or.inl ⟨by rfl, fun w => by go_simp⟩) ?_
            (try simp only [Act.put, List.setIfInBounds_toArray, List.set_cons_zero, List.set_cons_succ])
            refine wpAny_ready (rs := [8]) (by kernel_rfl) (by simp) ?_
            refine AllReady.cons (o := { dst := some 36, op := Op.load 160 (Operand.tmp 35), type := 160, pos := "ref.go:72", after := #[{ on := 7, ground := Ground.data }], guard := none }) rfl (fun K hK => ?_) AllReady.nil
            refine step_load rfl 160 _ rfl (.pointer (some ⟨g, k, none⟩)) rfl _ HLC.out ?_
            refine hK _ _ ?_
            clear hK K
            (try simp only [Act.put, List.setIfInBounds_toArray, List.set_cons_zero, List.set_cons_succ])
            refine wpAny_take (i := 9) (oi := { dst := some 37, op := Op.binOp BinOp.shr 160 (Operand.tmp 36) (Operand.const (Value.int IntKind.u64 16)) 141, type := 160, pos := "ref.go:72", after := #[{ on := 8, ground := Ground.data }], guard := none }) (v := .int .u32 y2) rfl (by kernel_rfl) (by kernel_rfl) (by kernel_rfl) (fun _ _ _ h => h) (Or.inl ⟨by rfl, fun w => by go_simp⟩) ?_
            (try simp only [Act.put, List.setIfInBounds_toArray, List.set_cons_zero, List.set_cons_succ])
            refine wpAny_take (i := 10) (oi := { dst := some 38, op := Op.convert 160 5 (Operand.tmp 37), type := 5, pos := "ref.go:72", after := #[{ on := 9, ground := Ground.data }], guard := none }) (v := .int .u8 z2) rfl (by kernel_rfl) (by kernel_rfl) (by kernel_rfl) (fun _ _ _ h => h) (Or.inl ⟨by rfl, fun w => by go_simp⟩) ?_
            (try simp only [Act.put, List.setIfInBounds_toArray, List.set_cons_zero, List.set_cons_succ])
            refine wpAny_ready (rs := [20]) (by kernel_rfl) (by simp) ?_
            refine AllReady.cons (o := { dst := some 48, op := Op.buildSlice 121 4 #[(0, Operand.tmp 33), (1, Operand.tmp 38), (2, Operand.tmp 43), (3, Operand.tmp 47)], type := 121, pos := "ref.go:72", after := #[{ on := 5, ground := Ground.data }, { on := 10, ground := Ground.data }, { on := 15, ground := Ground.data }, { on := 19, ground := Ground.data }], guard := none }) rfl (fun K hK => ?_) AllReady.nil
            go_simp
            refine hK _ _ ?_
            clear hK K
            (try simp only [Act.put, List.setIfInBounds_toArray, List.set_cons_zero, List.set_cons_succ])
            refine wpAny_ready (rs := [21]) (by kernel_rfl) (by simp) ?_
            refine AllReady.cons (o := { dst := some 49, op := Op.call { callee := Callee.builtin Builtin.append, args := #[Operand.tmp 28, Operand.tmp 48], argTypes := #[121, 121] }, type := 121, pos := "ref.go:72", after := #[{ on := 0, ground := Ground.data }, { on := 20, ground := Ground.data }], guard := none }) rfl (fun K hK => ?_) AllReady.nil
            refine step_append_lies _ (by rfl) (.tmp 28) (.tmp 48) 121 (by rfl) V.heap.size 5 i0 (.int .u8 0) 1 1 Tryz.underlying121 hi hz0 hz1 hz2 rfl (by decide) u6 (4 * k) (u8s ((outs q).take (4 * k))) (by rfl) (hown.out.alloc _) ⟨wr.heap.size, 0, none⟩ 4 4 [.int .u8 z1, .int .u8 z2, .int .u8 z3, .int .u8 z4] (by rfl) rfl
              (World.news_of_block (Go.heap_alloc_new wr (.cells #[.int .u8 z1, .int .u8 z2, .int .u8 z3, .int .u8 z4] 5))) (by intro u hu; simp only [List.mem_cons, List.not_mem_nil, or_false] at hu; rcases hu with rfl | rfl | rfl | rfl <;> rfl) (by decide) (by unfold maxLen; omega) (by omega) (by have := hbl.out.size; simp; omega) _ rfl ?_
            intro g1 cap1 w3 hown1 hgrow _ _
            refine hK _ _ ?_
            clear hK K
            have hb1 : Below V.heap.size V w3 := Below.grown ((hbl.out.alloc (by have := hbl.out.size; omega) _).drew) hgrow (by have := hbl.out.size; show V.heap.size ≤ (wr.alloc _).heap.size; rw [size_alloc']; omega) (fun k hk => (hown.out.lt k hk).1)
            have HO1 := Lib.hid hown1
            have HB1 := Lib.hid hb1
            clear hown1 hb1 hgrow
            (try simp only [Act.put, List.setIfInBounds_toArray, List.set_cons_zero, List.set_cons_succ])
            refine wpAny_take (i := 22) (oi := { dst := some 6, op := Op.assign (Operand.tmp 49), type := 121, pos := "ref.go:72", after := #[{ on := 21, ground := Ground.data }, { on := 21, ground := Ground.chain }, { on := 0, ground := Ground.phase }, { on := 1, ground := Ground.phase }, { on := 2, ground := Ground.phase }, { on := 3, ground := Ground.phase }, { on := 4, ground := Ground.phase }, { on := 5, ground := Ground.phase }, { on := 6, ground := Ground.phase }, { on := 7, ground := Ground.phase }, { on := 8, ground := Ground.phase }, { on := 9, ground := Ground.phase }, { on := 10, ground := Ground.phase }, { on := 11, ground := Ground.phase }, { on := 12, ground := Ground.phase }, { on := 13, ground := Ground.phase }, { on := 14, ground := Ground.phase }, { on := 15, ground := Ground.phase }, { on := 16, ground := Ground.phase }, { on := 17, ground := Ground.phase }, { on := 18, ground := Ground.phase }, { on := 19, ground := Ground.phase }, { on := 20, ground := Ground.phase }, { on := 21, ground := Ground.phase }], guard := none }) (v := .slice (some ⟨g1, 0, none⟩) (4 * k + 4) cap1) rfl (by kernel_rfl) (by kernel_rfl) (by kernel_rfl) (fun _ _ _ h => h) (Or.inl ⟨by rfl, fun w => by go_simp⟩) ?_
            (try simp only [Act.put, List.setIfInBounds_toArray, List.set_cons_zero, List.set_cons_succ])
            refine wpAny_done (by kernel_rfl) ?_ _
            go_wp2_with fail
            go_roundw
            case rel =>
              refine ⟨k + 1, by omega, by go_num, Lib.hid ?_, HB1⟩
              have e : (outs q).take (4 * (k + 1)) = (outs q).take (4 * k) ++ [z1, z2, z3, z4] := by
                rw [outs_next q k hlt2, EC.out, ← EY1.out, ← EY2.out, ← EY3.out, ← EZ1.out, ← EZ2.out, ← EZ3.out, ← EZ4.out]
              rw [e, show 4 * (k + 1) = 4 * k + 4 by omega]
              have h := HO1.out
              rwa [show [Value.int .u8 (z1 : Int), Value.int .u8 (z2 : Int), Value.int .u8 (z3 : Int), Value.int .u8 (z4 : Int)] = u8s [z1, z2, z3, z4] from rfl, show u8s ((outs q).take (4 * k)) ++ u8s [z1, z2, z3, z4] = u8s ((outs q).take (4 * k) ++ [z1, z2, z3, z4]) from (List.map_append ..).symm] at h
            case measure => simp [intOf]; omega
          refine AllReady.cons (o := { dst := some 36, op := Op.load 160 (Operand.tmp 35), type := 160, pos := "ref.go:72", after := #[{ on := 7, ground := Ground.data }], guard := none }) rfl (fun K hK => ?_) ?_
          · refine step_load rfl 160 _ rfl (.pointer (some ⟨g, k, none⟩)) rfl _ HLC.out ?_
            refine hK _ _ ?_
            clear hK K
            (try simp only [Act.put, List.setIfInBounds_toArray, List.set_cons_zero, List.set_cons_succ])
            refine wpAny_take (i := 9) (oi := { dst := some 37, op := Op.binOp BinOp.shr 160 (Operand.tmp 36) (Operand.const (Value.int IntKind.u64 16)) 141, type := 160, pos := "ref.go:72", after := #[{ on := 8, ground := Ground.data }], guard := none }) (v := .int .u32 y2) rfl (by kernel_rfl) (by kernel_rfl) (by kernel_rfl) (fun _ _ _ h => h) (Or.inl ⟨by rfl, fun w => by go_simp⟩) ?_
            (try simp only [Act.put, List.setIfInBounds_toArray, List.set_cons_zero, List.set_cons_succ])
            refine wpAny_take (i := 10) (oi := { dst := some 38, op := Op.convert 160 5 (Operand.tmp 37), type := 5, pos := "ref.go:72", after := #[{ on := 9, ground := Ground.data }], guard := none }) (v := .int .u8 z2) rfl (by kernel_rfl) (by kernel_rfl) (by kernel_rfl) (fun _ _ _ h => h) (Or.inl ⟨by rfl, fun w => by go_simp⟩) ?_
            (try simp only [Act.put, List.setIfInBounds_toArray, List.set_cons_zero, List.set_cons_succ])
            refine wpAny_ready (rs := [3, 13, 18]) (by kernel_rfl) (by simp) ?_
            refine AllReady.cons (o := { dst := some 31, op := Op.load 160 (Operand.tmp 30), type := 160, pos := "ref.go:72", after := #[{ on := 2, ground := Ground.data }], guard := none }) rfl (fun K hK => ?_) ?_
            · refine step_load rfl 160 _ rfl (.pointer (some ⟨g, k, none⟩)) rfl _ HLC.out ?_
              refine hK _ _ ?_
              clear hK K
              (try simp only [Act.put, List.setIfInBounds_toArray, List.set_cons_zero, List.set_cons_succ])
              refine wpAny_take (i := 4) (oi := { dst := some 32, op := Op.binOp BinOp.shr 160 (Operand.tmp 31) (Operand.const (Value.int IntKind.u64 24)) 141, type := 160, pos := "ref.go:72", after := #[{ on := 3, ground := Ground.data }], guard := none }) (v := .int .u32 y1) rfl (by kernel_rfl) (by kernel_rfl) (by kernel_rfl) (fun _ _ _ h => h) (Or.inl ⟨by rfl, fun w => by go_simp⟩) ?_
              (try simp only [Act.put, List.setIfInBounds_toArray, List.set_cons_zero, List.set_cons_succ])
              refine wpAny_take (i := 5) (oi := { dst := some 33, op := Op.convert 160 5 (Operand.tmp 32), type := 5, pos := "ref.go:72", after := #[{ on := 4, ground := Ground.data }], guard := none }) (v := .int .u8 z1) rfl (by kernel_rfl) (by kernel_rfl) (by kernel_rfl) (fun _ _ _ h => h) (Or.inl ⟨by rfl, fun w => by go_simp⟩) ?_
              (try simp only [Act.put, List.setIfInBounds_toArray, List.set_cons_zero, List.set_cons_succ])
              refine wpAny_ready (rs := [13, 18]) (by kernel_rfl) (by simp) ?_
              refine AllReady.cons (o := { dst := some 41, op := Op.load 160 (Operand.tmp 40), type := 160, pos := "ref.go:72", after := #[{ on := 12, ground := Ground.data }], guard := none }) rfl (fun K hK => ?_) ?_
              · refine step_load rfl 160 _ rfl (.pointer (some ⟨g, k, none⟩)) rfl _ HLC.out ?_
                refine hK _ _ ?_
                clear hK K
                (try simp only [Act.put, List.setIfInBounds_toArray, List.set_cons_zero, List.set_cons_succ])
                refine wpAny_take (i := 14) (oi := { dst := some 42, op := Op.binOp BinOp.shr 160 (Operand.tmp 41) (Operand.const (Value.int IntKind.u64 8)) 141, type := 160, pos := "ref.go:72", after := #[{ on := 13, ground := Ground.data }], guard := none }) (v := .int .u32 y3) rfl (by kernel_rfl) (by kernel_rfl) (by kernel_rfl) (fun _ _ _ h => h) (Or.inl ⟨by rfl, fun w => by go_simp⟩) ?_
                (try simp only [Act.put, List.setIfInBounds_toArray, List.set_cons_zero, List.set_cons_succ])
                refine wpAny_take (i := 15) (oi := { dst := some 43, op := Op.convert 160 5 (Operand.tmp 42), type := 5, pos := "ref.go:72", after := #[{ on := 14, ground := Ground.data }], guard := none }) (v := .int .u8 z3) rfl (by kernel_rfl) (by kernel_rfl) (by kernel_rfl) (fun _ _ _ h => h) (Or.inl ⟨by rfl, fun w => by go_simp⟩) ?_
                (try simp only [Act.put, List.setIfInBounds_toArray, List.set_cons_zero, List.set_cons_succ])
                refine wpAny_ready (rs := [18]) (by kernel_rfl) (by simp) ?_
                refine AllReady.cons (o := { dst := some 46, op := Op.load 160 (Operand.tmp 45), type := 160, pos := "ref.go:72", after := #[{ on := 17, ground := Ground.data }], guard := none }) rfl (fun K hK => ?_) AllReady.nil
                refine step_load rfl 160 _ rfl (.pointer (some ⟨g, k, none⟩)) rfl _ HLC.out ?_
                refine hK _ _ ?_
                clear hK K
                (try simp only [Act.put, List.setIfInBounds_toArray, List.set_cons_zero, List.set_cons_succ])
                refine wpAny_take (i := 19) (oi := { dst := some 47, op := Op.convert 160 5 (Operand.tmp 46), type := 5, pos := "ref.go:72", after := #[{ on := 18, ground := Ground.data }], guard := none }) (v := .int .u8 z4) rfl (by kernel_rfl) (by kernel_rfl) (by kernel_rfl) (fun _ _ _ h => h) (Or.inl ⟨by rfl, fun w => by go_simp⟩) ?_
                (try simp only [Act.put, List.setIfInBounds_toArray, List.set_cons_zero, List.set_cons_succ])
                refine wpAny_ready (rs := [20]) (by kernel_rfl) (by simp) ?_
                refine AllReady.cons (o := { dst := some 48, op := Op.buildSlice 121 4 #[(0, Operand.tmp 33), (1, Operand.tmp 38), (2, Operand.tmp 43), (3, Operand.tmp 47)], type := 121, pos := "ref.go:72", after := #[{ on := 5, ground := Ground.data }, { on := 10, ground := Ground.data }, { on := 15, ground := Ground.data }, { on := 19, ground := Ground.data }], guard := none }) rfl (fun K hK => ?_) AllReady.nil
                go_simp
                refine hK _ _ ?_
                clear hK K
                (try simp only [Act.put, List.setIfInBounds_toArray, List.set_cons_zero, List.set_cons_succ])
                refine wpAny_ready (rs := [21]) (by kernel_rfl) (by simp) ?_
                refine AllReady.cons (o := { dst := some 49, op := Op.call { callee := Callee.builtin Builtin.append, args := #[Operand.tmp 28, Operand.tmp 48], argTypes := #[121, 121] }, type := 121, pos := "ref.go:72", after := #[{ on := 0, ground := Ground.data }, { on := 20, ground := Ground.data }], guard := none }) rfl (fun K hK => ?_) AllReady.nil
                refine step_append_lies _ (by rfl) (.tmp 28) (.tmp 48) 121 (by rfl) V.heap.size 5 i0 (.int .u8 0) 1 1 Tryz.underlying121 hi hz0 hz1 hz2 rfl (by decide) u6 (4 * k) (u8s ((outs q).take (4 * k))) (by rfl) (hown.out.alloc _) ⟨wr.heap.size, 0, none⟩ 4 4 [.int .u8 z1, .int .u8 z2, .int .u8 z3, .int .u8 z4] (by rfl) rfl
                  (World.news_of_block (Go.heap_alloc_new wr (.cells #[.int .u8 z1, .int .u8 z2, .int .u8 z3, .int .u8 z4] 5))) (by intro u hu; simp only [List.mem_cons, List.not_mem_nil, or_false] at hu; rcases hu with rfl | rfl | rfl | rfl <;> rfl) (by decide) (by unfold maxLen; omega) (by omega) (by have := hbl.out.size; simp; omega) _ rfl ?_
                intro g1 cap1 w3 hown1 hgrow _ _
                refine hK _ _ ?_
                clear hK K
                have hb1 : Below V.heap.size V w3 := Below.grown ((hbl.out.alloc (by have := hbl.out.size; omega) _).drew) hgrow (by have := hbl.out.size; show V.heap.size ≤ (wr.alloc _).heap.size; rw [size_alloc']; omega) (fun k hk => (hown.out.lt k hk).1)
                have HO1 := Lib.hid hown1
                have HB1 := Lib.hid hb1
                clear hown1 hb1 hgrow
                (try simp only [Act.put, List.setIfInBounds_toArray, List.set_cons_zero, List.set_cons_succ])
                refine wpAny_take (i := 22) (oi := { dst := some 6, op := Op.assign (Operand.tmp 49), type := 121, pos := "ref.go:72", after := #[{ on := 21, ground := Ground.data }, { on := 21, ground := Ground.chain }, { on := 0, ground := Ground.phase }, { on := 1, ground := Ground.phase }, { on := 2, ground := Ground.phase }, { on := 3, ground := Ground.phase }, { on := 4, ground := Ground.phase }, { on := 5, ground := Ground.phase }, { on := 6, ground := Ground.phase }, { on := 7, ground := Ground.phase }, { on := 8, ground := Ground.phase }, { on := 9, ground := Ground.phase }, { on := 10, ground := Ground.phase }, { on := 11, ground := Ground.phase }, { on := 12, ground := Ground.phase }, { on := 13, ground := Ground.phase }, { on := 14, ground := Ground.phase }, { on := 15, ground := Ground.phase }, { on := 16, ground := Ground.phase }, { on := 17, ground := Ground.phase }, { on := 18, ground := Ground.phase }, { on := 19, ground := Ground.phase }, { on := 20, ground := Ground.phase }, { on := 21, ground := Ground.phase }], guard := none }) (v := .slice (some ⟨g1, 0, none⟩) (4 * k + 4) cap1) rfl (by kernel_rfl) (by kernel_rfl) (by kernel_rfl) (fun _ _ _ h => h) (Or.inl ⟨by rfl, fun w => by go_simp⟩) ?_
                (try simp only [Act.put, List.setIfInBounds_toArray, List.set_cons_zero, List.set_cons_succ])
                refine wpAny_done (by kernel_rfl) ?_ _
                go_wp2_with fail
                go_roundw
                case rel =>
                  refine ⟨k + 1, by omega, by go_num, Lib.hid ?_, HB1⟩
                  have e : (outs q).take (4 * (k + 1)) = (outs q).take (4 * k) ++ [z1, z2, z3, z4] := by
                    rw [outs_next q k hlt2, EC.out, ← EY1.out, ← EY2.out, ← EY3.out, ← EZ1.out, ← EZ2.out, ← EZ3.out, ← EZ4.out]
                  rw [e, show 4 * (k + 1) = 4 * k + 4 by omega]
                  have h := HO1.out
                  rwa [show [Value.int .u8 (z1 : Int), Value.int .u8 (z2 : Int), Value.int .u8 (z3 : Int), Value.int .u8 (z4 : Int)] = u8s [z1, z2, z3, z4] from rfl, show u8s ((outs q).take (4 * k)) ++ u8s [z1, z2, z3, z4] = u8s ((outs q).take (4 * k) ++ [z1, z2, z3, z4]) from (List.map_append ..).symm] at h
                case measure => simp [intOf]; omega
              refine AllReady.cons (o := { dst := some 46, op := Op.load 160 (Operand.tmp 45), type := 160, pos := "ref.go:72", after := #[{ on := 17, ground := Ground.data }], guard := none }) rfl (fun K hK => ?_) AllReady.nil
              refine step_load rfl 160 _ rfl (.pointer (some ⟨g, k, none⟩)) rfl _ HLC.out ?_
              refine hK _ _ ?_
              clear hK K
              (try simp only [Act.put, List.setIfInBounds_toArray, List.set_cons_zero, List.set_cons_succ])
              refine wpAny_take (i := 19) (oi := { dst := some 47, op := Op.convert 160 5 (Operand.tmp 46), type := 5, pos := "ref.go:72", after := #[{ on := 18, ground := Ground.data }], guard := none }) (v := .int .u8 z4) rfl (by kernel_rfl) (by kernel_rfl) (by kernel_rfl) (fun _ _ _ h => h) (Or.inl ⟨by rfl, fun w => by go_simp⟩) ?_
              (try simp only [Act.put, List.setIfInBounds_toArray, List.set_cons_zero, List.set_cons_succ])
              refine wpAny_ready (rs := [13]) (by kernel_rfl) (by simp) ?_
              refine AllReady.cons (o := { dst := some 41, op := Op.load 160 (Operand.tmp 40), type := 160, pos := "ref.go:72", after := #[{ on := 12, ground := Ground.data }], guard := none }) rfl (fun K hK => ?_) AllReady.nil
              refine step_load rfl 160 _ rfl (.pointer (some ⟨g, k, none⟩)) rfl _ HLC.out ?_
              refine hK _ _ ?_
              clear hK K
              (try simp only [Act.put, List.setIfInBounds_toArray, List.set_cons_zero, List.set_cons_succ])
              refine wpAny_take (i := 14) (oi := { dst := some 42, op := Op.binOp BinOp.shr 160 (Operand.tmp 41) (Operand.const (Value.int IntKind.u64 8)) 141, type := 160, pos := "ref.go:72", after := #[{ on := 13, ground := Ground.data }], guard := none }) (v := .int .u32 y3) rfl (by kernel_rfl) (by kernel_rfl) (by kernel_rfl) (fun _ _ _ h => h) (Or.inl ⟨by rfl, fun w => by go_simp⟩) ?_
              (try simp only [Act.put, List.setIfInBounds_toArray, List.set_cons_zero, List.set_cons_succ])
              refine wpAny_take (i := 15) (oi := { dst := some 43, op := Op.convert 160 5 (Operand.tmp 42), type := 5, pos := "ref.go:72", after := #[{ on := 14, ground := Ground.data }], guard := none }) (v := .int .u8 z3) rfl (by kernel_rfl) (by kernel_rfl) (by kernel_rfl) (fun _ _ _ h => h) (Or.inl ⟨by rfl, fun w => by go_simp⟩) ?_
              (try simp only [Act.put, List.setIfInBounds_toArray, List.set_cons_zero, List.set_cons_succ])
              refine wpAny_ready (rs := [20]) (by kernel_rfl) (by simp) ?_
              refine AllReady.cons (o := { dst := some 48, op := Op.buildSlice 121 4 #[(0, Operand.tmp 33), (1, Operand.tmp 38), (2, Operand.tmp 43), (3, Operand.tmp 47)], type := 121, pos := "ref.go:72", after := #[{ on := 5, ground := Ground.data }, { on := 10, ground := Ground.data }, { on := 15, ground := Ground.data }, { on := 19, ground := Ground.data }], guard := none }) rfl (fun K hK => ?_) AllReady.nil
              go_simp
              refine hK _ _ ?_
              clear hK K
              (try simp only [Act.put, List.setIfInBounds_toArray, List.set_cons_zero, List.set_cons_succ])
              refine wpAny_ready (rs := [21]) (by kernel_rfl) (by simp) ?_
              refine AllReady.cons (o := { dst := some 49, op := Op.call { callee := Callee.builtin Builtin.append, args := #[Operand.tmp 28, Operand.tmp 48], argTypes := #[121, 121] }, type := 121, pos := "ref.go:72", after := #[{ on := 0, ground := Ground.data }, { on := 20, ground := Ground.data }], guard := none }) rfl (fun K hK => ?_) AllReady.nil
              refine step_append_lies _ (by rfl) (.tmp 28) (.tmp 48) 121 (by rfl) V.heap.size 5 i0 (.int .u8 0) 1 1 Tryz.underlying121 hi hz0 hz1 hz2 rfl (by decide) u6 (4 * k) (u8s ((outs q).take (4 * k))) (by rfl) (hown.out.alloc _) ⟨wr.heap.size, 0, none⟩ 4 4 [.int .u8 z1, .int .u8 z2, .int .u8 z3, .int .u8 z4] (by rfl) rfl
                (World.news_of_block (Go.heap_alloc_new wr (.cells #[.int .u8 z1, .int .u8 z2, .int .u8 z3, .int .u8 z4] 5))) (by intro u hu; simp only [List.mem_cons, List.not_mem_nil, or_false] at hu; rcases hu with rfl | rfl | rfl | rfl <;> rfl) (by decide) (by unfold maxLen; omega) (by omega) (by have := hbl.out.size; simp; omega) _ rfl ?_
              intro g1 cap1 w3 hown1 hgrow _ _
              refine hK _ _ ?_
              clear hK K
              have hb1 : Below V.heap.size V w3 := Below.grown ((hbl.out.alloc (by have := hbl.out.size; omega) _).drew) hgrow (by have := hbl.out.size; show V.heap.size ≤ (wr.alloc _).heap.size; rw [size_alloc']; omega) (fun k hk => (hown.out.lt k hk).1)
              have HO1 := Lib.hid hown1
              have HB1 := Lib.hid hb1
              clear hown1 hb1 hgrow
              (try simp only [Act.put, List.setIfInBounds_toArray, List.set_cons_zero, List.set_cons_succ])
              refine wpAny_take (i := 22) (oi := { dst := some 6, op := Op.assign (Operand.tmp 49), type := 121, pos := "ref.go:72", after := #[{ on := 21, ground := Ground.data }, { on := 21, ground := Ground.chain }, { on := 0, ground := Ground.phase }, { on := 1, ground := Ground.phase }, { on := 2, ground := Ground.phase }, { on := 3, ground := Ground.phase }, { on := 4, ground := Ground.phase }, { on := 5, ground := Ground.phase }, { on := 6, ground := Ground.phase }, { on := 7, ground := Ground.phase }, { on := 8, ground := Ground.phase }, { on := 9, ground := Ground.phase }, { on := 10, ground := Ground.phase }, { on := 11, ground := Ground.phase }, { on := 12, ground := Ground.phase }, { on := 13, ground := Ground.phase }, { on := 14, ground := Ground.phase }, { on := 15, ground := Ground.phase }, { on := 16, ground := Ground.phase }, { on := 17, ground := Ground.phase }, { on := 18, ground := Ground.phase }, { on := 19, ground := Ground.phase }, { on := 20, ground := Ground.phase }, { on := 21, ground := Ground.phase }], guard := none }) (v := .slice (some ⟨g1, 0, none⟩) (4 * k + 4) cap1) rfl (by kernel_rfl) (by kernel_rfl) (by kernel_rfl) (fun _ _ _ h => h) (Or.inl ⟨by rfl, fun w => by go_simp⟩) ?_
              (try simp only [Act.put, List.setIfInBounds_toArray, List.set_cons_zero, List.set_cons_succ])
              refine wpAny_done (by kernel_rfl) ?_ _
              go_wp2_with fail
              go_roundw
              case rel =>
                refine ⟨k + 1, by omega, by go_num, Lib.hid ?_, HB1⟩
                have e : (outs q).take (4 * (k + 1)) = (outs q).take (4 * k) ++ [z1, z2, z3, z4] := by
                  rw [outs_next q k hlt2, EC.out, ← EY1.out, ← EY2.out, ← EY3.out, ← EZ1.out, ← EZ2.out, ← EZ3.out, ← EZ4.out]
                rw [e, show 4 * (k + 1) = 4 * k + 4 by omega]
                have h := HO1.out
                rwa [show [Value.int .u8 (z1 : Int), Value.int .u8 (z2 : Int), Value.int .u8 (z3 : Int), Value.int .u8 (z4 : Int)] = u8s [z1, z2, z3, z4] from rfl, show u8s ((outs q).take (4 * k)) ++ u8s [z1, z2, z3, z4] = u8s ((outs q).take (4 * k) ++ [z1, z2, z3, z4]) from (List.map_append ..).symm] at h
              case measure => simp [intOf]; omega
            refine AllReady.cons (o := { dst := some 41, op := Op.load 160 (Operand.tmp 40), type := 160, pos := "ref.go:72", after := #[{ on := 12, ground := Ground.data }], guard := none }) rfl (fun K hK => ?_) ?_
            · refine step_load rfl 160 _ rfl (.pointer (some ⟨g, k, none⟩)) rfl _ HLC.out ?_
              refine hK _ _ ?_
              clear hK K
              (try simp only [Act.put, List.setIfInBounds_toArray, List.set_cons_zero, List.set_cons_succ])
              refine wpAny_take (i := 14) (oi := { dst := some 42, op := Op.binOp BinOp.shr 160 (Operand.tmp 41) (Operand.const (Value.int IntKind.u64 8)) 141, type := 160, pos := "ref.go:72", after := #[{ on := 13, ground := Ground.data }], guard := none }) (v := .int .u32 y3) rfl (by kernel_rfl) (by kernel_rfl) (by kernel_rfl) (fun _ _ _ h => h) (Or.inl ⟨by rfl, fun w => by go_simp⟩) ?_
              (try simp only [Act.put, List.setIfInBounds_toArray, List.set_cons_zero, List.set_cons_succ])
              refine wpAny_take (i := 15) (oi := { dst := some 43, op := Op.convert 160 5 (Operand.tmp 42), type := 5, pos := "ref.go:72", after := #[{ on := 14, ground := Ground.data }], guard := none }) (v := .int .u8 z3) rfl (by kernel_rfl) (by kernel_rfl) (by kernel_rfl) (fun _ _ _ h => h) (Or.inl ⟨by rfl, fun w => by go_simp⟩) ?_
              (try simp only [Act.put, List.setIfInBounds_toArray, List.set_cons_zero, List.set_cons_succ])
              refine wpAny_ready (rs := [3, 18]) (by kernel_rfl) (by simp) ?_
              refine AllReady.cons (o := { dst := some 31, op := Op.load 160 (Operand.tmp 30), type := 160, pos := "ref.go:72", after := #[{ on := 2, ground := Ground.data }], guard := none }) rfl (fun K hK => ?_) ?_
              · refine step_load rfl 160 _ rfl (.pointer (some ⟨g, k, none⟩)) rfl _ HLC.out ?_
                refine hK _ _ ?_
                clear hK K
                (try simp only [Act.put, List.setIfInBounds_toArray, List.set_cons_zero, List.set_cons_succ])
                refine wpAny_take (i := 4) (oi := { dst := some 32, op := Op.binOp BinOp.shr 160 (Operand.tmp 31) (Operand.const (Value.int IntKind.u64 24)) 141, type := 160, pos := "ref.go:72", after := #[{ on := 3, ground := Ground.data }], guard := none }) (v := .int .u32 y1) rfl (by kernel_rfl) (by kernel_rfl) (by kernel_rfl) (fun _ _ _ h => h) (Or.inl ⟨by rfl, fun w => by go_simp⟩) ?_
                (try simp only [Act.put, List.setIfInBounds_toArray, List.set_cons_zero, List.set_cons_succ])
                refine wpAny_take (i := 5) (oi := { dst := some 33, op := Op.convert 160 5 (Operand.tmp 32), type := 5, pos := "ref.go:72", after := #[{ on := 4, ground := Ground.data }], guard := none }) (v := .int .u8 z1) rfl (by kernel_rfl) (by kernel_rfl) (by kernel_rfl) (fun _ _ _ h => h) (Or.inl ⟨by rfl, fun w => by go_simp⟩) ?_
                (try simp only [Act.put, List.setIfInBounds_toArray, List.set_cons_zero, List.set_cons_succ])
                refine wpAny_ready (rs := [18]) (by kernel_rfl) (by simp) ?_
                refine AllReady.cons (o := { dst := some 46, op := Op.load 160 (Operand.tmp 45), type := 160, pos := "ref.go:72", after := #[{ on := 17, ground := Ground.data }], guard := none }) rfl (fun K hK => ?_) AllReady.nil
                refine step_load rfl 160 _ rfl (.pointer (some ⟨g, k, none⟩)) rfl _ HLC.out ?_
                refine hK _ _ ?_
                clear hK K
                (try simp only [Act.put, List.setIfInBounds_toArray, List.set_cons_zero, List.set_cons_succ])
                refine wpAny_take (i := 19) (oi := { dst := some 47, op := Op.convert 160 5 (Operand.tmp 46), type := 5, pos := "ref.go:72", after := #[{ on := 18, ground := Ground.data }], guard := none }) (v := .int .u8 z4) rfl (by kernel_rfl) (by kernel_rfl) (by kernel_rfl) (fun _ _ _ h => h) (Or.inl ⟨by rfl, fun w => by go_simp⟩) ?_
                (try simp only [Act.put, List.setIfInBounds_toArray, List.set_cons_zero, List.set_cons_succ])
                refine wpAny_ready (rs := [20]) (by kernel_rfl) (by simp) ?_
                refine AllReady.cons (o := { dst := some 48, op := Op.buildSlice 121 4 #[(0, Operand.tmp 33), (1, Operand.tmp 38), (2, Operand.tmp 43), (3, Operand.tmp 47)], type := 121, pos := "ref.go:72", after := #[{ on := 5, ground := Ground.data }, { on := 10, ground := Ground.data }, { on := 15, ground := Ground.data }, { on := 19, ground := Ground.data }], guard := none }) rfl (fun K hK => ?_) AllReady.nil
                go_simp
                refine hK _ _ ?_
                clear hK K
                (try simp only [Act.put, List.setIfInBounds_toArray, List.set_cons_zero, List.set_cons_succ])
                refine wpAny_ready (rs := [21]) (by kernel_rfl) (by simp) ?_
                refine AllReady.cons (o := { dst := some 49, op := Op.call { callee := Callee.builtin Builtin.append, args := #[Operand.tmp 28, Operand.tmp 48], argTypes := #[121, 121] }, type := 121, pos := "ref.go:72", after := #[{ on := 0, ground := Ground.data }, { on := 20, ground := Ground.data }], guard := none }) rfl (fun K hK => ?_) AllReady.nil
                refine step_append_lies _ (by rfl) (.tmp 28) (.tmp 48) 121 (by rfl) V.heap.size 5 i0 (.int .u8 0) 1 1 Tryz.underlying121 hi hz0 hz1 hz2 rfl (by decide) u6 (4 * k) (u8s ((outs q).take (4 * k))) (by rfl) (hown.out.alloc _) ⟨wr.heap.size, 0, none⟩ 4 4 [.int .u8 z1, .int .u8 z2, .int .u8 z3, .int .u8 z4] (by rfl) rfl
                  (World.news_of_block (Go.heap_alloc_new wr (.cells #[.int .u8 z1, .int .u8 z2, .int .u8 z3, .int .u8 z4] 5))) (by intro u hu; simp only [List.mem_cons, List.not_mem_nil, or_false] at hu; rcases hu with rfl | rfl | rfl | rfl <;> rfl) (by decide) (by unfold maxLen; omega) (by omega) (by have := hbl.out.size; simp; omega) _ rfl ?_
                intro g1 cap1 w3 hown1 hgrow _ _
                refine hK _ _ ?_
                clear hK K
                have hb1 : Below V.heap.size V w3 := Below.grown ((hbl.out.alloc (by have := hbl.out.size; omega) _).drew) hgrow (by have := hbl.out.size; show V.heap.size ≤ (wr.alloc _).heap.size; rw [size_alloc']; omega) (fun k hk => (hown.out.lt k hk).1)
                have HO1 := Lib.hid hown1
                have HB1 := Lib.hid hb1
                clear hown1 hb1 hgrow
                (try simp only [Act.put, List.setIfInBounds_toArray, List.set_cons_zero, List.set_cons_succ])
                refine wpAny_take (i := 22) (oi := { dst := some 6, op := Op.assign (Operand.tmp 49), type := 121, pos := "ref.go:72", after := #[{ on := 21, ground := Ground.data }, { on := 21, ground := Ground.chain }, { on := 0, ground := Ground.phase }, { on := 1, ground := Ground.phase }, { on := 2, ground := Ground.phase }, { on := 3, ground := Ground.phase }, { on := 4, ground := Ground.phase }, { on := 5, ground := Ground.phase }, { on := 6, ground := Ground.phase }, { on := 7, ground := Ground.phase }, { on := 8, ground := Ground.phase }, { on := 9, ground := Ground.phase }, { on := 10, ground := Ground.phase }, { on := 11, ground := Ground.phase }, { on := 12, ground := Ground.phase }, { on := 13, ground := Ground.phase }, { on := 14, ground := Ground.phase }, { on := 15, ground := Ground.phase }, { on := 16, ground := Ground.phase }, { on := 17, ground := Ground.phase }, { on := 18, ground := Ground.phase }, { on := 19, ground := Ground.phase }, { on := 20, ground := Ground.phase }, { on := 21, ground := Ground.phase }], guard := none }) (v := .slice (some ⟨g1, 0, none⟩) (4 * k + 4) cap1) rfl (by kernel_rfl) (by kernel_rfl) (by kernel_rfl) (fun _ _ _ h => h) (Or.inl ⟨by rfl, fun w => by go_simp⟩) ?_
                (try simp only [Act.put, List.setIfInBounds_toArray, List.set_cons_zero, List.set_cons_succ])
                refine wpAny_done (by kernel_rfl) ?_ _
                go_wp2_with fail
                go_roundw
                case rel =>
                  refine ⟨k + 1, by omega, by go_num, Lib.hid ?_, HB1⟩
                  have e : (outs q).take (4 * (k + 1)) = (outs q).take (4 * k) ++ [z1, z2, z3, z4] := by
                    rw [outs_next q k hlt2, EC.out, ← EY1.out, ← EY2.out, ← EY3.out, ← EZ1.out, ← EZ2.out, ← EZ3.out, ← EZ4.out]
                  rw [e, show 4 * (k + 1) = 4 * k + 4 by omega]
                  have h := HO1.out
                  rwa [show [Value.int .u8 (z1 : Int), Value.int .u8 (z2 : Int), Value.int .u8 (z3 : Int), Value.int .u8 (z4 : Int)] = u8s [z1, z2, z3, z4] from rfl, show u8s ((outs q).take (4 * k)) ++ u8s [z1, z2, z3, z4] = u8s ((outs q).take (4 * k) ++ [z1, z2, z3, z4]) from (List.map_append ..).symm] at h
                case measure => simp [intOf]; omega
              refine AllReady.cons (o := { dst := some 46, op := Op.load 160 (Operand.tmp 45), type := 160, pos := "ref.go:72", after := #[{ on := 17, ground := Ground.data }], guard := none }) rfl (fun K hK => ?_) AllReady.nil
              refine step_load rfl 160 _ rfl (.pointer (some ⟨g, k, none⟩)) rfl _ HLC.out ?_
              refine hK _ _ ?_
              clear hK K
              (try simp only [Act.put, List.setIfInBounds_toArray, List.set_cons_zero, List.set_cons_succ])
              refine wpAny_take (i := 19) (oi := { dst := some 47, op := Op.convert 160 5 (Operand.tmp 46), type := 5, pos := "ref.go:72", after := #[{ on := 18, ground := Ground.data }], guard := none }) (v := .int .u8 z4) rfl (by kernel_rfl) (by kernel_rfl) (by kernel_rfl) (fun _ _ _ h => h) (Or.inl ⟨by rfl, fun w => by go_simp⟩) ?_
              (try simp only [Act.put, List.setIfInBounds_toArray, List.set_cons_zero, List.set_cons_succ])
              refine wpAny_ready (rs := [3]) (by kernel_rfl) (by simp) ?_
              refine AllReady.cons (o := { dst := some 31, op := Op.load 160 (Operand.tmp 30), type := 160, pos := "ref.go:72", after := #[{ on := 2, ground := Ground.data }], guard := none }) rfl (fun K hK => ?_) AllReady.nil
              refine step_load rfl 160 _ rfl (.pointer (some ⟨g, k, none⟩)) rfl _ HLC.out ?_
              refine hK _ _ ?_
              clear hK K
              (try simp only [Act.put, List.setIfInBounds_toArray, List.set_cons_zero, List.set_cons_succ])
              refine wpAny_take (i := 4) (oi := { dst := some 32, op := Op.binOp BinOp.shr 160 (Operand.tmp 31) (Operand.const (Value.int IntKind.u64 24)) 141, type := 160, pos := "ref.go:72", after := #[{ on := 3, ground := Ground.data }], guard := none }) (v := .int .u32 y1) rfl (by kernel_rfl) (by kernel_rfl) (by kernel_rfl) (fun _ _ _ h => h) (Or.inl ⟨by rfl, fun w => by go_simp⟩) ?_
              (try simp only [Act.put, List.setIfInBounds_toArray, List.set_cons_zero, List.set_cons_succ])
              refine wpAny_take (i := 5) (oi := { dst := some 33, op := Op.convert 160 5 (Operand.tmp 32), type := 5, pos := "ref.go:72", after := #[{ on := 4, ground := Ground.data }], guard := none }) (v := .int .u8 z1) rfl (by kernel_rfl) (by kernel_rfl) (by kernel_rfl) (fun _ _ _ h => h) (Or.inl ⟨by rfl, fun w => by go_simp⟩) ?_
              (try simp only [Act.put, List.setIfInBounds_toArray, List.set_cons_zero, List.set_cons_succ])
              refine wpAny_ready (rs := [20]) (by kernel_rfl) (by simp) ?_
              refine AllReady.cons (o := { dst := some 48, op := Op.buildSlice 121 4 #[(0, Operand.tmp 33), (1, Operand.tmp 38), (2, Operand.tmp 43), (3, Operand.tmp 47)], type := 121, pos := "ref.go:72", after := #[{ on := 5, ground := Ground.data }, { on := 10, ground := Ground.data }, { on := 15, ground := Ground.data }, { on := 19, ground := Ground.data }], guard := none }) rfl (fun K hK => ?_) AllReady.nil
              go_simp
              refine hK _ _ ?_
              clear hK K
              (try simp only [Act.put, List.setIfInBounds_toArray, List.set_cons_zero, List.set_cons_succ])
              refine wpAny_ready (rs := [21]) (by kernel_rfl) (by simp) ?_
              refine AllReady.cons (o := { dst := some 49, op := Op.call { callee := Callee.builtin Builtin.append, args := #[Operand.tmp 28, Operand.tmp 48], argTypes := #[121, 121] }, type := 121, pos := "ref.go:72", after := #[{ on := 0, ground := Ground.data }, { on := 20, ground := Ground.data }], guard := none }) rfl (fun K hK => ?_) AllReady.nil
              refine step_append_lies _ (by rfl) (.tmp 28) (.tmp 48) 121 (by rfl) V.heap.size 5 i0 (.int .u8 0) 1 1 Tryz.underlying121 hi hz0 hz1 hz2 rfl (by decide) u6 (4 * k) (u8s ((outs q).take (4 * k))) (by rfl) (hown.out.alloc _) ⟨wr.heap.size, 0, none⟩ 4 4 [.int .u8 z1, .int .u8 z2, .int .u8 z3, .int .u8 z4] (by rfl) rfl
                (World.news_of_block (Go.heap_alloc_new wr (.cells #[.int .u8 z1, .int .u8 z2, .int .u8 z3, .int .u8 z4] 5))) (by intro u hu; simp only [List.mem_cons, List.not_mem_nil, or_false] at hu; rcases hu with rfl | rfl | rfl | rfl <;> rfl) (by decide) (by unfold maxLen; omega) (by omega) (by have := hbl.out.size; simp; omega) _ rfl ?_
              intro g1 cap1 w3 hown1 hgrow _ _
              refine hK _ _ ?_
              clear hK K
              have hb1 : Below V.heap.size V w3 := Below.grown ((hbl.out.alloc (by have := hbl.out.size; omega) _).drew) hgrow (by have := hbl.out.size; show V.heap.size ≤ (wr.alloc _).heap.size; rw [size_alloc']; omega) (fun k hk => (hown.out.lt k hk).1)
              have HO1 := Lib.hid hown1
              have HB1 := Lib.hid hb1
              clear hown1 hb1 hgrow
              (try simp only [Act.put, List.setIfInBounds_toArray, List.set_cons_zero, List.set_cons_succ])
              refine wpAny_take (i := 22) (oi := { dst := some 6, op := Op.assign (Operand.tmp 49), type := 121, pos := "ref.go:72", after := #[{ on := 21, ground := Ground.data }, { on := 21, ground := Ground.chain }, { on := 0, ground := Ground.phase }, { on := 1, ground := Ground.phase }, { on := 2, ground := Ground.phase }, { on := 3, ground := Ground.phase }, { on := 4, ground := Ground.phase }, { on := 5, ground := Ground.phase }, { on := 6, ground := Ground.phase }, { on := 7, ground := Ground.phase }, { on := 8, ground := Ground.phase }, { on := 9, ground := Ground.phase }, { on := 10, ground := Ground.phase }, { on := 11, ground := Ground.phase }, { on := 12, ground := Ground.phase }, { on := 13, ground := Ground.phase }, { on := 14, ground := Ground.phase }, { on := 15, ground := Ground.phase }, { on := 16, ground := Ground.phase }, { on := 17, ground := Ground.phase }, { on := 18, ground := Ground.phase }, { on := 19, ground := Ground.phase }, { on := 20, ground := Ground.phase }, { on := 21, ground := Ground.phase }], guard := none }) (v := .slice (some ⟨g1, 0, none⟩) (4 * k + 4) cap1) rfl (by kernel_rfl) (by kernel_rfl) (by kernel_rfl) (fun _ _ _ h => h) (Or.inl ⟨by rfl, fun w => by go_simp⟩) ?_
              (try simp only [Act.put, List.setIfInBounds_toArray, List.set_cons_zero, List.set_cons_succ])
              refine wpAny_done (by kernel_rfl) ?_ _
              go_wp2_with fail
              go_roundw
              case rel =>
                refine ⟨k + 1, by omega, by go_num, Lib.hid ?_, HB1⟩
                have e : (outs q).take (4 * (k + 1)) = (outs q).take (4 * k) ++ [z1, z2, z3, z4] := by
                  rw [outs_next q k hlt2, EC.out, ← EY1.out, ← EY2.out, ← EY3.out, ← EZ1.out, ← EZ2.out, ← EZ3.out, ← EZ4.out]
                rw [e, show 4 * (k + 1) = 4 * k + 4 by omega]
                have h := HO1.out
                rwa [show [Value.int .u8 (z1 : Int), Value.int .u8 (z2 : Int), Value.int .u8 (z3 : Int), Value.int .u8 (z4 : Int)] = u8s [z1, z2, z3, z4] from rfl, show u8s ((outs q).take (4 * k)) ++ u8s [z1, z2, z3, z4] = u8s ((outs q).take (4 * k) ++ [z1, z2, z3, z4]) from (List.map_append ..).symm] at h
              case measure => simp [intOf]; omega
            refine AllReady.cons (o := { dst := some 46, op := Op.load 160 (Operand.tmp 45), type := 160, pos := "ref.go:72", after := #[{ on := 17, ground := Ground.data }], guard := none }) rfl (fun K hK => ?_) AllReady.nil
            refine step_load rfl 160 _ rfl (.pointer (some ⟨g, k, none⟩)) rfl _ HLC.out ?_
            refine hK _ _ ?_
            clear hK K
            (try simp only [Act.put, List.setIfInBounds_toArray, List.set_cons_zero, List.set_cons_succ])
            refine wpAny_take (i := 19) (oi := { dst := some 47, op := Op.convert 160 5 (Operand.tmp 46), type := 5, pos := "ref.go:72", after := #[{ on := 18, ground := Ground.data }], guard := none }) (v := .int .u8 z4) rfl (by kernel_rfl) (by kernel_rfl) (by kernel_rfl) (fun _ _ _ h => h) (Or.inl ⟨by rfl, fun w => by go_simp⟩) ?_
            (try simp only [Act.put, List.setIfInBounds_toArray, List.set_cons_zero, List.set_cons_succ])
            refine wpAny_ready (rs := [3, 13]) (by kernel_rfl) (by simp) ?_
            refine AllReady.cons (o := { dst := some 31, op := Op.load 160 (Operand.tmp 30), type := 160, pos := "ref.go:72", after := #[{ on := 2, ground := Ground.data }], guard := none }) rfl (fun K hK => ?_) ?_
            · refine step_load rfl 160 _ rfl (.pointer (some ⟨g, k, none⟩)) rfl _ HLC.out ?_
              refine hK _ _ ?_
              clear hK K
              (try simp only [Act.put, List.setIfInBounds_toArray, List.set_cons_zero, List.set_cons_succ])
              refine wpAny_take (i := 4) (oi := { dst := some 32, op := Op.binOp BinOp.shr 160 (Operand.tmp 31) (Operand.const (Value.int IntKind.u64 24)) 141, type := 160, pos := "ref.go:72", after := #[{ on := 3, ground := Ground.data }], guard := none }) (v := .int .u32 y1) rfl (by kernel_rfl) (by kernel_rfl) (by kernel_rfl) (fun _ _ _ h => h) (Or.inl ⟨by rfl, fun w => by go_simp⟩) ?_
              (try simp only [Act.put, List.setIfInBounds_toArray, List.set_cons_zero, List.set_cons_succ])
              refine wpAny_take (i := 5) (oi := { dst := some 33, op := Op.convert 160 5 (Operand.tmp 32), type := 5, pos := "ref.go:72", after := #[{ on := 4, ground := Ground.data }], guard := none }) (v := .int .u8 z1) rfl (by kernel_rfl) (by kernel_rfl) (by kernel_rfl) (fun _ _ _ h => h) (Or.inl ⟨by rfl, fun w => by go_simp⟩) ?_
              (try simp only [Act.put, List.setIfInBounds_toArray, List.set_cons_zero, List.set_cons_succ])
              refine wpAny_ready (rs := [13]) (by kernel_rfl) (by simp) ?_
              refine AllReady.cons (o := { dst := some 41, op := Op.load 160 (Operand.tmp 40), type := 160, pos := "ref.go:72", after := #[{ on := 12, ground := Ground.data }], guard := none }) rfl (fun K hK => ?_) AllReady.nil
              refine step_load rfl 160 _ rfl (.pointer (some ⟨g, k, none⟩)) rfl _ HLC.out ?_
              refine hK _ _ ?_
              clear hK K
              (try simp only [Act.put, List.setIfInBounds_toArray, List.set_cons_zero, List.set_cons_succ])
              refine wpAny_take (i := 14) (oi := { dst := some 42, op := Op.binOp BinOp.shr 160 (Operand.tmp 41) (Operand.const (Value.int IntKind.u64 8)) 141, type := 160, pos := "ref.go:72", after := #[{ on := 13, ground := Ground.data }], guard := none }) (v := .int .u32 y3) rfl (by kernel_rfl) (by kernel_rfl) (by kernel_rfl) (fun _ _ _ h => h) (Or.inl ⟨by rfl, fun w => by go_simp⟩) ?_
              (try simp only [Act.put, List.setIfInBounds_toArray, List.set_cons_zero, List.set_cons_succ])
              refine wpAny_take (i := 15) (oi := { dst := some 43, op := Op.convert 160 5 (Operand.tmp 42), type := 5, pos := "ref.go:72", after := #[{ on := 14, ground := Ground.data }], guard := none }) (v := .int .u8 z3) rfl (by kernel_rfl) (by kernel_rfl) (by kernel_rfl) (fun _ _ _ h => h) (Or.inl ⟨by rfl, fun w => by go_simp⟩) ?_
              (try simp only [Act.put, List.setIfInBounds_toArray, List.set_cons_zero, List.set_cons_succ])
              refine wpAny_ready (rs := [20]) (by kernel_rfl) (by simp) ?_
              refine AllReady.cons (o := { dst := some 48, op := Op.buildSlice 121 4 #[(0, Operand.tmp 33), (1, Operand.tmp 38), (2, Operand.tmp 43), (3, Operand.tmp 47)], type := 121, pos := "ref.go:72", after := #[{ on := 5, ground := Ground.data }, { on := 10, ground := Ground.data }, { on := 15, ground := Ground.data }, { on := 19, ground := Ground.data }], guard := none }) rfl (fun K hK => ?_) AllReady.nil
              go_simp
              refine hK _ _ ?_
              clear hK K
              (try simp only [Act.put, List.setIfInBounds_toArray, List.set_cons_zero, List.set_cons_succ])
              refine wpAny_ready (rs := [21]) (by kernel_rfl) (by simp) ?_
              refine AllReady.cons (o := { dst := some 49, op := Op.call { callee := Callee.builtin Builtin.append, args := #[Operand.tmp 28, Operand.tmp 48], argTypes := #[121, 121] }, type := 121, pos := "ref.go:72", after := #[{ on := 0, ground := Ground.data }, { on := 20, ground := Ground.data }], guard := none }) rfl (fun K hK => ?_) AllReady.nil
              refine step_append_lies _ (by rfl) (.tmp 28) (.tmp 48) 121 (by rfl) V.heap.size 5 i0 (.int .u8 0) 1 1 Tryz.underlying121 hi hz0 hz1 hz2 rfl (by decide) u6 (4 * k) (u8s ((outs q).take (4 * k))) (by rfl) (hown.out.alloc _) ⟨wr.heap.size, 0, none⟩ 4 4 [.int .u8 z1, .int .u8 z2, .int .u8 z3, .int .u8 z4] (by rfl) rfl
                (World.news_of_block (Go.heap_alloc_new wr (.cells #[.int .u8 z1, .int .u8 z2, .int .u8 z3, .int .u8 z4] 5))) (by intro u hu; simp only [List.mem_cons, List.not_mem_nil, or_false] at hu; rcases hu with rfl | rfl | rfl | rfl <;> rfl) (by decide) (by unfold maxLen; omega) (by omega) (by have := hbl.out.size; simp; omega) _ rfl ?_
              intro g1 cap1 w3 hown1 hgrow _ _
              refine hK _ _ ?_
              clear hK K
              have hb1 : Below V.heap.size V w3 := Below.grown ((hbl.out.alloc (by have := hbl.out.size; omega) _).drew) hgrow (by have := hbl.out.size; show V.heap.size ≤ (wr.alloc _).heap.size; rw [size_alloc']; omega) (fun k hk => (hown.out.lt k hk).1)
              have HO1 := Lib.hid hown1
              have HB1 := Lib.hid hb1
              clear hown1 hb1 hgrow
              (try simp only [Act.put, List.setIfInBounds_toArray, List.set_cons_zero, List.set_cons_succ])
              refine wpAny_take (i := 22) (oi := { dst := some 6, op := Op.assign (Operand.tmp 49), type := 121, pos := "ref.go:72", after := #[{ on := 21, ground := Ground.data }, { on := 21, ground := Ground.chain }, { on := 0, ground := Ground.phase }, { on := 1, ground := Ground.phase }, { on := 2, ground := Ground.phase }, { on := 3, ground := Ground.phase }, { on := 4, ground := Ground.phase }, { on := 5, ground := Ground.phase }, { on := 6, ground := Ground.phase }, { on := 7, ground := Ground.phase }, { on := 8, ground := Ground.phase }, { on := 9, ground := Ground.phase }, { on := 10, ground := Ground.phase }, { on := 11, ground := Ground.phase }, { on := 12, ground := Ground.phase }, { on := 13, ground := Ground.phase }, { on := 14, ground := Ground.phase }, { on := 15, ground := Ground.phase }, { on := 16, ground := Ground.phase }, { on := 17, ground := Ground.phase }, { on := 18, ground := Ground.phase }, { on := 19, ground := Ground.phase }, { on := 20, ground := Ground.phase }, { on := 21, ground := Ground.phase }], guard := none }) (v := .slice (some ⟨g1, 0, none⟩) (4 * k + 4) cap1) rfl (by kernel_rfl) (by kernel_rfl) (by kernel_rfl) (fun _ _ _ h => h) (Or.inl ⟨by rfl, fun w => by go_simp⟩) ?_
              (try simp only [Act.put, List.setIfInBounds_toArray, List.set_cons_zero, List.set_cons_succ])
              refine wpAny_done (by kernel_rfl) ?_ _
              go_wp2_with fail
              go_roundw
              case rel =>
                refine ⟨k + 1, by omega, by go_num, Lib.hid ?_, HB1⟩
                have e : (outs q).take (4 * (k + 1)) = (outs q).take (4 * k) ++ [z1, z2, z3, z4] := by
                  rw [outs_next q k hlt2, EC.out, ← EY1.out, ← EY2.out, ← EY3.out, ← EZ1.out, ← EZ2.out, ← EZ3.out, ← EZ4.out]
                rw [e, show 4 * (k + 1) = 4 * k + 4 by omega]
                have h := HO1.out
                rwa [show [Value.int .u8 (z1 : Int), Value.int .u8 (z2 : Int), Value.int .u8 (z3 : Int), Value.int .u8 (z4 : Int)] = u8s [z1, z2, z3, z4] from rfl, show u8s ((outs q).take (4 * k)) ++ u8s [z1, z2, z3, z4] = u8s ((outs q).take (4 * k) ++ [z1, z2, z3, z4]) from (List.map_append ..).symm] at h
              case measure => simp [intOf]; omega
            refine AllReady.cons (o := { dst := some 41, op := Op.load 160 (Operand.tmp 40), type := 160, pos := "ref.go:72", after := #[{ on := 12, ground := Ground.data }], guard := none }) rfl (fun K hK => ?_) AllReady.nil
            refine step_load rfl 160 _ rfl (.pointer (some ⟨g, k, none⟩)) rfl _ HLC.out ?_
            refine hK _ _ ?_
            clear hK K
            (try simp only [Act.put, List.setIfInBounds_toArray, List.set_cons_zero, List.set_cons_succ])
            refine wpAny_take (i := 14) (oi := { dst := some 42, op := Op.binOp BinOp.shr 160 (Operand.tmp 41) (Operand.const (Value.int IntKind.u64 8)) 141, type := 160, pos := "ref.go:72", after := #[{ on := 13, ground := Ground.data }], guard := none }) (v := .int .u32 y3) rfl (by kernel_rfl) (by kernel_rfl) (by kernel_rfl) (fun _ _ _ h => h) (Or.inl ⟨by rfl, fun w => by go_simp⟩) ?_
            (try simp only [Act.put, List.setIfInBounds_toArray, List.set_cons_zero, List.set_cons_succ])
            refine wpAny_take (i := 15) (oi := { dst := some 43, op := Op.convert 160 5 (Operand.tmp 42), type := 5, pos := "ref.go:72", after := #[{ on := 14, ground := Ground.data }], guard := none }) (v := .int .u8 z3) rfl (by kernel_rfl) (by kernel_rfl) (by kernel_rfl) (fun _ _ _ h => h) (Or.inl ⟨by rfl, fun w => by go_simp⟩) ?_
            (try simp only [Act.put, List.setIfInBounds_toArray, List.set_cons_zero, List.set_cons_succ])
            refine wpAny_ready (rs := [3]) (by kernel_rfl) (by simp) ?_
            refine AllReady.cons (o := { dst := some 31, op := Op.load 160 (Operand.tmp 30), type := 160, pos := "ref.go:72", after := #[{ on := 2, ground := Ground.data }], guard := none }) rfl (fun K hK => ?_) AllReady.nil
            refine step_load rfl 160 _ rfl (.pointer (some ⟨g, k, none⟩)) rfl _ HLC.out ?_
            refine hK _ _ ?_
            clear hK K
            (try simp only [Act.put, List.setIfInBounds_toArray, List.set_cons_zero, List.set_cons_succ])
            refine wpAny_take (i := 4) (oi := { dst := some 32, op := Op.binOp BinOp.shr 160 (Operand.tmp 31) (Operand.const (Value.int IntKind.u64 24)) 141, type := 160, pos := "ref.go:72", after := #[{ on := 3, ground := Ground.data }], guard := none }) (v := .int .u32 y1) rfl (by kernel_rfl) (by kernel_rfl) (by kernel_rfl) (fun _ _ _ h => h) (Or.inl ⟨by rfl, fun w => by go_simp⟩) ?_
            (try simp only [Act.put, List.setIfInBounds_toArray, List.set_cons_zero, List.set_cons_succ])
            refine wpAny_take (i := 5) (oi := { dst := some 33, op := Op.convert 160 5 (Operand.tmp 32), type := 5, pos := "ref.go:72", after := #[{ on := 4, ground := Ground.data }], guard := none }) (v := .int .u8 z1) rfl (by kernel_rfl) (by kernel_rfl) (by kernel_rfl) (fun _ _ _ h => h) (Or.inl ⟨by rfl, fun w => by go_simp⟩) ?_
            (try simp only [Act.put, List.setIfInBounds_toArray, List.set_cons_zero, List.set_cons_succ])
            refine wpAny_ready (rs := [20]) (by kernel_rfl) (by simp) ?_
            refine AllReady.cons (o := { dst := some 48, op := Op.buildSlice 121 4 #[(0, Operand.tmp 33), (1, Operand.tmp 38), (2, Operand.tmp 43), (3, Operand.tmp 47)], type := 121, pos := "ref.go:72", after := #[{ on := 5, ground := Ground.data }, { on := 10, ground := Ground.data }, { on := 15, ground := Ground.data }, { on := 19, ground := Ground.data }], guard := none }) rfl (fun K hK => ?_) AllReady.nil
            go_simp
            refine hK _ _ ?_
            clear hK K
            (try simp only [Act.put, List.setIfInBounds_toArray, List.set_cons_zero, List.set_cons_succ])
            refine wpAny_ready (rs := [21]) (by kernel_rfl) (by simp) ?_
            refine AllReady.cons (o := { dst := some 49, op := Op.call { callee := Callee.builtin Builtin.append, args := #[Operand.tmp 28, Operand.tmp 48], argTypes := #[121, 121] }, type := 121, pos := "ref.go:72", after := #[{ on := 0, ground := Ground.data }, { on := 20, ground := Ground.data }], guard := none }) rfl (fun K hK => ?_) AllReady.nil
            refine step_append_lies _ (by rfl) (.tmp 28) (.tmp 48) 121 (by rfl) V.heap.size 5 i0 (.int .u8 0) 1 1 Tryz.underlying121 hi hz0 hz1 hz2 rfl (by decide) u6 (4 * k) (u8s ((outs q).take (4 * k))) (by rfl) (hown.out.alloc _) ⟨wr.heap.size, 0, none⟩ 4 4 [.int .u8 z1, .int .u8 z2, .int .u8 z3, .int .u8 z4] (by rfl) rfl
              (World.news_of_block (Go.heap_alloc_new wr (.cells #[.int .u8 z1, .int .u8 z2, .int .u8 z3, .int .u8 z4] 5))) (by intro u hu; simp only [List.mem_cons, List.not_mem_nil, or_false] at hu; rcases hu with rfl | rfl | rfl | rfl <;> rfl) (by decide) (by unfold maxLen; omega) (by omega) (by have := hbl.out.size; simp; omega) _ rfl ?_
            intro g1 cap1 w3 hown1 hgrow _ _
            refine hK _ _ ?_
            clear hK K
            have hb1 : Below V.heap.size V w3 := Below.grown ((hbl.out.alloc (by have := hbl.out.size; omega) _).drew) hgrow (by have := hbl.out.size; show V.heap.size ≤ (wr.alloc _).heap.size; rw [size_alloc']; omega) (fun k hk => (hown.out.lt k hk).1)
            have HO1 := Lib.hid hown1
            have HB1 := Lib.hid hb1
            clear hown1 hb1 hgrow
            (try simp only [Act.put, List.setIfInBounds_toArray, List.set_cons_zero, List.set_cons_succ])
            refine wpAny_take (i := 22) (oi := { dst := some 6, op := Op.assign (Operand.tmp 49), type := 121, pos := "ref.go:72", after := #[{ on := 21, ground := Ground.data }, { on := 21, ground := Ground.chain }, { on := 0, ground := Ground.phase }, { on := 1, ground := Ground.phase }, { on := 2, ground := Ground.phase }, { on := 3, ground := Ground.phase }, { on := 4, ground := Ground.phase }, { on := 5, ground := Ground.phase }, { on := 6, ground := Ground.phase }, { on := 7, ground := Ground.phase }, { on := 8, ground := Ground.phase }, { on := 9, ground := Ground.phase }, { on := 10, ground := Ground.phase }, { on := 11, ground := Ground.phase }, { on := 12, ground := Ground.phase }, { on := 13, ground := Ground.phase }, { on := 14, ground := Ground.phase }, { on := 15, ground := Ground.phase }, { on := 16, ground := Ground.phase }, { on := 17, ground := Ground.phase }, { on := 18, ground := Ground.phase }, { on := 19, ground := Ground.phase }, { on := 20, ground := Ground.phase }, { on := 21, ground := Ground.phase }], guard := none }) (v := .slice (some ⟨g1, 0, none⟩) (4 * k + 4) cap1) rfl (by kernel_rfl) (by kernel_rfl) (by kernel_rfl) (fun _ _ _ h => h) (Or.inl ⟨by rfl, fun w => by go_simp⟩) ?_
            (try simp only [Act.put, List.setIfInBounds_toArray, List.set_cons_zero, List.set_cons_succ])
            refine wpAny_done (by kernel_rfl) ?_ _
            go_wp2_with fail
            go_roundw
            case rel =>
              refine ⟨k + 1, by omega, by go_num, Lib.hid ?_, HB1⟩
              have e : (outs q).take (4 * (k + 1)) = (outs q).take (4 * k) ++ [z1, z2, z3, z4] := by
                rw [outs_next q k hlt2, EC.out, ← EY1.out, ← EY2.out, ← EY3.out, ← EZ1.out, ← EZ2.out, ← EZ3.out, ← EZ4.out]
              rw [e, show 4 * (k + 1) = 4 * k + 4 by omega]
              have h := HO1.out
              rwa [show [Value.int .u8 (z1 : Int), Value.int .u8 (z2 : Int), Value.int .u8 (z3 : Int), Value.int .u8 (z4 : Int)] = u8s [z1, z2, z3, z4] from rfl, show u8s ((outs q).take (4 * k)) ++ u8s [z1, z2, z3, z4] = u8s ((outs q).take (4 * k) ++ [z1, z2, z3, z4]) from (List.map_append ..).symm] at h
            case measure => simp [intOf]; omega
          refine AllReady.cons (o := { dst := some 41, op := Op.load 160 (Operand.tmp 40), type := 160, pos := "ref.go:72", after := #[{ on := 12, ground := Ground.data }], guard := none }) rfl (fun K hK => ?_) ?_
          · refine step_load rfl 160 _ rfl (.pointer (some ⟨g, k, none⟩)) rfl _ HLC.out ?_
            refine hK _ _ ?_
            clear hK K
            (try simp only [Act.put, List.setIfInBounds_toArray, List.set_cons_zero, List.set_cons_succ])
            refine wpAny_take (i := 14) (oi := { dst := some 42, op := Op.binOp BinOp.shr 160 (Operand.tmp 41) (Operand.const (Value.int IntKind.u64 8)) 141, type := 160, pos := "ref.go:72", after := #[{ on := 13, ground := Ground.data }], guard := none }) (v := .int .u32 y3) rfl (by kernel_rfl) (by kernel_rfl) (by kernel_rfl) (fun _ _ _ h => h) (Or.inl ⟨by rfl, fun w => by go_simp⟩) ?_
            (try simp only [Act.put, List.setIfInBounds_toArray, List.set_cons_zero, List.set_cons_succ])
            refine wpAny_take (i := 15) (oi := { dst := some 43, op := Op.convert 160 5 (Operand.tmp 42), type := 5, pos := "ref.go:72", after := #[{ on := 14, ground := Ground.data }], guard := none }) (v := .int .u8 z3) rfl (by kernel_rfl) (by kernel_rfl) (by kernel_rfl) (fun _ _ _ h => h) (Or.inl ⟨by rfl, fun w => by go_simp⟩) ?_
            (try simp only [Act.put, List.setIfInBounds_toArray, List.set_cons_zero, List.set_cons_succ])
            refine wpAny_ready (rs := [3, 8, 18]) (by kernel_rfl) (by simp) ?_
            refine AllReady.cons (o := { dst := some 31, op := Op.load 160 (Operand.tmp 30), type := 160, pos := "ref.go:72", after := #[{ on := 2, ground := Ground.data }], guard := none }) rfl (fun K hK => ?_) ?_
            · refine step_load rfl 160 _ rfl (.pointer (some ⟨g, k, none⟩)) rfl _ HLC.out ?_
              refine hK _ _ ?_
              clear hK K
              (try simp only [Act.put, List.setIfInBounds_toArray, List.set_cons_zero, List.set_cons_succ])
              refine wpAny_take (i := 4) (oi := { dst := some 32, op := Op.binOp BinOp.shr 160 (Operand.tmp 31) (Operand.const (Value.int IntKind.u64 24)) 141, type := 160, pos := "ref.go:72", after := #[{ on := 3, ground := Ground.data }], guard := none }) (v := .int .u32 y1) rfl (by kernel_rfl) (by kernel_rfl) (by kernel_rfl) (fun _ _ _ h => h) (Or.inl ⟨by rfl, fun w => by go_simp⟩) ?_
              (try simp only [Act.put, List.setIfInBounds_toArray, List.set_cons_zero, List.set_cons_succ])
              refine wpAny_take (i := 5) (oi := { dst := some 33, op := Op.convert 160 5 (Operand.tmp 32), type := 5, pos := "ref.go:72", after := #[{ on := 4, ground := Ground.data }], guard := none }) (v := .int .u8 z1) rfl (by kernel_rfl) (by kernel_rfl) (by kernel_rfl) (fun _ _ _ h => h) (Or.inl ⟨by rfl, fun w => by go_simp⟩) ?_
              (try simp only [Act.put, List.setIfInBounds_toArray, List.set_cons_zero, List.set_cons_succ])
              refine wpAny_ready (rs := [8, 18]) (by kernel_rfl) (by simp) ?_
              refine AllReady.cons (o := { dst := some 36, op := Op.load 160 (Operand.tmp 35), type := 160, pos := "ref.go:72", after := #[{ on := 7, ground := Ground.data }], guard := none }) rfl (fun K hK => ?_) ?_
              · refine step_load rfl 160 _ rfl (.pointer (some ⟨g, k, none⟩)) rfl _ HLC.out ?_
                refine hK _ _ ?_
                clear hK K
                (try simp only [Act.put, List.setIfInBounds_toArray, List.set_cons_zero, List.set_cons_succ])
                refine wpAny_take (i := 9) (oi := { dst := some 37, op := Op.binOp BinOp.shr 160 (Operand.tmp 36) (Operand.const (Value.int IntKind.u64 16)) 141, type := 160, pos := "ref.go:72", after := #[{ on := 8, ground := Ground.data }], guard := none }) (v := .int .u32 y2) rfl (by kernel_rfl) (by kernel_rfl) (by kernel_rfl) (fun _ _ _ h => h) (Or.inl ⟨by rfl, fun w => by go_simp⟩) ?_
                (try simp only [Act.put, List.setIfInBounds_toArray, List.set_cons_zero, List.set_cons_succ])
                refine wpAny_take (i := 10) (oi := { dst := some 38, op := Op.convert 160 5 (Operand.tmp 37), type := 5, pos := "ref.go:72", after := #[{ on := 9, ground := Ground.data }], guard := none }) (v := .int .u8 z2) rfl (by kernel_rfl) (by kernel_rfl) (by kernel_rfl) (fun _ _ _ h => h) (Or.inl ⟨by rfl, fun w => by go_simp⟩) ?_
                (try simp only [Act.put, List.setIfInBounds_toArray, List.set_cons_zero, List.set_cons_succ])
                refine wpAny_ready (rs := [18]) (by kernel_rfl) (by simp) ?_
                refine AllReady.cons (o := { dst := some 46, op := Op.load 160 (Operand.tmp 45), type := 160, pos := "ref.go:72", after := #[{ on := 17, ground := Ground.data }], guard := none }) rfl (fun K hK => ?_) AllReady.nil
                refine step_load rfl 160 _ rfl (.pointer (some ⟨g, k, none⟩)) rfl _ HLC.out ?_
                refine hK _ _ ?_
                clear hK K
                (try simp only [Act.put, List.setIfInBounds_toArray, List.set_cons_zero, List.set_cons_succ])
                refine wpAny_take (i := 19) (oi := { dst := some 47, op := Op.convert 160 5 (Operand.tmp 46), type := 5, pos := "ref.go:72", after := #[{ on := 18, ground := Ground.data }], guard := none }) (v := .int .u8 z4) rfl (by kernel_rfl) (by kernel_rfl) (by kernel_rfl) (fun _ _ _ h => h) (Or.inl ⟨by rfl, fun w => by go_simp⟩) ?_
                (try simp only [Act.put, List.setIfInBounds_toArray, List.set_cons_zero, List.set_cons_succ])
                refine wpAny_ready (rs := [20]) (by kernel_rfl) (by simp) ?_
                refine AllReady.cons (o := { dst := some 48, op := Op.buildSlice 121 4 #[(0, Operand.tmp 33), (1, Operand.tmp 38), (2, Operand.tmp 43), (3, Operand.tmp 47)], type := 121, pos := "ref.go:72", after := #[{ on := 5, ground := Ground.data }, { on := 10, ground := Ground.data }, { on := 15, ground := Ground.data }, { on := 19, ground := Ground.data }], guard := none }) rfl (fun K hK => ?_) AllReady.nil
                go_simp
                refine hK _ _ ?_
                clear hK K
                (try simp only [Act.put, List.setIfInBounds_toArray, List.set_cons_zero, List.set_cons_succ])
                refine wpAny_ready (rs := [21]) (by kernel_rfl) (by simp) ?_
                refine AllReady.cons (o := { dst := some 49, op := Op.call { callee := Callee.builtin Builtin.append, args := #[Operand.tmp 28, Operand.tmp 48], argTypes := #[121, 121] }, type := 121, pos := "ref.go:72", after := #[{ on := 0, ground := Ground.data }, { on := 20, ground := Ground.data }], guard := none }) rfl (fun K hK => ?_) AllReady.nil
                refine step_append_lies _ (by rfl) (.tmp 28) (.tmp 48) 121 (by rfl) V.heap.size 5 i0 (.int .u8 0) 1 1 Tryz.underlying121 hi hz0 hz1 hz2 rfl (by decide) u6 (4 * k) (u8s ((outs q).take (4 * k))) (by rfl) (hown.out.alloc _) ⟨wr.heap.size, 0, none⟩ 4 4 [.int .u8 z1, .int .u8 z2, .int .u8 z3, .int .u8 z4] (by rfl) rfl
                  (World.news_of_block (Go.heap_alloc_new wr (.cells #[.int .u8 z1, .int .u8 z2, .int .u8 z3, .int .u8 z4] 5))) (by intro u hu; simp only [List.mem_cons, List.not_mem_nil, or_false] at hu; rcases hu with rfl | rfl | rfl | rfl <;> rfl) (by decide) (by unfold maxLen; omega) (by omega) (by have := hbl.out.size; simp; omega) _ rfl ?_
                intro g1 cap1 w3 hown1 hgrow _ _
                refine hK _ _ ?_
                clear hK K
                have hb1 : Below V.heap.size V w3 := Below.grown ((hbl.out.alloc (by have := hbl.out.size; omega) _).drew) hgrow (by have := hbl.out.size; show V.heap.size ≤ (wr.alloc _).heap.size; rw [size_alloc']; omega) (fun k hk => (hown.out.lt k hk).1)
                have HO1 := Lib.hid hown1
                have HB1 := Lib.hid hb1
                clear hown1 hb1 hgrow
                (try simp only [Act.put, List.setIfInBounds_toArray, List.set_cons_zero, List.set_cons_succ])
                refine wpAny_take (i := 22) (oi := { dst := some 6, op := Op.assign (Operand.tmp 49), type := 121, pos := "ref.go:72", after := #[{ on := 21, ground := Ground.data }, { on := 21, ground := Ground.chain }, { on := 0, ground := Ground.phase }, { on := 1, ground := Ground.phase }, { on := 2, ground := Ground.phase }, { on := 3, ground := Ground.phase }, { on := 4, ground := Ground.phase }, { on := 5, ground := Ground.phase }, { on := 6, ground := Ground.phase }, { on := 7, ground := Ground.phase }, { on := 8, ground := Ground.phase }, { on := 9, ground := Ground.phase }, { on := 10, ground := Ground.phase }, { on := 11, ground := Ground.phase }, { on := 12, ground := Ground.phase }, { on := 13, ground := Ground.phase }, { on := 14, ground := Ground.phase }, { on := 15, ground := Ground.phase }, { on := 16, ground := Ground.phase }, { on := 17, ground := Ground.phase }, { on := 18, ground := Ground.phase }, { on := 19, ground := Ground.phase }, { on := 20, ground := Ground.phase }, { on := 21, ground := Ground.phase }], guard := none }) (v := .slice (some ⟨g1, 0, none⟩) (4 * k + 4) cap1) rfl (by kernel_rfl) (by kernel_rfl) (by kernel_rfl) (fun _ _ _ h => h) (Or.inl ⟨by rfl, fun w => by go_simp⟩) ?_
                (try simp only [Act.put, List.setIfInBounds_toArray, List.set_cons_zero, List.set_cons_succ])
                refine wpAny_done (by kernel_rfl) ?_ _
                go_wp2_with fail
                go_roundw
                case rel =>
                  refine ⟨k + 1, by omega, by go_num, Lib.hid ?_, HB1⟩
                  have e : (outs q).take (4 * (k + 1)) = (outs q).take (4 * k) ++ [z1, z2, z3, z4] := by
                    rw [outs_next q k hlt2, EC.out, ← EY1.out, ← EY2.out, ← EY3.out, ← EZ1.out, ← EZ2.out, ← EZ3.out, ← EZ4.out]
                  rw [e, show 4 * (k + 1) = 4 * k + 4 by omega]
                  have h := HO1.out
                  rwa [show [Value.int .u8 (z1 : Int), Value.int .u8 (z2 : Int), Value.int .u8 (z3 : Int), Value.int .u8 (z4 : Int)] = u8s [z1, z2, z3, z4] from rfl, show u8s ((outs q).take (4 * k)) ++ u8s [z1, z2, z3, z4] = u8s ((outs q).take (4 * k) ++ [z1, z2, z3, z4]) from (List.map_append ..).symm] at h
                case measure => simp [intOf]; omega
              refine AllReady.cons (o := { dst := some 46, op := Op.load 160 (Operand.tmp 45), type := 160, pos := "ref.go:72", after := #[{ on := 17, ground := Ground.data }], guard := none }) rfl (fun K hK => ?_) AllReady.nil
              refine step_load rfl 160 _ rfl (.pointer (some ⟨g, k, none⟩)) rfl _ HLC.out ?_
              refine hK _ _ ?_
              clear hK K
              (try simp only [Act.put, List.setIfInBounds_toArray, List.set_cons_zero, List.set_cons_succ])
              refine wpAny_take (i := 19) (oi := { dst := some 47, op := Op.convert 160 5 (Operand.tmp 46), type := 5, pos := "ref.go:72", after := #[{ on := 18, ground := Ground.data }], guard := none }) (v := .int .u8 z4) rfl (by kernel_rfl) (by kernel_rfl) (by kernel_rfl) (fun _ _ _ h => h) (Or.inl ⟨by rfl, fun w => by go_simp⟩) ?_
              (try simp only [Act.put, List.setIfInBounds_toArray, List.set_cons_zero, List.set_cons_succ])
              refine wpAny_ready (rs := [8]) (by kernel_rfl) (by simp) ?_
              refine AllReady.cons (o := { dst := some 36, op := Op.load 160 (Operand.tmp 35), type := 160, pos := "ref.go:72", after := #[{ on := 7, ground := Ground.data }], guard := none }) rfl (fun K hK => ?_) AllReady.nil
              refine step_load rfl 160 _ rfl (.pointer (some ⟨g, k, none⟩)) rfl _ HLC.out ?_
              refine hK _ _ ?_
              clear hK K
              (try simp only [Act.put, List.setIfInBounds_toArray, List.set_cons_zero, List.set_cons_succ])
              refine wpAny_take (i := 9) (oi := { dst := some 37, op := Op.binOp BinOp.shr 160 (Operand.tmp 36) (Operand.const (Value.int IntKind.u64 16)) 141, type := 160, pos := "ref.go:72", after := #[{ on := 8, ground := Ground.data }], guard := none }) (v := .int .u32 y2) rfl (by kernel_rfl) (by kernel_rfl) (by kernel_rfl) (fun _ _ _ h => h) (Or.inl ⟨by rfl, fun w => by go_simp⟩) ?_
              (try simp only [Act.put, List.setIfInBounds_toArray, List.set_cons_zero, List.set_cons_succ])
              refine wpAny_take (i := 10) (oi := { dst := some 38, op := Op.convert 160 5 (Operand.tmp 37), type := 5, pos := "ref.go:72", after := #[{ on := 9, ground := Ground.data }], guard := none }) (v := .int .u8 z2) rfl (by kernel_rfl) (by kernel_rfl) (by kernel_rfl) (fun _ _ _ h => h) (Or.inl ⟨by rfl, fun w => by go_simp⟩) ?_
              (try simp only [Act.put, List.setIfInBounds_toArray, List.set_cons_zero, List.set_cons_succ])
              refine wpAny_ready (rs := [20]) (by kernel_rfl) (by simp) ?_
              refine AllReady.cons (o := { dst := some 48, op := Op.buildSlice 121 4 #[(0, Operand.tmp 33), (1, Operand.tmp 38), (2, Operand.tmp 43), (3, Operand.tmp 47)], type := 121, pos := "ref.go:72", after := #[{ on := 5, ground := Ground.data }, { on := 10, ground := Ground.data }, { on := 15, ground := Ground.data }, { on := 19, ground := Ground.data }], guard := none }) rfl (fun K hK => ?_) AllReady.nil
              go_simp
              refine hK _ _ ?_
              clear hK K
              (try simp only [Act.put, List.setIfInBounds_toArray, List.set_cons_zero, List.set_cons_succ])
              refine wpAny_ready (rs := [21]) (by kernel_rfl) (by simp) ?_
              refine AllReady.cons (o := { dst := some 49, op := Op.call { callee := Callee.builtin Builtin.append, args := #[Operand.tmp 28, Operand.tmp 48], argTypes := #[121, 121] }, type := 121, pos := "ref.go:72", after := #[{ on := 0, ground := Ground.data }, { on := 20, ground := Ground.data }], guard := none }) rfl (fun K hK => ?_) AllReady.nil
              refine step_append_lies _ (by rfl) (.tmp 28) (.tmp 48) 121 (by rfl) V.heap.size 5 i0 (.int .u8 0) 1 1 Tryz.underlying121 hi hz0 hz1 hz2 rfl (by decide) u6 (4 * k) (u8s ((outs q).take (4 * k))) (by rfl) (hown.out.alloc _) ⟨wr.heap.size, 0, none⟩ 4 4 [.int .u8 z1, .int .u8 z2, .int .u8 z3, .int .u8 z4] (by rfl) rfl
                (World.news_of_block (Go.heap_alloc_new wr (.cells #[.int .u8 z1, .int .u8 z2, .int .u8 z3, .int .u8 z4] 5))) (by intro u hu; simp only [List.mem_cons, List.not_mem_nil, or_false] at hu; rcases hu with rfl | rfl | rfl | rfl <;> rfl) (by decide) (by unfold maxLen; omega) (by omega) (by have := hbl.out.size; simp; omega) _ rfl ?_
              intro g1 cap1 w3 hown1 hgrow _ _
              refine hK _ _ ?_
              clear hK K
              have hb1 : Below V.heap.size V w3 := Below.grown ((hbl.out.alloc (by have := hbl.out.size; omega) _).drew) hgrow (by have := hbl.out.size; show V.heap.size ≤ (wr.alloc _).heap.size; rw [size_alloc']; omega) (fun k hk => (hown.out.lt k hk).1)
              have HO1 := Lib.hid hown1
              have HB1 := Lib.hid hb1
              clear hown1 hb1 hgrow
              (try simp only [Act.put, List.setIfInBounds_toArray, List.set_cons_zero, List.set_cons_succ])
              refine wpAny_take (i := 22) (oi := { dst := some 6, op := Op.assign (Operand.tmp 49), type := 121, pos := "ref.go:72", after := #[{ on := 21, ground := Ground.data }, { on := 21, ground := Ground.chain }, { on := 0, ground := Ground.phase }, { on := 1, ground := Ground.phase }, { on := 2, ground := Ground.phase }, { on := 3, ground := Ground.phase }, { on := 4, ground := Ground.phase }, { on := 5, ground := Ground.phase }, { on := 6, ground := Ground.phase }, { on := 7, ground := Ground.phase }, { on := 8, ground := Ground.phase }, { on := 9, ground := Ground.phase }, { on := 10, ground := Ground.phase }, { on := 11, ground := Ground.phase }, { on := 12, ground := Ground.phase }, { on := 13, ground := Ground.phase }, { on := 14, ground := Ground.phase }, { on := 15, ground := Ground.phase }, { on := 16, ground := Ground.phase }, { on := 17, ground := Ground.phase }, { on := 18, ground := Ground.phase }, { on := 19, ground := Ground.phase }, { on := 20, ground := Ground.phase }, { on := 21, ground := Ground.phase }], guard := none }) (v := .slice (some ⟨g1, 0, none⟩) (4 * k + 4) cap1) rfl (by kernel_rfl) (by kernel_rfl) (by kernel_rfl) (fun _ _ _ h => h) (Or.inl ⟨by rfl, fun w => by go_simp⟩) ?_
              (try simp only [Act.put, List.setIfInBounds_toArray, List.set_cons_zero, List.set_cons_succ])
              refine wpAny_done (by kernel_rfl) ?_ _
              go_wp2_with fail
              go_roundw
              case rel =>
                refine ⟨k + 1, by omega, by go_num, Lib.hid ?_, HB1⟩
                have e : (outs q).take (4 * (k + 1)) = (outs q).take (4 * k) ++ [z1, z2, z3, z4] := by
                  rw [outs_next q k hlt2, EC.out, ← EY1.out, ← EY2.out, ← EY3.out, ← EZ1.out, ← EZ2.out, ← EZ3.out, ← EZ4.out]
                rw [e, show 4 * (k + 1) = 4 * k + 4 by omega]
                have h := HO1.out
                rwa [show [Value.int .u8 (z1 : Int), Value.int .u8 (z2 : Int), Value.int .u8 (z3 : Int), Value.int .u8 (z4 : Int)] = u8s [z1, z2, z3, z4] from rfl, show u8s ((outs q).take (4 * k)) ++ u8s [z1, z2, z3, z4] = u8s ((outs q).take (4 * k) ++ [z1, z2, z3, z4]) from (List.map_append ..).symm] at h
              case measure => simp [intOf]; omega
            refine AllReady.cons (o := { dst := some 36, op := Op.load 160 (Operand.tmp 35), type := 160, pos := "ref.go:72", after := #[{ on := 7, ground := Ground.data }], guard := none }) rfl (fun K hK => ?_) ?_
            · refine step_load rfl 160 _ rfl (.pointer (some ⟨g, k, none⟩)) rfl _ HLC.out ?_
              refine hK _ _ ?_
              clear hK K
              (try simp only [Act.put, List.setIfInBounds_toArray, List.set_cons_zero, List.set_cons_succ])
              refine wpAny_take (i := 9) (oi := { dst := some 37, op := Op.binOp BinOp.shr 160 (Operand.tmp 36) (Operand.const (Value.int IntKind.u64 16)) 141, type := 160, pos := "ref.go:72", after := #[{ on := 8, ground := Ground.data }], guard := none }) (v := .int .u32 y2) rfl (by kernel_rfl) (by kernel_rfl) (by kernel_rfl) (fun _ _ _ h => h) (Or.inl ⟨by rfl, fun w => by go_simp⟩) ?_
              (try simp only [Act.put, List.setIfInBounds_toArray, List.set_cons_zero, List.set_cons_succ])
              refine wpAny_take (i := 10) (oi := { dst := some 38, op := Op.convert 160 5 (Operand.tmp 37), type := 5, pos := "ref.go:72", after := #[{ on := 9, ground := Ground.data }], guard := none }) (v := .int .u8 z2) rfl (by kernel_rfl) (by kernel_rfl) (by kernel_rfl) (fun _ _ _ h => h) (Or.inl ⟨by rfl, fun w => by go_simp⟩) ?_
              (try simp only [Act.put, List.setIfInBounds_toArray, List.set_cons_zero, List.set_cons_succ])
              refine wpAny_ready (rs := [3, 18]) (by kernel_rfl) (by simp) ?_
              refine AllReady.cons (o := { dst := some 31, op := Op.load 160 (Operand.tmp 30), type := 160, pos := "ref.go:72", after := #[{ on := 2, ground := Ground.data }], guard := none }) rfl (fun K hK => ?_) ?_
              · refine step_load rfl 160 _ rfl (.pointer (some ⟨g, k, none⟩)) rfl _ HLC.out ?_
                refine hK _ _ ?_
                clear hK K
                (try simp only [Act.put, List.setIfInBounds_toArray, List.set_cons_zero, List.set_cons_succ])
                refine wpAny_take (i := 4) (oi := { dst := some 32, op := Op.binOp BinOp.shr 160 (Operand.tmp 31) (Operand.const (Value.int IntKind.u64 24)) 141, type := 160, pos := "ref.go:72", after := #[{ on := 3, ground := Ground.data }], guard := none }) (v := .int .u32 y1) rfl (by kernel_rfl) (by kernel_rfl) (by kernel_rfl) (fun _ _ _ h => h) (Or.inl ⟨by rfl, fun w => by go_simp⟩) ?_
                (try simp only [Act.put, List.setIfInBounds_toArray, List.set_cons_zero, List.set_cons_succ])
                refine wpAny_take (i := 5) (oi := { dst := some 33, op := Op.convert 160 5 (Operand.tmp 32), type := 5, pos := "ref.go:72", after := #[{ on := 4, ground := Ground.data }], guard := none }) (v := .int .u8 z1) rfl (by kernel_rfl) (by kernel_rfl) (by kernel_rfl) (fun _ _ _ h => h) (Or.inl ⟨by rfl, fun w => by go_simp⟩) ?_
                (try simp only [Act.put, List.setIfInBounds_toArray, List.set_cons_zero, List.set_cons_succ])
                refine wpAny_ready (rs := [18]) (by kernel_rfl) (by simp) ?_
                refine AllReady.cons (o := { dst := some 46, op := Op.load 160 (Operand.tmp 45), type := 160, pos := "ref.go:72", after := #[{ on := 17, ground := Ground.data }], guard := none }) rfl (fun K hK => ?_) AllReady.nil
                refine step_load rfl 160 _ rfl (.pointer (some ⟨g, k, none⟩)) rfl _ HLC.out ?_
                refine hK _ _ ?_
                clear hK K
                (try simp only [Act.put, List.setIfInBounds_toArray, List.set_cons_zero, List.set_cons_succ])
                refine wpAny_take (i := 19) (oi := { dst := some 47, op := Op.convert 160 5 (Operand.tmp 46), type := 5, pos := "ref.go:72", after := #[{ on := 18, ground := Ground.data }], guard := none }) (v := .int .u8 z4) rfl (by kernel_rfl) (by kernel_rfl) (by kernel_rfl) (fun _ _ _ h => h) (Or.inl ⟨by rfl, fun w => by go_simp⟩) ?_
                (try simp only [Act.put, List.setIfInBounds_toArray, List.set_cons_zero, List.set_cons_succ])
                refine wpAny_ready (rs := [20]) (by kernel_rfl) (by simp) ?_
                refine AllReady.cons (o := { dst := some 48, op := Op.buildSlice 121 4 #[(0, Operand.tmp 33), (1, Operand.tmp 38), (2, Operand.tmp 43), (3, Operand.tmp 47)], type := 121, pos := "ref.go:72", after := #[{ on := 5, ground := Ground.data }, { on := 10, ground := Ground.data }, { on := 15, ground := Ground.data }, { on := 19, ground := Ground.data }], guard := none }) rfl (fun K hK => ?_) AllReady.nil
                go_simp
                refine hK _ _ ?_
                clear hK K
                (try simp only [Act.put, List.setIfInBounds_toArray, List.set_cons_zero, List.set_cons_succ])
                refine wpAny_ready (rs := [21]) (by kernel_rfl) (by simp) ?_
                refine AllReady.cons (o := { dst := some 49, op := Op.call { callee := Callee.builtin Builtin.append, args := #[Operand.tmp 28, Operand.tmp 48], argTypes := #[121, 121] }, type := 121, pos := "ref.go:72", after := #[{ on := 0, ground := Ground.data }, { on := 20, ground := Ground.data }], guard := none }) rfl (fun K hK => ?_) AllReady.nil
                refine step_append_lies _ (by rfl) (.tmp 28) (.tmp 48) 121 (by rfl) V.heap.size 5 i0 (.int .u8 0) 1 1 Tryz.underlying121 hi hz0 hz1 hz2 rfl (by decide) u6 (4 * k) (u8s ((outs q).take (4 * k))) (by rfl) (hown.out.alloc _) ⟨wr.heap.size, 0, none⟩ 4 4 [.int .u8 z1, .int .u8 z2, .int .u8 z3, .int .u8 z4] (by rfl) rfl
                  (World.news_of_block (Go.heap_alloc_new wr (.cells #[.int .u8 z1, .int .u8 z2, .int .u8 z3, .int .u8 z4] 5))) (by intro u hu; simp only [List.mem_cons, List.not_mem_nil, or_false] at hu; rcases hu with rfl | rfl | rfl | rfl <;> rfl) (by decide) (by unfold maxLen; omega) (by omega) (by have := hbl.out.size; simp; omega) _ rfl ?_
                intro g1 cap1 w3 hown1 hgrow _ _
                refine hK _ _ ?_
                clear hK K
                have hb1 : Below V.heap.size V w3 := Below.grown ((hbl.out.alloc (by have := hbl.out.size; omega) _).drew) hgrow (by have := hbl.out.size; show V.heap.size ≤ (wr.alloc _).heap.size; rw [size_alloc']; omega) (fun k hk => (hown.out.lt k hk).1)
                have HO1 := Lib.hid hown1
                have HB1 := Lib.hid hb1
                clear hown1 hb1 hgrow
                (try simp only [Act.put, List.setIfInBounds_toArray, List.set_cons_zero, List.set_cons_succ])
                refine wpAny_take (i := 22) (oi := { dst := some 6, op := Op.assign (Operand.tmp 49), type := 121, pos := "ref.go:72", after := #[{ on := 21, ground := Ground.data }, { on := 21, ground := Ground.chain }, { on := 0, ground := Ground.phase }, { on := 1, ground := Ground.phase }, { on := 2, ground := Ground.phase }, { on := 3, ground := Ground.phase }, { on := 4, ground := Ground.phase }, { on := 5, ground := Ground.phase }, { on := 6, ground := Ground.phase }, { on := 7, ground := Ground.phase }, { on := 8, ground := Ground.phase }, { on := 9, ground := Ground.phase }, { on := 10, ground := Ground.phase }, { on := 11, ground := Ground.phase }, { on := 12, ground := Ground.phase }, { on := 13, ground := Ground.phase }, { on := 14, ground := Ground.phase }, { on := 15, ground := Ground.phase }, { on := 16, ground := Ground.phase }, { on := 17, ground := Ground.phase }, { on := 18, ground := Ground.phase }, { on := 19, ground := Ground.phase }, { on := 20, ground := Ground.phase }, { on := 21, ground := Ground.phase }], guard := none }) (v := .slice (some ⟨g1, 0, none⟩) (4 * k + 4) cap1) rfl (by kernel_rfl) (by kernel_rfl) (by kernel_rfl) (fun _ _ _ h => h) (Or.inl ⟨by rfl, fun w => by go_simp⟩) ?_
                (try simp only [Act.put, List.setIfInBounds_toArray, List.set_cons_zero, List.set_cons_succ])
                refine wpAny_done (by kernel_rfl) ?_ _
                go_wp2_with fail
                go_roundw
                case rel =>
                  refine ⟨k + 1, by omega, by go_num, Lib.hid ?_, HB1⟩
                  have e : (outs q).take (4 * (k + 1)) = (outs q).take (4 * k) ++ [z1, z2, z3, z4] := by
                    rw [outs_next q k hlt2, EC.out, ← EY1.out, ← EY2.out, ← EY3.out, ← EZ1.out, ← EZ2.out, ← EZ3.out, ← EZ4.out]
                  rw [e, show 4 * (k + 1) = 4 * k + 4 by omega]
                  have h := HO1.out
                  rwa [show [Value.int .u8 (z1 : Int), Value.int .u8 (z2 : Int), Value.int .u8 (z3 : Int), Value.int .u8 (z4 : Int)] = u8s [z1, z2, z3, z4] from rfl, show u8s ((outs q).take (4 * k)) ++ u8s [z1, z2, z3, z4] = u8s ((outs q).take (4 * k) ++ [z1, z2, z3, z4]) from (List.map_append ..).symm] at h
                case measure => simp [intOf]; omega
              refine AllReady.cons (o := { dst := some 46, op := Op.load 160 (Operand.tmp 45), type := 160, pos := "ref.go:72", after := #[{ on := 17, ground := Ground.data }], guard := none }) rfl (fun K hK => ?_) AllReady.nil
              refine step_load rfl 160 _ rfl (.pointer (some ⟨g, k, none⟩)) rfl _ HLC.out ?_
              refine hK _ _ ?_
              clear hK K
              (try simp only [Act.put, List.setIfInBounds_toArray, List.set_cons_zero, List.set_cons_succ])
              refine wpAny_take (i := 19) (oi := { dst := some 47, op := Op.convert 160 5 (Operand.tmp 46), type := 5, pos := "ref.go:72", after := #[{ on := 18, ground := Ground.data }], guard := none }) (v := .int .u8 z4) rfl (by kernel_rfl) (by kernel_rfl) (by kernel_rfl) (fun _ _ _ h => h) (Or.inl ⟨by rfl, fun w => by go_simp⟩) ?_
              (try simp only [Act.put, List.setIfInBounds_toArray, List.set_cons_zero, List.set_cons_succ])
              refine wpAny_ready (rs := [3]) (by kernel_rfl) (by simp) ?_
              refine AllReady.cons (o := { dst := some 31, op := Op.load 160 (Operand.tmp 30), type := 160, pos := "ref.go:72", after := #[{ on := 2, ground := Ground.data }], guard := none }) rfl (fun K hK => ?_) AllReady.nil
              refine step_load rfl 160 _ rfl (.pointer (some ⟨g, k, none⟩)) rfl _ HLC.out ?_
              refine hK _ _ ?_
              clear hK K
              (try simp only [Act.put, List.setIfInBounds_toArray, List.set_cons_zero, List.set_cons_succ])
              refine wpAny_take (i := 4) (oi := { dst := some 32, op := Op.binOp BinOp.shr 160 (Operand.tmp 31) (Operand.const (Value.int IntKind.u64 24)) 141, type := 160, pos := "ref.go:72", after := #[{ on := 3, ground := Ground.data }], guard := none }) (v := .int .u32 y1) rfl (by kernel_rfl) (by kernel_rfl) (by kernel_rfl) (fun _ _ _ h => h) (Or.inl ⟨by rfl, fun w => by go_simp⟩) ?_
              (try simp only [Act.put, List.setIfInBounds_toArray, List.set_cons_zero, List.set_cons_succ])
              refine wpAny_take (i := 5) (oi := { dst := some 33, op := Op.convert 160 5 (Operand.tmp 32), type := 5, pos := "ref.go:72", after := #[{ on := 4, ground := Ground.data }], guard := none }) (v := .int .u8 z1) rfl (by kernel_rfl) (by kernel_rfl) (by kernel_rfl) (fun _ _ _ h => h) (Or.inl ⟨by rfl, fun w => by go_simp⟩) ?_
              (try simp only [Act.put, List.setIfInBounds_toArray, List.set_cons_zero, List.set_cons_succ])
              refine wpAny_ready (rs := [20]) (by kernel_rfl) (by simp) ?_
              refine AllReady.cons (o := { dst := some 48, op := Op.buildSlice 121 4 #[(0, Operand.tmp 33), (1, Operand.tmp 38), (2, Operand.tmp 43), (3, Operand.tmp 47)], type := 121, pos := "ref.go:72", after := #[{ on := 5, ground := Ground.data }, { on := 10, ground := Ground.data }, { on := 15, ground := Ground.data }, { on := 19, ground := Ground.data }], guard := none }) rfl (fun K hK => ?_) AllReady.nil
              go_simp
              refine hK _ _ ?_
              clear hK K
              (try simp only [Act.put, List.setIfInBounds_toArray, List.set_cons_zero, List.set_cons_succ])
              refine wpAny_ready (rs := [21]) (by kernel_rfl) (by simp) ?_
              refine AllReady.cons (o := { dst := some 49, op := Op.call { callee := Callee.builtin Builtin.append, args := #[Operand.tmp 28, Operand.tmp 48], argTypes := #[121, 121] }, type := 121, pos := "ref.go:72", after := #[{ on := 0, ground := Ground.data }, { on := 20, ground := Ground.data }], guard := none }) rfl (fun K hK => ?_) AllReady.nil
              refine step_append_lies _ (by rfl) (.tmp 28) (.tmp 48) 121 (by rfl) V.heap.size 5 i0 (.int .u8 0) 1 1 Tryz.underlying121 hi hz0 hz1 hz2 rfl (by decide) u6 (4 * k) (u8s ((outs q).take (4 * k))) (by rfl) (hown.out.alloc _) ⟨wr.heap.size, 0, none⟩ 4 4 [.int .u8 z1, .int .u8 z2, .int .u8 z3, .int .u8 z4] (by rfl) rfl
                (World.news_of_block (Go.heap_alloc_new wr (.cells #[.int .u8 z1, .int .u8 z2, .int .u8 z3, .int .u8 z4] 5))) (by intro u hu; simp only [List.mem_cons, List.not_mem_nil, or_false] at hu; rcases hu with rfl | rfl | rfl | rfl <;> rfl) (by decide) (by unfold maxLen; omega) (by omega) (by have := hbl.out.size; simp; omega) _ rfl ?_
              intro g1 cap1 w3 hown1 hgrow _ _
              refine hK _ _ ?_
              clear hK K
              have hb1 : Below V.heap.size V w3 := Below.grown ((hbl.out.alloc (by have := hbl.out.size; omega) _).drew) hgrow (by have := hbl.out.size; show V.heap.size ≤ (wr.alloc _).heap.size; rw [size_alloc']; omega) (fun k hk => (hown.out.lt k hk).1)
              have HO1 := Lib.hid hown1
              have HB1 := Lib.hid hb1
              clear hown1 hb1 hgrow
              (try simp only [Act.put, List.setIfInBounds_toArray, List.set_cons_zero, List.set_cons_succ])
              refine wpAny_take (i := 22) (oi := { dst := some 6, op := Op.assign (Operand.tmp 49), type := 121, pos := "ref.go:72", after := #[{ on := 21, ground := Ground.data }, { on := 21, ground := Ground.chain }, { on := 0, ground := Ground.phase }, { on := 1, ground := Ground.phase }, { on := 2, ground := Ground.phase }, { on := 3, ground := Ground.phase }, { on := 4, ground := Ground.phase }, { on := 5, ground := Ground.phase }, { on := 6, ground := Ground.phase }, { on := 7, ground := Ground.phase }, { on := 8, ground := Ground.phase }, { on := 9, ground := Ground.phase }, { on := 10, ground := Ground.phase }, { on := 11, ground := Ground.phase }, { on := 12, ground := Ground.phase }, { on := 13, ground := Ground.phase }, { on := 14, ground := Ground.phase }, { on := 15, ground := Ground.phase }, { on := 16, ground := Ground.phase }, { on := 17, ground := Ground.phase }, { on := 18, ground := Ground.phase }, { on := 19, ground := Ground.phase }, { on := 20, ground := Ground.phase }, { on := 21, ground := Ground.phase }], guard := none }) (v := .slice (some ⟨g1, 0, none⟩) (4 * k + 4) cap1) rfl (by kernel_rfl) (by kernel_rfl) (by kernel_rfl) (fun _ _ _ h => h) (Or.inl ⟨by rfl, fun w => by go_simp⟩) ?_
              (try simp only [Act.put, List.setIfInBounds_toArray, List.set_cons_zero, List.set_cons_succ])
              refine wpAny_done (by kernel_rfl) ?_ _
              go_wp2_with fail
              go_roundw
              case rel =>
                refine ⟨k + 1, by omega, by go_num, Lib.hid ?_, HB1⟩
                have e : (outs q).take (4 * (k + 1)) = (outs q).take (4 * k) ++ [z1, z2, z3, z4] := by
                  rw [outs_next q k hlt2, EC.out, ← EY1.out, ← EY2.out, ← EY3.out, ← EZ1.out, ← EZ2.out, ← EZ3.out, ← EZ4.out]
                rw [e, show 4 * (k + 1) = 4 * k + 4 by omega]
                have h := HO1.out
                rwa [show [Value.int .u8 (z1 : Int), Value.int .u8 (z2 : Int), Value.int .u8 (z3 : Int), Value.int .u8 (z4 : Int)] = u8s [z1, z2, z3, z4] from rfl, show u8s ((outs q).take (4 * k)) ++ u8s [z1, z2, z3, z4] = u8s ((outs q).take (4 * k) ++ [z1, z2, z3, z4]) from (List.map_append ..).symm] at h
              case measure => simp [intOf]; omega
            refine AllReady.cons (o := { dst := some 46, op := Op.load 160 (Operand.tmp 45), type := 160, pos := "ref.go:72", after := #[{ on := 17, ground := Ground.data }], guard := none }) rfl (fun K hK => ?_) AllReady.nil
            refine step_load rfl 160 _ rfl (.pointer (some ⟨g, k, none⟩)) rfl _ HLC.out ?_
            refine hK _ _ ?_
            clear hK K
            (try simp only [Act.put, List.setIfInBounds_toArray, List.set_cons_zero, List.set_cons_succ])
            refine wpAny_take (i := 19) (oi := { dst := some 47, op := Op.convert 160 5 (Operand.tmp 46), type := 5, pos := "ref.go:72", after := #[{ on := 18, ground := Ground.data }], guard := none }) (v := .int .u8 z4) rfl (by kernel_rfl) (by kernel_rfl) (by kernel_rfl) (fun _ _ _ h => h) (Or.inl ⟨by rfl, fun w => by go_simp⟩) ?_
            (try simp only [Act.put, List.setIfInBounds_toArray, List.set_cons_zero, List.set_cons_succ])
            refine wpAny_ready (rs := [3, 8]) (by kernel_rfl) (by simp) ?_
            refine AllReady.cons (o := { dst := some 31, op := Op.load 160 (Operand.tmp 30), type := 160, pos := "ref.go:72", after := #[{ on := 2, ground := Ground.data }], guard := none }) rfl (fun K hK => ?_) ?_
            · refine step_load rfl 160 _ rfl (.pointer (some ⟨g, k, none⟩)) rfl _ HLC.out ?_
              refine hK _ _ ?_
              clear hK K
              (try simp only [Act.put, List.setIfInBounds_toArray, List.set_cons_zero, List.set_cons_succ])
              refine wpAny_take (i := 4) (oi := { dst := some 32, op := Op.binOp BinOp.shr 160 (Operand.tmp 31) (Operand.const (Value.int IntKind.u64 24)) 141, type := 160, pos := "ref.go:72", after := #[{ on := 3, ground := Ground.data }], guard := none }) (v := .int .u32 y1) rfl (by kernel_rfl) (by kernel_rfl) (by kernel_rfl) (fun _ _ _ h => h) (Or.inl ⟨by rfl, fun w => by go_simp⟩) ?_
              (try simp only [Act.put, List.setIfInBounds_toArray, List.set_cons_zero, List.set_cons_succ])
              refine wpAny_take (i := 5) (oi := { dst := some 33, op := Op.convert 160 5 (Operand.tmp 32), type := 5, pos := "ref.go:72", after := #[{ on := 4, ground := Ground.data }], guard := none }) (v := .int .u8 z1) rfl (by kernel_rfl) (by kernel_rfl) (by kernel_rfl) (fun _ _ _ h => h) (Or.inl ⟨by rfl, fun w => by go_simp⟩) ?_
              (try simp only [Act.put, List.setIfInBounds_toArray, List.set_cons_zero, List.set_cons_succ])
              refine wpAny_ready (rs := [8]) (by kernel_rfl) (by simp) ?_
              refine AllReady.cons (o := { dst := some 36, op := Op.load 160 (Operand.tmp 35), type := 160, pos := "ref.go:72", after := #[{ on := 7, ground := Ground.data }], guard := none }) rfl (fun K hK => ?_) AllReady.nil
              refine step_load rfl 160 _ rfl (.pointer (some ⟨g, k, none⟩)) rfl _ HLC.out ?_
              refine hK _ _ ?_
              clear hK K
              (try simp only [Act.put, List.setIfInBounds_toArray, List.set_cons_zero, List.set_cons_succ])
              refine wpAny_take (i := 9) (oi := { dst := some 37, op := Op.binOp BinOp.shr 160 (Operand.tmp 36) (Operand.const (Value.int IntKind.u64 16)) 141, type := 160, pos := "ref.go:72", after := #[{ on := 8, ground := Ground.data }], guard := none }) (v := .int .u32 y2) rfl (by kernel_rfl) (by kernel_rfl) (by kernel_rfl) (fun _ _ _ h => h) (Or.inl ⟨by rfl, fun w => by go_simp⟩) ?_
              (try simp only [Act.put, List.setIfInBounds_toArray, List.set_cons_zero, List.set_cons_succ])
              refine wpAny_take (i := 10) (oi := { dst := some 38, op := Op.convert 160 5 (Operand.tmp 37), type := 5, pos := "ref.go:72", after := #[{ on := 9, ground := Ground.data }], guard := none }) (v := .int .u8 z2) rfl (by kernel_rfl) (by kernel_rfl) (by kernel_rfl) (fun _ _ _ h => h) (Or.inl ⟨by rfl, fun w => by go_simp⟩) ?_
              (try simp only [Act.put, List.setIfInBounds_toArray, List.set_cons_zero, List.set_cons_succ])
              refine wpAny_ready (rs := [20]) (by kernel_rfl) (by simp) ?_
              refine AllReady.cons (o := { dst := some 48, op := Op.buildSlice 121 4 #[(0, Operand.tmp 33), (1, Operand.tmp 38), (2, Operand.tmp 43), (3, Operand.tmp 47)], type := 121, pos := "ref.go:72", after := #[{ on := 5, ground := Ground.data }, { on := 10, ground := Ground.data }, { on := 15, ground := Ground.data }, { on := 19, ground := Ground.data }], guard := none }) rfl (fun K hK => ?_) AllReady.nil
              go_simp
              refine hK _ _ ?_
              clear hK K
              (try simp only [Act.put, List.setIfInBounds_toArray, List.set_cons_zero, List.set_cons_succ])
              refine wpAny_ready (rs := [21]) (by kernel_rfl) (by simp) ?_
              refine AllReady.cons (o := { dst := some 49, op := Op.call { callee := Callee.builtin Builtin.append, args := #[Operand.tmp 28, Operand.tmp 48], argTypes := #[121, 121] }, type := 121, pos := "ref.go:72", after := #[{ on := 0, ground := Ground.data }, { on := 20, ground := Ground.data }], guard := none }) rfl (fun K hK => ?_) AllReady.nil
              refine step_append_lies _ (by rfl) (.tmp 28) (.tmp 48) 121 (by rfl) V.heap.size 5 i0 (.int .u8 0) 1 1 Tryz.underlying121 hi hz0 hz1 hz2 rfl (by decide) u6 (4 * k) (u8s ((outs q).take (4 * k))) (by rfl) (hown.out.alloc _) ⟨wr.heap.size, 0, none⟩ 4 4 [.int .u8 z1, .int .u8 z2, .int .u8 z3, .int .u8 z4] (by rfl) rfl
                (World.news_of_block (Go.heap_alloc_new wr (.cells #[.int .u8 z1, .int .u8 z2, .int .u8 z3, .int .u8 z4] 5))) (by intro u hu; simp only [List.mem_cons, List.not_mem_nil, or_false] at hu; rcases hu with rfl | rfl | rfl | rfl <;> rfl) (by decide) (by unfold maxLen; omega) (by omega) (by have := hbl.out.size; simp; omega) _ rfl ?_
              intro g1 cap1 w3 hown1 hgrow _ _
              refine hK _ _ ?_
              clear hK K
              have hb1 : Below V.heap.size V w3 := Below.grown ((hbl.out.alloc (by have := hbl.out.size; omega) _).drew) hgrow (by have := hbl.out.size; show V.heap.size ≤ (wr.alloc _).heap.size; rw [size_alloc']; omega) (fun k hk => (hown.out.lt k hk).1)
              have HO1 := Lib.hid hown1
              have HB1 := Lib.hid hb1
              clear hown1 hb1 hgrow
              (try simp only [Act.put, List.setIfInBounds_toArray, List.set_cons_zero, List.set_cons_succ])
              refine wpAny_take (i := 22) (oi := { dst := some 6, op := Op.assign (Operand.tmp 49), type := 121, pos := "ref.go:72", after := #[{ on := 21, ground := Ground.data }, { on := 21, ground := Ground.chain }, { on := 0, ground := Ground.phase }, { on := 1, ground := Ground.phase }, { on := 2, ground := Ground.phase }, { on := 3, ground := Ground.phase }, { on := 4, ground := Ground.phase }, { on := 5, ground := Ground.phase }, { on := 6, ground := Ground.phase }, { on := 7, ground := Ground.phase }, { on := 8, ground := Ground.phase }, { on := 9, ground := Ground.phase }, { on := 10, ground := Ground.phase }, { on := 11, ground := Ground.phase }, { on := 12, ground := Ground.phase }, { on := 13, ground := Ground.phase }, { on := 14, ground := Ground.phase }, { on := 15, ground := Ground.phase }, { on := 16, ground := Ground.phase }, { on := 17, ground := Ground.phase }, { on := 18, ground := Ground.phase }, { on := 19, ground := Ground.phase }, { on := 20, ground := Ground.phase }, { on := 21, ground := Ground.phase }], guard := none }) (v := .slice (some ⟨g1, 0, none⟩) (4 * k + 4) cap1) rfl (by kernel_rfl) (by kernel_rfl) (by kernel_rfl) (fun _ _ _ h => h) (Or.inl ⟨by rfl, fun w => by go_simp⟩) ?_
              (try simp only [Act.put, List.setIfInBounds_toArray, List.set_cons_zero, List.set_cons_succ])
              refine wpAny_done (by kernel_rfl) ?_ _
              go_wp2_with fail
              go_roundw
              case rel =>
                refine ⟨k + 1, by omega, by go_num, Lib.hid ?_, HB1⟩
                have e : (outs q).take (4 * (k + 1)) = (outs q).take (4 * k) ++ [z1, z2, z3, z4] := by
                  rw [outs_next q k hlt2, EC.out, ← EY1.out, ← EY2.out, ← EY3.out, ← EZ1.out, ← EZ2.out, ← EZ3.out, ← EZ4.out]
                rw [e, show 4 * (k + 1) = 4 * k + 4 by omega]
                have h := HO1.out
                rwa [show [Value.int .u8 (z1 : Int), Value.int .u8 (z2 : Int), Value.int .u8 (z3 : Int), Value.int .u8 (z4 : Int)] = u8s [z1, z2, z3, z4] from rfl, show u8s ((outs q).take (4 * k)) ++ u8s [z1, z2, z3, z4] = u8s ((outs q).take (4 * k) ++ [z1, z2, z3, z4]) from (List.map_append ..).symm] at h
              case measure => simp [intOf]; omega
            refine AllReady.cons (o := { dst := some 36, op := Op.load 160 (Operand.tmp 35), type := 160, pos := "ref.go:72", after := #[{ on := 7, ground := Ground.data }], guard := none }) rfl (fun K hK => ?_) AllReady.nil
            refine step_load rfl 160 _ rfl (.pointer (some ⟨g, k, none⟩)) rfl _ HLC.out ?_
            refine hK _ _ ?_
            clear hK K
            (try simp only [Act.put, List.setIfInBounds_toArray, List.set_cons_zero, List.set_cons_succ])
            refine wpAny_take (i := 9) (oi := { dst := some 37, op := Op.binOp BinOp.shr 160 (Operand.tmp 36) (Operand.const (Value.int IntKind.u64 16)) 141, type := 160, pos := "ref.go:72", after := #[{ on := 8, ground := Ground.data }], guard := none }) (v := .int .u32 y2) rfl (by kernel_rfl) (by kernel_rfl) (by kernel_rfl) (fun _ _ _ h => h) (Or.inl ⟨by rfl, fun w => by go_simp⟩) ?_
            (try simp only [Act.put, List.setIfInBounds_toArray, List.set_cons_zero, List.set_cons_succ])
            refine wpAny_take (i := 10) (oi := { dst := some 38, op := Op.convert 160 5 (Operand.tmp 37), type := 5, pos := "ref.go:72", after := #[{ on := 9, ground := Ground.data }], guard := none }) (v := .int .u8 z2) rfl (by kernel_rfl) (by kernel_rfl) (by kernel_rfl) (fun _ _ _ h => h) (Or.inl ⟨by rfl, fun w => by go_simp⟩) ?_
            (try simp only [Act.put, List.setIfInBounds_toArray, List.set_cons_zero, List.set_cons_succ])
            refine wpAny_ready (rs := [3]) (by kernel_rfl) (by simp) ?_
            refine AllReady.cons (o := { dst := some 31, op := Op.load 160 (Operand.tmp 30), type := 160, pos := "ref.go:72", after := #[{ on := 2, ground := Ground.data }], guard := none }) rfl (fun K hK => ?_) AllReady.nil
            refine step_load rfl 160 _ rfl (.pointer (some ⟨g, k, none⟩)) rfl _ HLC.out ?_
            refine hK _ _ ?_
            clear hK K
            (try simp only [Act.put, List.setIfInBounds_toArray, List.set_cons_zero, List.set_cons_succ])
            refine wpAny_take (i := 4) (oi := { dst := some 32, op := Op.binOp BinOp.shr 160 (Operand.tmp 31) (Operand.const (Value.int IntKind.u64 24)) 141, type := 160, pos := "ref.go:72", after := #[{ on := 3, ground := Ground.data }], guard := none }) (v := .int .u32 y1) rfl (by kernel_rfl) (by kernel_rfl) (by kernel_rfl) (fun _ _ _ h => h) (Or.inl ⟨by rfl, fun w => by go_simp⟩) ?_
            (try simp only [Act.put, List.setIfInBounds_toArray, List.set_cons_zero, List.set_cons_succ])
            refine wpAny_take (i := 5) (oi := { dst := some 33, op := Op.convert 160 5 (Operand.tmp 32), type := 5, pos := "ref.go:72", after := #[{ on := 4, ground := Ground.data }], guard := none }) (v := .int .u8 z1) rfl (by kernel_rfl) (by kernel_rfl) (by kernel_rfl) (fun _ _ _ h => h) (Or.inl ⟨by rfl, fun w => by go_simp⟩) ?_
            (try simp only [Act.put, List.setIfInBounds_toArray, List.set_cons_zero, List.set_cons_succ])
            refine wpAny_ready (rs := [20]) (by kernel_rfl) (by simp) ?_
            refine AllReady.cons (o := { dst := some 48, op := Op.buildSlice 121 4 #[(0, Operand.tmp 33), (1, Operand.tmp 38), (2, Operand.tmp 43), (3, Operand.tmp 47)], type := 121, pos := "ref.go:72", after := #[{ on := 5, ground := Ground.data }, { on := 10, ground := Ground.data }, { on := 15, ground := Ground.data }, { on := 19, ground := Ground.data }], guard := none }) rfl (fun K hK => ?_) AllReady.nil
            go_simp
            refine hK _ _ ?_
            clear hK K
            (try simp only [Act.put, List.setIfInBounds_toArray, List.set_cons_zero, List.set_cons_succ])
            refine wpAny_ready (rs := [21]) (by kernel_rfl) (by simp) ?_
            refine AllReady.cons (o := { dst := some 49, op := Op.call { callee := Callee.builtin Builtin.append, args := #[Operand.tmp 28, Operand.tmp 48], argTypes := #[121, 121] }, type := 121, pos := "ref.go:72", after := #[{ on := 0, ground := Ground.data }, { on := 20, ground := Ground.data }], guard := none }) rfl (fun K hK => ?_) AllReady.nil
            refine step_append_lies _ (by rfl) (.tmp 28) (.tmp 48) 121 (by rfl) V.heap.size 5 i0 (.int .u8 0) 1 1 Tryz.underlying121 hi hz0 hz1 hz2 rfl (by decide) u6 (4 * k) (u8s ((outs q).take (4 * k))) (by rfl) (hown.out.alloc _) ⟨wr.heap.size, 0, none⟩ 4 4 [.int .u8 z1, .int .u8 z2, .int .u8 z3, .int .u8 z4] (by rfl) rfl
              (World.news_of_block (Go.heap_alloc_new wr (.cells #[.int .u8 z1, .int .u8 z2, .int .u8 z3, .int .u8 z4] 5))) (by intro u hu; simp only [List.mem_cons, List.not_mem_nil, or_false] at hu; rcases hu with rfl | rfl | rfl | rfl <;> rfl) (by decide) (by unfold maxLen; omega) (by omega) (by have := hbl.out.size; simp; omega) _ rfl ?_
            intro g1 cap1 w3 hown1 hgrow _ _
            refine hK _ _ ?_
            clear hK K
            have hb1 : Below V.heap.size V w3 := Below.grown ((hbl.out.alloc (by have := hbl.out.size; omega) _).drew) hgrow (by have := hbl.out.size; show V.heap.size ≤ (wr.alloc _).heap.size; rw [size_alloc']; omega) (fun k hk => (hown.out.lt k hk).1)
            have HO1 := Lib.hid hown1
            have HB1 := Lib.hid hb1
            clear hown1 hb1 hgrow
            (try simp only [Act.put, List.setIfInBounds_toArray, List.set_cons_zero, List.set_cons_succ])
            refine wpAny_take (i := 22) (oi := { dst := some 6, op := Op.assign (Operand.tmp 49), type := 121, pos := "ref.go:72", after := #[{ on := 21, ground := Ground.data }, { on := 21, ground := Ground.chain }, { on := 0, ground := Ground.phase }, { on := 1, ground := Ground.phase }, { on := 2, ground := Ground.phase }, { on := 3, ground := Ground.phase }, { on := 4, ground := Ground.phase }, { on := 5, ground := Ground.phase }, { on := 6, ground := Ground.phase }, { on := 7, ground := Ground.phase }, { on := 8, ground := Ground.phase }, { on := 9, ground := Ground.phase }, { on := 10, ground := Ground.phase }, { on := 11, ground := Ground.phase }, { on := 12, ground := Ground.phase }, { on := 13, ground := Ground.phase }, { on := 14, ground := Ground.phase }, { on := 15, ground := Ground.phase }, { on := 16, ground := Ground.phase }, { on := 17, ground := Ground.phase }, { on := 18, ground := Ground.phase }, { on := 19, ground := Ground.phase }, { on := 20, ground := Ground.phase }, { on := 21, ground := Ground.phase }], guard := none }) (v := .slice (some ⟨g1, 0, none⟩) (4 * k + 4) cap1) rfl (by kernel_rfl) (by kernel_rfl) (by kernel_rfl) (fun _ _ _ h => h) (Or.inl ⟨by rfl, fun w => by go_simp⟩) ?_
            (try simp only [Act.put, List.setIfInBounds_toArray, List.set_cons_zero, List.set_cons_succ])
            refine wpAny_done (by kernel_rfl) ?_ _
            go_wp2_with fail
            go_roundw
            case rel =>
              refine ⟨k + 1, by omega, by go_num, Lib.hid ?_, HB1⟩
              have e : (outs q).take (4 * (k + 1)) = (outs q).take (4 * k) ++ [z1, z2, z3, z4] := by
                rw [outs_next q k hlt2, EC.out, ← EY1.out, ← EY2.out, ← EY3.out, ← EZ1.out, ← EZ2.out, ← EZ3.out, ← EZ4.out]
              rw [e, show 4 * (k + 1) = 4 * k + 4 by omega]
              have h := HO1.out
              rwa [show [Value.int .u8 (z1 : Int), Value.int .u8 (z2 : Int), Value.int .u8 (z3 : Int), Value.int .u8 (z4 : Int)] = u8s [z1, z2, z3, z4] from rfl, show u8s ((outs q).take (4 * k)) ++ u8s [z1, z2, z3, z4] = u8s ((outs q).take (4 * k) ++ [z1, z2, z3, z4]) from (List.map_append ..).symm] at h
            case measure => simp [intOf]; omega
          refine AllReady.cons (o := { dst := some 46, op := Op.load 160 (Operand.tmp 45), type := 160, pos := "ref.go:72", after := #[{ on := 17, ground := Ground.data }], guard := none }) rfl (fun K hK => ?_) AllReady.nil
          refine step_load rfl 160 _ rfl (.pointer (some ⟨g, k, none⟩)) rfl _ HLC.out ?_
          refine hK _ _ ?_
          clear hK K
          (try simp only [Act.put, List.setIfInBounds_toArray, List.set_cons_zero, List.set_cons_succ])
          refine wpAny_take (i := 19) (oi := { dst := some 47, op := Op.convert 160 5 (Operand.tmp 46), type := 5, pos := "ref.go:72", after := #[{ on := 18, ground := Ground.data }], guard := none }) (v := .int .u8 z4) rfl (by kernel_rfl) (by kernel_rfl) (by kernel_rfl) (fun _ _ _ h => h) (Or.inl ⟨by rfl, fun w => by go_simp⟩) ?_
          (try simp only [Act.put, List.setIfInBounds_toArray, List.set_cons_zero, List.set_cons_succ])
          refine wpAny_ready (rs := [3, 8, 13]) (by kernel_rfl) (by simp) ?_
          refine AllReady.cons (o := { dst := some 31, op := Op.load 160 (Operand.tmp 30), type := 160, pos := "ref.go:72", after := #[{ on := 2, ground := Ground.data }], guard := none }) rfl (fun K hK => ?_) ?_
          · refine step_load rfl 160 _ rfl (.pointer (some ⟨g, k, none⟩)) rfl _ HLC.out ?_
            refine hK _ _ ?_
            clear hK K
            (try simp only [Act.put, List.setIfInBounds_toArray, List.set_cons_zero, List.set_cons_succ])
            refine wpAny_take (i := 4) (oi := { dst := some 32, op := Op.binOp BinOp.shr 160 (Operand.tmp 31) (Operand.const (Value.int IntKind.u64 24)) 141, type := 160, pos := "ref.go:72", after := #[{ on := 3, ground := Ground.data }], guard := none }) (v := .int .u32 y1) rfl (by kernel_rfl) (by kernel_rfl) (by kernel_rfl) (fun _ _ _ h => h) (Or.inl ⟨by rfl, fun w => by go_simp⟩) ?_
            (try simp only [Act.put, List.setIfInBounds_toArray, List.set_cons_zero, List.set_cons_succ])
            refine wpAny_take (i := 5) (oi := { dst := some 33, op := Op.convert 160 5 (Operand.tmp 32), type := 5, pos := "ref.go:72", after := #[{ on := 4, ground := Ground.data }], guard := none }) (v := .int .u8 z1) rfl (by kernel_rfl) (by kernel_rfl) (by kernel_rfl) (fun _ _ _ h => h) (Or.inl ⟨by rfl, fun w => by go_simp⟩) ?_
            (try simp only [Act.put, List.setIfInBounds_toArray, List.set_cons_zero, List.set_cons_succ])
            refine wpAny_ready (rs := [8, 13]) (by kernel_rfl) (by simp) ?_
            refine AllReady.cons (o := { dst := some 36, op := Op.load 160 (Operand.tmp 35), type := 160, pos := "ref.go:72", after := #[{ on := 7, ground := Ground.data }], guard := none }) rfl (fun K hK => ?_) ?_
            · refine step_load rfl 160 _ rfl (.pointer (some ⟨g, k, none⟩)) rfl _ HLC.out ?_
              refine hK _ _ ?_
              clear hK K
              (try simp only [Act.put, List.setIfInBounds_toArray, List.set_cons_zero, List.set_cons_succ])
              refine wpAny_take (i := 9) (oi := { dst := some 37, op := Op.binOp BinOp.shr 160 (Operand.tmp 36) (Operand.const (Value.int IntKind.u64 16)) 141, type := 160, pos := "ref.go:72", after := #[{ on := 8, ground := Ground.data }], guard := none }) (v := .int .u32 y2) rfl (by kernel_rfl) (by kernel_rfl) (by kernel_rfl) (fun _ _ _ h => h) (Or.inl ⟨by rfl, fun w => by go_simp⟩) ?_
              (try simp only [Act.put, List.setIfInBounds_toArray, List.set_cons_zero, List.set_cons_succ])
              refine wpAny_take (i := 10) (oi := { dst := some 38, op := Op.convert 160 5 (Operand.tmp 37), type := 5, pos := "ref.go:72", after := #[{ on := 9, ground := Ground.data }], guard := none }) (v := .int .u8 z2) rfl (by kernel_rfl) (by kernel_rfl) (by kernel_rfl) (fun _ _ _ h => h) (Or.inl ⟨by rfl, fun w => by go_simp⟩) ?_
              (try simp only [Act.put, List.setIfInBounds_toArray, List.set_cons_zero, List.set_cons_succ])
              refine wpAny_ready (rs := [13]) (by kernel_rfl) (by simp) ?_
              refine AllReady.cons (o := { dst := some 41, op := Op.load 160 (Operand.tmp 40), type := 160, pos := "ref.go:72", after := #[{ on := 12, ground := Ground.data }], guard := none }) rfl (fun K hK => ?_) AllReady.nil
              refine step_load rfl 160 _ rfl (.pointer (some ⟨g, k, none⟩)) rfl _ HLC.out ?_
              refine hK _ _ ?_
              clear hK K
              (try simp only [Act.put, List.setIfInBounds_toArray, List.set_cons_zero, List.set_cons_succ])
              refine wpAny_take (i := 14) (oi := { dst := some 42, op := Op.binOp BinOp.shr 160 (Operand.tmp 41) (Operand.const (Value.int IntKind.u64 8)) 141, type := 160, pos := "ref.go:72", after := #[{ on := 13, ground := Ground.data }], guard := none }) (v := .int .u32 y3) rfl (by kernel_rfl) (by kernel_rfl) (by kernel_rfl) (fun _ _ _ h => h) (Or.inl ⟨by rfl, fun w => by go_simp⟩) ?_
              (try simp only [Act.put, List.setIfInBounds_toArray, List.set_cons_zero, List.set_cons_succ])
              refine wpAny_take (i := 15) (oi := { dst := some 43, op := Op.convert 160 5 (Operand.tmp 42), type := 5, pos := "ref.go:72", after := #[{ on := 14, ground := Ground.data }], guard := none }) (v := .int .u8 z3) rfl (by kernel_rfl) (by kernel_rfl) (by kernel_rfl) (fun _ _ _ h => h) (Or.inl ⟨by rfl, fun w => by go_simp⟩) ?_
              (try simp only [Act.put, List.setIfInBounds_toArray, List.set_cons_zero, List.set_cons_succ])
              refine wpAny_ready (rs := [20]) (by kernel_rfl) (by simp) ?_
              refine AllReady.cons (o := { dst := some 48, op := Op.buildSlice 121 4 #[(0, Operand.tmp 33), (1, Operand.tmp 38), (2, Operand.tmp 43), (3, Operand.tmp 47)], type := 121, pos := "ref.go:72", after := #[{ on := 5, ground := Ground.data }, { on := 10, ground := Ground.data }, { on := 15, ground := Ground.data }, { on := 19, ground := Ground.data }], guard := none }) rfl (fun K hK => ?_) AllReady.nil
              go_simp
              refine hK _ _ ?_
              clear hK K
              (try simp only [Act.put, List.setIfInBounds_toArray, List.set_cons_zero, List.set_cons_succ])
              refine wpAny_ready (rs := [21]) (by kernel_rfl) (by simp) ?_
              refine AllReady.cons (o := { dst := some 49, op := Op.call { callee := Callee.builtin Builtin.append, args := #[Operand.tmp 28, Operand.tmp 48], argTypes := #[121, 121] }, type := 121, pos := "ref.go:72", after := #[{ on := 0, ground := Ground.data }, { on := 20, ground := Ground.data }], guard := none }) rfl (fun K hK => ?_) AllReady.nil
              refine step_append_lies _ (by rfl) (.tmp 28) (.tmp 48) 121 (by rfl) V.heap.size 5 i0 (.int .u8 0) 1 1 Tryz.underlying121 hi hz0 hz1 hz2 rfl (by decide) u6 (4 * k) (u8s ((outs q).take (4 * k))) (by rfl) (hown.out.alloc _) ⟨wr.heap.size, 0, none⟩ 4 4 [.int .u8 z1, .int .u8 z2, .int .u8 z3, .int .u8 z4] (by rfl) rfl
                (World.news_of_block (Go.heap_alloc_new wr (.cells #[.int .u8 z1, .int .u8 z2, .int .u8 z3, .int .u8 z4] 5))) (by intro u hu; simp only [List.mem_cons, List.not_mem_nil, or_false] at hu; rcases hu with rfl | rfl | rfl | rfl <;> rfl) (by decide) (by unfold maxLen; omega) (by omega) (by have := hbl.out.size; simp; omega) _ rfl ?_
              intro g1 cap1 w3 hown1 hgrow _ _
              refine hK _ _ ?_
              clear hK K
              have hb1 : Below V.heap.size V w3 := Below.grown ((hbl.out.alloc (by have := hbl.out.size; omega) _).drew) hgrow (by have := hbl.out.size; show V.heap.size ≤ (wr.alloc _).heap.size; rw [size_alloc']; omega) (fun k hk => (hown.out.lt k hk).1)
              have HO1 := Lib.hid hown1
              have HB1 := Lib.hid hb1
              clear hown1 hb1 hgrow
              (try simp only [Act.put, List.setIfInBounds_toArray, List.set_cons_zero, List.set_cons_succ])
              refine wpAny_take (i := 22) (oi := { dst := some 6, op := Op.assign (Operand.tmp 49), type := 121, pos := "ref.go:72", after := #[{ on := 21, ground := Ground.data }, { on := 21, ground := Ground.chain }, { on := 0, ground := Ground.phase }, { on := 1, ground := Ground.phase }, { on := 2, ground := Ground.phase }, { on := 3, ground := Ground.phase }, { on := 4, ground := Ground.phase }, { on := 5, ground := Ground.phase }, { on := 6, ground := Ground.phase }, { on := 7, ground := Ground.phase }, { on := 8, ground := Ground.phase }, { on := 9, ground := Ground.phase }, { on := 10, ground := Ground.phase }, { on := 11, ground := Ground.phase }, { on := 12, ground := Ground.phase }, { on := 13, ground := Ground.phase }, { on := 14, ground := Ground.phase }, { on := 15, ground := Ground.phase }, { on := 16, ground := Ground.phase }, { on := 17, ground := Ground.phase }, { on := 18, ground := Ground.phase }, { on := 19, ground := Ground.phase }, { on := 20, ground := Ground.phase }, { on := 21, ground := Ground.phase }], guard := none }) (v := .slice (some ⟨g1, 0, none⟩) (4 * k + 4) cap1) rfl (by kernel_rfl) (by kernel_rfl) (by kernel_rfl) (fun _ _ _ h => h) (Or.inl ⟨by rfl, fun w => by go_simp⟩) ?_
              (try simp only [Act.put, List.setIfInBounds_toArray, List.set_cons_zero, List.set_cons_succ])
              refine wpAny_done (by kernel_rfl) ?_ _
              go_wp2_with fail
              go_roundw
              case rel =>
                refine ⟨k + 1, by omega, by go_num, Lib.hid ?_, HB1⟩
                have e : (outs q).take (4 * (k + 1)) = (outs q).take (4 * k) ++ [z1, z2, z3, z4] := by
                  rw [outs_next q k hlt2, EC.out, ← EY1.out, ← EY2.out, ← EY3.out, ← EZ1.out, ← EZ2.out, ← EZ3.out, ← EZ4.out]
                rw [e, show 4 * (k + 1) = 4 * k + 4 by omega]
                have h := HO1.out
                rwa [show [Value.int .u8 (z1 : Int), Value.int .u8 (z2 : Int), Value.int .u8 (z3 : Int), Value.int .u8 (z4 : Int)] = u8s [z1, z2, z3, z4] from rfl, show u8s ((outs q).take (4 * k)) ++ u8s [z1, z2, z3, z4] = u8s ((outs q).take (4 * k) ++ [z1, z2, z3, z4]) from (List.map_append ..).symm] at h
              case measure => simp [intOf]; omega
            refine AllReady.cons (o := { dst := some 41, op := Op.load 160 (Operand.tmp 40), type := 160, pos := "ref.go:72", after := #[{ on := 12, ground := Ground.data }], guard := none }) rfl (fun K hK => ?_) AllReady.nil
            refine step_load rfl 160 _ rfl (.pointer (some ⟨g, k, none⟩)) rfl _ HLC.out ?_
            refine hK _ _ ?_
            clear hK K
            (try simp only [Act.put, List.setIfInBounds_toArray, List.set_cons_zero, List.set_cons_succ])
            refine wpAny_take (i := 14) (oi := { dst := some 42, op := Op.binOp BinOp.shr 160 (Operand.tmp 41) (Operand.const (Value.int IntKind.u64 8)) 141, type := 160, pos := "ref.go:72", after := #[{ on := 13, ground := Ground.data }], guard := none }) (v := .int .u32 y3) rfl (by kernel_rfl) (by kernel_rfl) (by kernel_rfl) (fun _ _ _ h => h) (Or.inl ⟨by rfl, fun w => by go_simp⟩) ?_
            (try simp only [Act.put, List.setIfInBounds_toArray, List.set_cons_zero, List.set_cons_succ])
            refine wpAny_take (i := 15) (oi := { dst := some 43, op := Op.convert 160 5 (Operand.tmp 42), type := 5, pos := "ref.go:72", after := #[{ on := 14, ground := Ground.data }], guard := none }) (v := .int .u8 z3) rfl (by kernel_rfl) (by kernel_rfl) (by kernel_rfl) (fun _ _ _ h => h) (Or.inl ⟨by rfl, fun w => by go_simp⟩) ?_
            (try simp only [Act.put, List.setIfInBounds_toArray, List.set_cons_zero, List.set_cons_succ])
            refine wpAny_ready (rs := [8]) (by kernel_rfl) (by simp) ?_
            refine AllReady.cons (o := { dst := some 36, op := Op.load 160 (Operand.tmp 35), type := 160, pos := "ref.go:72", after := #[{ on := 7, ground := Ground.data }], guard := none }) rfl (fun K hK => ?_) AllReady.nil
            refine step_load rfl 160 _ rfl (.pointer (some ⟨g, k, none⟩)) rfl _ HLC.out ?_
            refine hK _ _ ?_
            clear hK K
            (try simp only [Act.put, List.setIfInBounds_toArray, List.set_cons_zero, List.set_cons_succ])
            refine wpAny_take (i := 9) (oi := { dst := some 37, op := Op.binOp BinOp.shr 160 (Operand.tmp 36) (Operand.const (Value.int IntKind.u64 16)) 141, type := 160, pos := "ref.go:72", after := #[{ on := 8, ground := Ground.data }], guard := none }) (v := .int .u32 y2) rfl (by kernel_rfl) (by kernel_rfl) (by kernel_rfl) (fun _ _ _ h => h) (Or.inl ⟨by rfl, fun w => by go_simp⟩) ?_
            (try simp only [Act.put, List.setIfInBounds_toArray, List.set_cons_zero, List.set_cons_succ])
            refine wpAny_take (i := 10) (oi := { dst := some 38, op := Op.convert 160 5 (Operand.tmp 37), type := 5, pos := "ref.go:72", after := #[{ on := 9, ground := Ground.data }], guard := none }) (v := .int .u8 z2) rfl (by kernel_rfl) (by kernel_rfl) (by kernel_rfl) (fun _ _ _ h => h) (Or.inl ⟨by rfl, fun w => by go_simp⟩) ?_
            (try simp only [Act.put, List.setIfInBounds_toArray, List.set_cons_zero, List.set_cons_succ])
            refine wpAny_ready (rs := [20]) (by kernel_rfl) (by simp) ?_
            refine AllReady.cons (o := { dst := some 48, op := Op.buildSlice 121 4 #[(0, Operand.tmp 33), (1, Operand.tmp 38), (2, Operand.tmp 43), (3, Operand.tmp 47)], type := 121, pos := "ref.go:72", after := #[{ on := 5, ground := Ground.data }, { on := 10, ground := Ground.data }, { on := 15, ground := Ground.data }, { on := 19, ground := Ground.data }], guard := none }) rfl (fun K hK => ?_) AllReady.nil
            go_simp
            refine hK _ _ ?_
            clear hK K
            (try simp only [Act.put, List.setIfInBounds_toArray, List.set_cons_zero, List.set_cons_succ])
            refine wpAny_ready (rs := [21]) (by kernel_rfl) (by simp) ?_
            refine AllReady.cons (o := { dst := some 49, op := Op.call { callee := Callee.builtin Builtin.append, args := #[Operand.tmp 28, Operand.tmp 48], argTypes := #[121, 121] }, type := 121, pos := "ref.go:72", after := #[{ on := 0, ground := Ground.data }, { on := 20, ground := Ground.data }], guard := none }) rfl (fun K hK => ?_) AllReady.nil
            refine step_append_lies _ (by rfl) (.tmp 28) (.tmp 48) 121 (by rfl) V.heap.size 5 i0 (.int .u8 0) 1 1 Tryz.underlying121 hi hz0 hz1 hz2 rfl (by decide) u6 (4 * k) (u8s ((outs q).take (4 * k))) (by rfl) (hown.out.alloc _) ⟨wr.heap.size, 0, none⟩ 4 4 [.int .u8 z1, .int .u8 z2, .int .u8 z3, .int .u8 z4] (by rfl) rfl
              (World.news_of_block (Go.heap_alloc_new wr (.cells #[.int .u8 z1, .int .u8 z2, .int .u8 z3, .int .u8 z4] 5))) (by intro u hu; simp only [List.mem_cons, List.not_mem_nil, or_false] at hu; rcases hu with rfl | rfl | rfl | rfl <;> rfl) (by decide) (by unfold maxLen; omega) (by omega) (by have := hbl.out.size; simp; omega) _ rfl ?_
            intro g1 cap1 w3 hown1 hgrow _ _
            refine hK _ _ ?_
            clear hK K
            have hb1 : Below V.heap.size V w3 := Below.grown ((hbl.out.alloc (by have := hbl.out.size; omega) _).drew) hgrow (by have := hbl.out.size; show V.heap.size ≤ (wr.alloc _).heap.size; rw [size_alloc']; omega) (fun k hk => (hown.out.lt k hk).1)
            have HO1 := Lib.hid hown1
            have HB1 := Lib.hid hb1
            clear hown1 hb1 hgrow
            (try simp only [Act.put, List.setIfInBounds_toArray, List.set_cons_zero, List.set_cons_succ])
            refine wpAny_take (i := 22) (oi := { dst := some 6, op := Op.assign (Operand.tmp 49), type := 121, pos := "ref.go:72", after := #[{ on := 21, ground := Ground.data }, { on := 21, ground := Ground.chain }, { on := 0, ground := Ground.phase }, { on := 1, ground := Ground.phase }, { on := 2, ground := Ground.phase }, { on := 3, ground := Ground.phase }, { on := 4, ground := Ground.phase }, { on := 5, ground := Ground.phase }, { on := 6, ground := Ground.phase }, { on := 7, ground := Ground.phase }, { on := 8, ground := Ground.phase }, { on := 9, ground := Ground.phase }, { on := 10, ground := Ground.phase }, { on := 11, ground := Ground.phase }, { on := 12, ground := Ground.phase }, { on := 13, ground := Ground.phase }, { on := 14, ground := Ground.phase }, { on := 15, ground := Ground.phase }, { on := 16, ground := Ground.phase }, { on := 17, ground := Ground.phase }, { on := 18, ground := Ground.phase }, { on := 19, ground := Ground.phase }, { on := 20, ground := Ground.phase }, { on := 21, ground := Ground.phase }], guard := none }) (v := .slice (some ⟨g1, 0, none⟩) (4 * k + 4) cap1) rfl (by kernel_rfl) (by kernel_rfl) (by kernel_rfl) (fun _ _ _ h => h) (Or.inl ⟨by rfl, fun w => by go_simp⟩) ?_
            (try simp only [Act.put, List.setIfInBounds_toArray, List.set_cons_zero, List.set_cons_succ])
            refine wpAny_done (by kernel_rfl) ?_ _
            go_wp2_with fail
            go_roundw
            case rel =>
              refine ⟨k + 1, by omega, by go_num, Lib.hid ?_, HB1⟩
              have e : (outs q).take (4 * (k + 1)) = (outs q).take (4 * k) ++ [z1, z2, z3, z4] := by
                rw [outs_next q k hlt2, EC.out, ← EY1.out, ← EY2.out, ← EY3.out, ← EZ1.out, ← EZ2.out, ← EZ3.out, ← EZ4.out]
              rw [e, show 4 * (k + 1) = 4 * k + 4 by omega]
              have h := HO1.out
              rwa [show [Value.int .u8 (z1 : Int), Value.int .u8 (z2 : Int), Value.int .u8 (z3 : Int), Value.int .u8 (z4 : Int)] = u8s [z1, z2, z3, z4] from rfl, show u8s ((outs q).take (4 * k)) ++ u8s [z1, z2, z3, z4] = u8s ((outs q).take (4 * k) ++ [z1, z2, z3, z4]) from (List.map_append ..).symm] at h
            case measure => simp [intOf]; omega
          refine AllReady.cons (o := { dst := some 36, op := Op.load 160 (Operand.tmp 35), type := 160, pos := "ref.go:72", after := #[{ on := 7, ground := Ground.data }], guard := none }) rfl (fun K hK => ?_) ?_
          · refine step_load rfl 160 _ rfl (.pointer (some ⟨g, k, none⟩)) rfl _ HLC.out ?_
            refine hK _ _ ?_
            clear hK K
            (try simp only [Act.put, List.setIfInBounds_toArray, List.set_cons_zero, List.set_cons_succ])
            refine wpAny_take (i := 9) (oi := { dst := some 37, op := Op.binOp BinOp.shr 160 (Operand.tmp 36) (Operand.const (Value.int IntKind.u64 16)) 141, type := 160, pos := "ref.go:72", after := #[{ on := 8, ground := Ground.data }], guard := none }) (v := .int .u32 y2) rfl (by kernel_rfl) (by kernel_rfl) (by kernel_rfl) (fun _ _ _ h => h) (Or.inl ⟨by rfl, fun w => by go_simp⟩) ?_
            (try simp only [Act.put, List.setIfInBounds_toArray, List.set_cons_zero, List.set_cons_succ])
            refine wpAny_take (i := 10) (oi := { dst := some 38, op := Op.convert 160 5 (Operand.tmp 37), type := 5, pos := "ref.go:72", after := #[{ on := 9, ground := Ground.data }], guard := none }) (v := .int .u8 z2) rfl (by kernel_rfl) (by kernel_rfl) (by kernel_rfl) (fun _ _ _ h => h) (Or.inl ⟨by rfl, fun w => by go_simp⟩) ?_
            (try simp only [Act.put, List.setIfInBounds_toArray, List.set_cons_zero, List.set_cons_succ])
            refine wpAny_ready (rs := [3, 13]) (by kernel_rfl) (by simp) ?_
            refine AllReady.cons (o := { dst := some 31, op := Op.load 160 (Operand.tmp 30), type := 160, pos := "ref.go:72", after := #[{ on := 2, ground := Ground.data }], guard := none }) rfl (fun K hK => ?_) ?_
            · refine step_load rfl 160 _ rfl (.pointer (some ⟨g, k, none⟩)) rfl _ HLC.out ?_
              refine hK _ _ ?_
              clear hK K
              (try simp only [Act.put, List.setIfInBounds_toArray, List.set_cons_zero, List.set_cons_succ])
              refine wpAny_take (i := 4) (oi := { dst := some 32, op := Op.binOp BinOp.shr 160 (Operand.tmp 31) (Operand.const (Value.int IntKind.u64 24)) 141, type := 160, pos := "ref.go:72", after := #[{ on := 3, ground := Ground.data }], guard := none }) (v := .int .u32 y1) rfl (by kernel_rfl) (by kernel_rfl) (by kernel_rfl) (fun _ _ _ h => h) (Or.inl ⟨by rfl, fun w => by go_simp⟩) ?_
              (try simp only [Act.put, List.setIfInBounds_toArray, List.set_cons_zero, List.set_cons_succ])
              refine wpAny_take (i := 5) (oi := { dst := some 33, op := Op.convert 160 5 (Operand.tmp 32), type := 5, pos := "ref.go:72", after := #[{ on := 4, ground := Ground.data }], guard := none }) (v := .int .u8 z1) rfl (by kernel_rfl) (by kernel_rfl) (by kernel_rfl) (fun _ _ _ h => h) (Or.inl ⟨by rfl, fun w => by go_simp⟩) ?_
              (try simp only [Act.put, List.setIfInBounds_toArray, List.set_cons_zero, List.set_cons_succ])
              refine wpAny_ready (rs := [13]) (by kernel_rfl) (by simp) ?_
              refine AllReady.cons (o := { dst := some 41, op := Op.load 160 (Operand.tmp 40), type := 160, pos := "ref.go:72", after := #[{ on := 12, ground := Ground.data }], guard := none }) rfl (fun K hK => ?_) AllReady.nil
              refine step_load rfl 160 _ rfl (.pointer (some ⟨g, k, none⟩)) rfl _ HLC.out ?_
              refine hK _ _ ?_
              clear hK K
              (try simp only [Act.put, List.setIfInBounds_toArray, List.set_cons_zero, List.set_cons_succ])
              refine wpAny_take (i := 14) (oi := { dst := some 42, op := Op.binOp BinOp.shr 160 (Operand.tmp 41) (Operand.const (Value.int IntKind.u64 8)) 141, type := 160, pos := "ref.go:72", after := #[{ on := 13, ground := Ground.data }], guard := none }) (v := .int .u32 y3) rfl (by kernel_rfl) (by kernel_rfl) (by kernel_rfl) (fun _ _ _ h => h) (Or.inl ⟨by rfl, fun w => by go_simp⟩) ?_
              (try simp only [Act.put, List.setIfInBounds_toArray, List.set_cons_zero, List.set_cons_succ])
              refine wpAny_take (i := 15) (oi := { dst := some 43, op := Op.convert 160 5 (Operand.tmp 42), type := 5, pos := "ref.go:72", after := #[{ on := 14, ground := Ground.data }], guard := none }) (v := .int .u8 z3) rfl (by kernel_rfl) (by kernel_rfl) (by kernel_rfl) (fun _ _ _ h => h) (Or.inl ⟨by rfl, fun w => by go_simp⟩) ?_
              (try simp only [Act.put, List.setIfInBounds_toArray, List.set_cons_zero, List.set_cons_succ])
              refine wpAny_ready (rs := [20]) (by kernel_rfl) (by simp) ?_
              refine AllReady.cons (o := { dst := some 48, op := Op.buildSlice 121 4 #[(0, Operand.tmp 33), (1, Operand.tmp 38), (2, Operand.tmp 43), (3, Operand.tmp 47)], type := 121, pos := "ref.go:72", after := #[{ on := 5, ground := Ground.data }, { on := 10, ground := Ground.data }, { on := 15, ground := Ground.data }, { on := 19, ground := Ground.data }], guard := none }) rfl (fun K hK => ?_) AllReady.nil
              go_simp
              refine hK _ _ ?_
              clear hK K
              (try simp only [Act.put, List.setIfInBounds_toArray, List.set_cons_zero, List.set_cons_succ])
              refine wpAny_ready (rs := [21]) (by kernel_rfl) (by simp) ?_
              refine AllReady.cons (o := { dst := some 49, op := Op.call { callee := Callee.builtin Builtin.append, args := #[Operand.tmp 28, Operand.tmp 48], argTypes := #[121, 121] }, type := 121, pos := "ref.go:72", after := #[{ on := 0, ground := Ground.data }, { on := 20, ground := Ground.data }], guard := none }) rfl (fun K hK => ?_) AllReady.nil
              refine step_append_lies _ (by rfl) (.tmp 28) (.tmp 48) 121 (by rfl) V.heap.size 5 i0 (.int .u8 0) 1 1 Tryz.underlying121 hi hz0 hz1 hz2 rfl (by decide) u6 (4 * k) (u8s ((outs q).take (4 * k))) (by rfl) (hown.out.alloc _) ⟨wr.heap.size, 0, none⟩ 4 4 [.int .u8 z1, .int .u8 z2, .int .u8 z3, .int .u8 z4] (by rfl) rfl
                (World.news_of_block (Go.heap_alloc_new wr (.cells #[.int .u8 z1, .int .u8 z2, .int .u8 z3, .int .u8 z4] 5))) (by intro u hu; simp only [List.mem_cons, List.not_mem_nil, or_false] at hu; rcases hu with rfl | rfl | rfl | rfl <;> rfl) (by decide) (by unfold maxLen; omega) (by omega) (by have := hbl.out.size; simp; omega) _ rfl ?_
              intro g1 cap1 w3 hown1 hgrow _ _
              refine hK _ _ ?_
              clear hK K
              have hb1 : Below V.heap.size V w3 := Below.grown ((hbl.out.alloc (by have := hbl.out.size; omega) _).drew) hgrow (by have := hbl.out.size; show V.heap.size ≤ (wr.alloc _).heap.size; rw [size_alloc']; omega) (fun k hk => (hown.out.lt k hk).1)
              have HO1 := Lib.hid hown1
              have HB1 := Lib.hid hb1
              clear hown1 hb1 hgrow
              (try simp only [Act.put, List.setIfInBounds_toArray, List.set_cons_zero, List.set_cons_succ])
              refine wpAny_take (i := 22) (oi := { dst := some 6, op := Op.assign (Operand.tmp 49), type := 121, pos := "ref.go:72", after := #[{ on := 21, ground := Ground.data }, { on := 21, ground := Ground.chain }, { on := 0, ground := Ground.phase }, { on := 1, ground := Ground.phase }, { on := 2, ground := Ground.phase }, { on := 3, ground := Ground.phase }, { on := 4, ground := Ground.phase }, { on := 5, ground := Ground.phase }, { on := 6, ground := Ground.phase }, { on := 7, ground := Ground.phase }, { on := 8, ground := Ground.phase }, { on := 9, ground := Ground.phase }, { on := 10, ground := Ground.phase }, { on := 11, ground := Ground.phase }, { on := 12, ground := Ground.phase }, { on := 13, ground := Ground.phase }, { on := 14, ground := Ground.phase }, { on := 15, ground := Ground.phase }, { on := 16, ground := Ground.phase }, { on := 17, ground := Ground.phase }, { on := 18, ground := Ground.phase }, { on := 19, ground := Ground.phase }, { on := 20, ground := Ground.phase }, { on := 21, ground := Ground.phase }], guard := none }) (v := .slice (some ⟨g1, 0, none⟩) (4 * k + 4) cap1) rfl (by kernel_rfl) (by kernel_rfl) (by kernel_rfl) (fun _ _ _ h => h) (Or.inl ⟨by rfl, fun w => by go_simp⟩) ?_
              (try simp only [Act.put, List.setIfInBounds_toArray, List.set_cons_zero, List.set_cons_succ])
              refine wpAny_done (by kernel_rfl) ?_ _
              go_wp2_with fail
              go_roundw
              case rel =>
                refine ⟨k + 1, by omega, by go_num, Lib.hid ?_, HB1⟩
                have e : (outs q).take (4 * (k + 1)) = (outs q).take (4 * k) ++ [z1, z2, z3, z4] := by
                  rw [outs_next q k hlt2, EC.out, ← EY1.out, ← EY2.out, ← EY3.out, ← EZ1.out, ← EZ2.out, ← EZ3.out, ← EZ4.out]
                rw [e, show 4 * (k + 1) = 4 * k + 4 by omega]
                have h := HO1.out
                rwa [show [Value.int .u8 (z1 : Int), Value.int .u8 (z2 : Int), Value.int .u8 (z3 : Int), Value.int .u8 (z4 : Int)] = u8s [z1, z2, z3, z4] from rfl, show u8s ((outs q).take (4 * k)) ++ u8s [z1, z2, z3, z4] = u8s ((outs q).take (4 * k) ++ [z1, z2, z3, z4]) from (List.map_append ..).symm] at h
              case measure => simp [intOf]; omega
            refine AllReady.cons (o := { dst := some 41, op := Op.load 160 (Operand.tmp 40), type := 160, pos := "ref.go:72", after := #[{ on := 12, ground := Ground.data }], guard := none }) rfl (fun K hK => ?_) AllReady.nil
            refine step_load rfl 160 _ rfl (.pointer (some ⟨g, k, none⟩)) rfl _ HLC.out ?_
            refine hK _ _ ?_
            clear hK K
            (try simp only [Act.put, List.setIfInBounds_toArray, List.set_cons_zero, List.set_cons_succ])
            refine wpAny_take (i := 14) (oi := { dst := some 42, op := Op.binOp BinOp.shr 160 (Operand.tmp 41) (Operand.const (Value.int IntKind.u64 8)) 141, type := 160, pos := "ref.go:72", after := #[{ on := 13, ground := Ground.data }], guard := none }) (v := .int .u32 y3) rfl (by kernel_rfl) (by kernel_rfl) (by kernel_rfl) (fun _ _ _ h => h) (Or.inl ⟨by rfl, fun w => by go_simp⟩) ?_
            (try simp only [Act.put, List.setIfInBounds_toArray, List.set_cons_zero, List.set_cons_succ])
            refine wpAny_take (i := 15) (oi := { dst := some 43, op := Op.convert 160 5 (Operand.tmp 42), type := 5, pos := "ref.go:72", after := #[{ on := 14, ground := Ground.data }], guard := none }) (v := .int .u8 z3) rfl (by kernel_rfl) (by kernel_rfl) (by kernel_rfl) (fun _ _ _ h => h) (Or.inl ⟨by rfl, fun w => by go_simp⟩) ?_
            (try simp only [Act.put, List.setIfInBounds_toArray, List.set_cons_zero, List.set_cons_succ])
            refine wpAny_ready (rs := [3]) (by kernel_rfl) (by simp) ?_
            refine AllReady.cons (o := { dst := some 31, op := Op.load 160 (Operand.tmp 30), type := 160, pos := "ref.go:72", after := #[{ on := 2, ground := Ground.data }], guard := none }) rfl (fun K hK => ?_) AllReady.nil
            refine step_load rfl 160 _ rfl (.pointer (some ⟨g, k, none⟩)) rfl _ HLC.out ?_
            refine hK _ _ ?_
            clear hK K
            (try simp only [Act.put, List.setIfInBounds_toArray, List.set_cons_zero, List.set_cons_succ])
            refine wpAny_take (i := 4) (oi := { dst := some 32, op := Op.binOp BinOp.shr 160 (Operand.tmp 31) (Operand.const (Value.int IntKind.u64 24)) 141, type := 160, pos := "ref.go:72", after := #[{ on := 3, ground := Ground.data }], guard := none }) (v := .int .u32 y1) rfl (by kernel_rfl) (by kernel_rfl) (by kernel_rfl) (fun _ _ _ h => h) (Or.inl ⟨by rfl, fun w => by go_simp⟩) ?_
            (try simp only [Act.put, List.setIfInBounds_toArray, List.set_cons_zero, List.set_cons_succ])
            refine wpAny_take (i := 5) (oi := { dst := some 33, op := Op.convert 160 5 (Operand.tmp 32), type := 5, pos := "ref.go:72", after := #[{ on := 4, ground := Ground.data }], guard := none }) (v := .int .u8 z1) rfl (by kernel_rfl) (by kernel_rfl) (by kernel_rfl) (fun _ _ _ h => h) (Or.inl ⟨by rfl, fun w => by go_simp⟩) ?_
            (try simp only [Act.put, List.setIfInBounds_toArray, List.set_cons_zero, List.set_cons_succ])
            refine wpAny_ready (rs := [20]) (by kernel_rfl) (by simp) ?_
            refine AllReady.cons (o := { dst := some 48, op := Op.buildSlice 121 4 #[(0, Operand.tmp 33), (1, Operand.tmp 38), (2, Operand.tmp 43), (3, Operand.tmp 47)], type := 121, pos := "ref.go:72", after := #[{ on := 5, ground := Ground.data }, { on := 10, ground := Ground.data }, { on := 15, ground := Ground.data }, { on := 19, ground := Ground.data }], guard := none }) rfl (fun K hK => ?_) AllReady.nil
            go_simp
            refine hK _ _ ?_
            clear hK K
            (try simp only [Act.put, List.setIfInBounds_toArray, List.set_cons_zero, List.set_cons_succ])
            refine wpAny_ready (rs := [21]) (by kernel_rfl) (by simp) ?_
            refine AllReady.cons (o := { dst := some 49, op := Op.call { callee := Callee.builtin Builtin.append, args := #[Operand.tmp 28, Operand.tmp 48], argTypes := #[121, 121] }, type := 121, pos := "ref.go:72", after := #[{ on := 0, ground := Ground.data }, { on := 20, ground := Ground.data }], guard := none }) rfl (fun K hK => ?_) AllReady.nil
            refine step_append_lies _ (by rfl) (.tmp 28) (.tmp 48) 121 (by rfl) V.heap.size 5 i0 (.int .u8 0) 1 1 Tryz.underlying121 hi hz0 hz1 hz2 rfl (by decide) u6 (4 * k) (u8s ((outs q).take (4 * k))) (by rfl) (hown.out.alloc _) ⟨wr.heap.size, 0, none⟩ 4 4 [.int .u8 z1, .int .u8 z2, .int .u8 z3, .int .u8 z4] (by rfl) rfl
              (World.news_of_block (Go.heap_alloc_new wr (.cells #[.int .u8 z1, .int .u8 z2, .int .u8 z3, .int .u8 z4] 5))) (by intro u hu; simp only [List.mem_cons, List.not_mem_nil, or_false] at hu; rcases hu with rfl | rfl | rfl | rfl <;> rfl) (by decide) (by unfold maxLen; omega) (by omega) (by have := hbl.out.size; simp; omega) _ rfl ?_
            intro g1 cap1 w3 hown1 hgrow _ _
            refine hK _ _ ?_
            clear hK K
            have hb1 : Below V.heap.size V w3 := Below.grown ((hbl.out.alloc (by have := hbl.out.size; omega) _).drew) hgrow (by have := hbl.out.size; show V.heap.size ≤ (wr.alloc _).heap.size; rw [size_alloc']; omega) (fun k hk => (hown.out.lt k hk).1)
            have HO1 := Lib.hid hown1
            have HB1 := Lib.hid hb1
            clear hown1 hb1 hgrow
            (try simp only [Act.put, List.setIfInBounds_toArray, List.set_cons_zero, List.set_cons_succ])
            refine wpAny_take (i := 22) (oi := { dst := some 6, op := Op.assign (Operand.tmp 49), type := 121, pos := "ref.go:72", after := #[{ on := 21, ground := Ground.data }, { on := 21, ground := Ground.chain }, { on := 0, ground := Ground.phase }, { on := 1, ground := Ground.phase }, { on := 2, ground := Ground.phase }, { on := 3, ground := Ground.phase }, { on := 4, ground := Ground.phase }, { on := 5, ground := Ground.phase }, { on := 6, ground := Ground.phase }, { on := 7, ground := Ground.phase }, { on := 8, ground := Ground.phase }, { on := 9, ground := Ground.phase }, { on := 10, ground := Ground.phase }, { on := 11, ground := Ground.phase }, { on := 12, ground := Ground.phase }, { on := 13, ground := Ground.phase }, { on := 14, ground := Ground.phase }, { on := 15, ground := Ground.phase }, { on := 16, ground := Ground.phase }, { on := 17, ground := Ground.phase }, { on := 18, ground := Ground.phase }, { on := 19, ground := Ground.phase }, { on := 20, ground := Ground.phase }, { on := 21, ground := Ground.phase }], guard := none }) (v := .slice (some ⟨g1, 0, none⟩) (4 * k + 4) cap1) rfl (by kernel_rfl) (by kernel_rfl) (by kernel_rfl) (fun _ _ _ h => h) (Or.inl ⟨by rfl, fun w => by go_simp⟩) ?_
            (try simp only [Act.put, List.setIfInBounds_toArray, List.set_cons_zero, List.set_cons_succ])
            refine wpAny_done (by kernel_rfl) ?_ _
            go_wp2_with fail
            go_roundw
            case rel =>
              refine ⟨k + 1, by omega, by go_num, Lib.hid ?_, HB1⟩
              have e : (outs q).take (4 * (k + 1)) = (outs q).take (4 * k) ++ [z1, z2, z3, z4] := by
                rw [outs_next q k hlt2, EC.out, ← EY1.out, ← EY2.out, ← EY3.out, ← EZ1.out, ← EZ2.out, ← EZ3.out, ← EZ4.out]
              rw [e, show 4 * (k + 1) = 4 * k + 4 by omega]
              have h := HO1.out
              rwa [show [Value.int .u8 (z1 : Int), Value.int .u8 (z2 : Int), Value.int .u8 (z3 : Int), Value.int .u8 (z4 : Int)] = u8s [z1, z2, z3, z4] from rfl, show u8s ((outs q).take (4 * k)) ++ u8s [z1, z2, z3, z4] = u8s ((outs q).take (4 * k) ++ [z1, z2, z3, z4]) from (List.map_append ..).symm] at h
            case measure => simp [intOf]; omega
          refine AllReady.cons (o := { dst := some 41, op := Op.load 160 (Operand.tmp 40), type := 160, pos := "ref.go:72", after := #[{ on := 12, ground := Ground.data }], guard := none }) rfl (fun K hK => ?_) AllReady.nil
          refine step_load rfl 160 _ rfl (.pointer (some ⟨g, k, none⟩)) rfl _ HLC.out ?_
          refine hK _ _ ?_
          clear hK K
          (try simp only [Act.put, List.setIfInBounds_toArray, List.set_cons_zero, List.set_cons_succ])
          refine wpAny_take (i := 14) (oi := { dst := some 42, op := Op.binOp BinOp.shr 160 (Operand.tmp 41) (Operand.const (Value.int IntKind.u64 8)) 141, type := 160, pos := "ref.go:72", after := #[{ on := 13, ground := Ground.data }], guard := none }) (v := .int .u32 y3) rfl (by kernel_rfl) (by kernel_rfl) (by kernel_rfl) (fun _ _ _ h => h) (Or.inl ⟨by rfl, fun w => by go_simp⟩) ?_
          (try simp only [Act.put, List.setIfInBounds_toArray, List.set_cons_zero, List.set_cons_succ])
          refine wpAny_take (i := 15) (oi := { dst := some 43, op := Op.convert 160 5 (Operand.tmp 42), type := 5, pos := "ref.go:72", after := #[{ on := 14, ground := Ground.data }], guard := none }) (v := .int .u8 z3) rfl (by kernel_rfl) (by kernel_rfl) (by kernel_rfl) (fun _ _ _ h => h) (Or.inl ⟨by rfl, fun w => by go_simp⟩) ?_
          (try simp only [Act.put, List.setIfInBounds_toArray, List.set_cons_zero, List.set_cons_succ])
          refine wpAny_ready (rs := [3, 8]) (by kernel_rfl) (by simp) ?_
          refine AllReady.cons (o := { dst := some 31, op := Op.load 160 (Operand.tmp 30), type := 160, pos := "ref.go:72", after := #[{ on := 2, ground := Ground.data }], guard := none }) rfl (fun K hK => ?_) ?_
          · refine step_load rfl 160 _ rfl (.pointer (some ⟨g, k, none⟩)) rfl _ HLC.out ?_
            refine hK _ _ ?_
            clear hK K
            (try simp only [Act.put, List.setIfInBounds_toArray, List.set_cons_zero, List.set_cons_succ])
            refine wpAny_take (i := 4) (oi := { dst := some 32, op := Op.binOp BinOp.shr 160 (Operand.tmp 31) (Operand.const (Value.int IntKind.u64 24)) 141, type := 160, pos := "ref.go:72", after := #[{ on := 3, ground := Ground.data }], guard := none }) (v := .int .u32 y1) rfl (by kernel_rfl) (by kernel_rfl) (by kernel_rfl) (fun _ _ _ h => h) (Or.inl ⟨by rfl, fun w => by go_simp⟩) ?_
            (try simp only [Act.put, List.setIfInBounds_toArray, List.set_cons_zero, List.set_cons_succ])
            refine wpAny_take (i := 5) (oi := { dst := some 33, op := Op.convert 160 5 (Operand.tmp 32), type := 5, pos := "ref.go:72", after := #[{ on := 4, ground := Ground.data }], guard := none }) (v := .int .u8 z1) rfl (by kernel_rfl) (by kernel_rfl) (by kernel_rfl) (fun _ _ _ h => h) (Or.inl ⟨by rfl, fun w => by go_simp⟩) ?_
            (try simp only [Act.put, List.setIfInBounds_toArray, List.set_cons_zero, List.set_cons_succ])
            refine wpAny_ready (rs := [8]) (by kernel_rfl) (by simp) ?_
            refine AllReady.cons (o := { dst := some 36, op := Op.load 160 (Operand.tmp 35), type := 160, pos := "ref.go:72", after := #[{ on := 7, ground := Ground.data }], guard := none }) rfl (fun K hK => ?_) AllReady.nil
            refine step_load rfl 160 _ rfl (.pointer (some ⟨g, k, none⟩)) rfl _ HLC.out ?_
            refine hK _ _ ?_
            clear hK K
            (try simp only [Act.put, List.setIfInBounds_toArray, List.set_cons_zero, List.set_cons_succ])
            refine wpAny_take (i := 9) (oi := { dst := some 37, op := Op.binOp BinOp.shr 160 (Operand.tmp 36) (Operand.const (Value.int IntKind.u64 16)) 141, type := 160, pos := "ref.go:72", after := #[{ on := 8, ground := Ground.data }], guard := none }) (v := .int .u32 y2) rfl (by kernel_rfl) (by kernel_rfl) (by kernel_rfl) (fun _ _ _ h => h) (Or.inl ⟨by rfl, fun w => by go_simp⟩) ?_
            (try simp only [Act.put, List.setIfInBounds_toArray, List.set_cons_zero, List.set_cons_succ])
            refine wpAny_take (i := 10) (oi := { dst := some 38, op := Op.convert 160 5 (Operand.tmp 37), type := 5, pos := "ref.go:72", after := #[{ on := 9, ground := Ground.data }], guard := none }) (v := .int .u8 z2) rfl (by kernel_rfl) (by kernel_rfl) (by kernel_rfl) (fun _ _ _ h => h) (Or.inl ⟨by rfl, fun w => by go_simp⟩) ?_
            (try simp only [Act.put, List.setIfInBounds_toArray, List.set_cons_zero, List.set_cons_succ])
            refine wpAny_ready (rs := [20]) (by kernel_rfl) (by simp) ?_
            refine AllReady.cons (o := { dst := some 48, op := Op.buildSlice 121 4 #[(0, Operand.tmp 33), (1, Operand.tmp 38), (2, Operand.tmp 43), (3, Operand.tmp 47)], type := 121, pos := "ref.go:72", after := #[{ on := 5, ground := Ground.data }, { on := 10, ground := Ground.data }, { on := 15, ground := Ground.data }, { on := 19, ground := Ground.data }], guard := none }) rfl (fun K hK => ?_) AllReady.nil
            go_simp
            refine hK _ _ ?_
            clear hK K
            (try simp only [Act.put, List.setIfInBounds_toArray, List.set_cons_zero, List.set_cons_succ])
            refine wpAny_ready (rs := [21]) (by kernel_rfl) (by simp) ?_
            refine AllReady.cons (o := { dst := some 49, op := Op.call { callee := Callee.builtin Builtin.append, args := #[Operand.tmp 28, Operand.tmp 48], argTypes := #[121, 121] }, type := 121, pos := "ref.go:72", after := #[{ on := 0, ground := Ground.data }, { on := 20, ground := Ground.data }], guard := none }) rfl (fun K hK => ?_) AllReady.nil
            refine step_append_lies _ (by rfl) (.tmp 28) (.tmp 48) 121 (by rfl) V.heap.size 5 i0 (.int .u8 0) 1 1 Tryz.underlying121 hi hz0 hz1 hz2 rfl (by decide) u6 (4 * k) (u8s ((outs q).take (4 * k))) (by rfl) (hown.out.alloc _) ⟨wr.heap.size, 0, none⟩ 4 4 [.int .u8 z1, .int .u8 z2, .int .u8 z3, .int .u8 z4] (by rfl) rfl
              (World.news_of_block (Go.heap_alloc_new wr (.cells #[.int .u8 z1, .int .u8 z2, .int .u8 z3, .int .u8 z4] 5))) (by intro u hu; simp only [List.mem_cons, List.not_mem_nil, or_false] at hu; rcases hu with rfl | rfl | rfl | rfl <;> rfl) (by decide) (by unfold maxLen; omega) (by omega) (by have := hbl.out.size; simp; omega) _ rfl ?_
            intro g1 cap1 w3 hown1 hgrow _ _
            refine hK _ _ ?_
            clear hK K
            have hb1 : Below V.heap.size V w3 := Below.grown ((hbl.out.alloc (by have := hbl.out.size; omega) _).drew) hgrow (by have := hbl.out.size; show V.heap.size ≤ (wr.alloc _).heap.size; rw [size_alloc']; omega) (fun k hk => (hown.out.lt k hk).1)
            have HO1 := Lib.hid hown1
            have HB1 := Lib.hid hb1
            clear hown1 hb1 hgrow
            (try simp only [Act.put, List.setIfInBounds_toArray, List.set_cons_zero, List.set_cons_succ])
            refine wpAny_take (i := 22) (oi := { dst := some 6, op := Op.assign (Operand.tmp 49), type := 121, pos := "ref.go:72", after := #[{ on := 21, ground := Ground.data }, { on := 21, ground := Ground.chain }, { on := 0, ground := Ground.phase }, { on := 1, ground := Ground.phase }, { on := 2, ground := Ground.phase }, { on := 3, ground := Ground.phase }, { on := 4, ground := Ground.phase }, { on := 5, ground := Ground.phase }, { on := 6, ground := Ground.phase }, { on := 7, ground := Ground.phase }, { on := 8, ground := Ground.phase }, { on := 9, ground := Ground.phase }, { on := 10, ground := Ground.phase }, { on := 11, ground := Ground.phase }, { on := 12, ground := Ground.phase }, { on := 13, ground := Ground.phase }, { on := 14, ground := Ground.phase }, { on := 15, ground := Ground.phase }, { on := 16, ground := Ground.phase }, { on := 17, ground := Ground.phase }, { on := 18, ground := Ground.phase }, { on := 19, ground := Ground.phase }, { on := 20, ground := Ground.phase }, { on := 21, ground := Ground.phase }], guard := none }) (v := .slice (some ⟨g1, 0, none⟩) (4 * k + 4) cap1) rfl (by kernel_rfl) (by kernel_rfl) (by kernel_rfl) (fun _ _ _ h => h) (Or.inl ⟨by rfl, fun w => by go_simp⟩) ?_
            (try simp only [Act.put, List.setIfInBounds_toArray, List.set_cons_zero, List.set_cons_succ])
            refine wpAny_done (by kernel_rfl) ?_ _
            go_wp2_with fail
            go_roundw
            case rel =>
              refine ⟨k + 1, by omega, by go_num, Lib.hid ?_, HB1⟩
              have e : (outs q).take (4 * (k + 1)) = (outs q).take (4 * k) ++ [z1, z2, z3, z4] := by
                rw [outs_next q k hlt2, EC.out, ← EY1.out, ← EY2.out, ← EY3.out, ← EZ1.out, ← EZ2.out, ← EZ3.out, ← EZ4.out]
              rw [e, show 4 * (k + 1) = 4 * k + 4 by omega]
              have h := HO1.out
              rwa [show [Value.int .u8 (z1 : Int), Value.int .u8 (z2 : Int), Value.int .u8 (z3 : Int), Value.int .u8 (z4 : Int)] = u8s [z1, z2, z3, z4] from rfl, show u8s ((outs q).take (4 * k)) ++ u8s [z1, z2, z3, z4] = u8s ((outs q).take (4 * k) ++ [z1, z2, z3, z4]) from (List.map_append ..).symm] at h
            case measure => simp [intOf]; omega
          refine AllReady.cons (o := { dst := some 36, op := Op.load 160 (Operand.tmp 35), type := 160, pos := "ref.go:72", after := #[{ on := 7, ground := Ground.data }], guard := none }) rfl (fun K hK => ?_) AllReady.nil
          refine step_load rfl 160 _ rfl (.pointer (some ⟨g, k, none⟩)) rfl _ HLC.out ?_
          refine hK _ _ ?_
          clear hK K
          (try simp only [Act.put, List.setIfInBounds_toArray, List.set_cons_zero, List.set_cons_succ])
          refine wpAny_take (i := 9) (oi := { dst := some 37, op := Op.binOp BinOp.shr 160 (Operand.tmp 36) (Operand.const (Value.int IntKind.u64 16)) 141, type := 160, pos := "ref.go:72", after := #[{ on := 8, ground := Ground.data }], guard := none }) (v := .int .u32 y2) rfl (by kernel_rfl) (by kernel_rfl) (by kernel_rfl) (fun _ _ _ h => h) (Or.inl ⟨by rfl, fun w => by go_simp⟩) ?_
          (try simp only [Act.put, List.setIfInBounds_toArray, List.set_cons_zero, List.set_cons_succ])
          refine wpAny_take (i := 10) (oi := { dst := some 38, op := Op.convert 160 5 (Operand.tmp 37), type := 5, pos := "ref.go:72", after := #[{ on := 9, ground := Ground.data }], guard := none }) (v := .int .u8 z2) rfl (by kernel_rfl) (by kernel_rfl) (by kernel_rfl) (fun _ _ _ h => h) (Or.inl ⟨by rfl, fun w => by go_simp⟩) ?_
          (try simp only [Act.put, List.setIfInBounds_toArray, List.set_cons_zero, List.set_cons_succ])
          refine wpAny_ready (rs := [3]) (by kernel_rfl) (by simp) ?_
          refine AllReady.cons (o := { dst := some 31, op := Op.load 160 (Operand.tmp 30), type := 160, pos := "ref.go:72", after := #[{ on := 2, ground := Ground.data }], guard := none }) rfl (fun K hK => ?_) AllReady.nil
          refine step_load rfl 160 _ rfl (.pointer (some ⟨g, k, none⟩)) rfl _ HLC.out ?_
          refine hK _ _ ?_
          clear hK K
          (try simp only [Act.put, List.setIfInBounds_toArray, List.set_cons_zero, List.set_cons_succ])
          refine wpAny_take (i := 4) (oi := { dst := some 32, op := Op.binOp BinOp.shr 160 (Operand.tmp 31) (Operand.const (Value.int IntKind.u64 24)) 141, type := 160, pos := "ref.go:72", after := #[{ on := 3, ground := Ground.data }], guard := none }) (v := .int .u32 y1) rfl (by kernel_rfl) (by kernel_rfl) (by kernel_rfl) (fun _ _ _ h => h) (Or.inl ⟨by rfl, fun w => by go_simp⟩) ?_
          (try simp only [Act.put, List.setIfInBounds_toArray, List.set_cons_zero, List.set_cons_succ])
          refine wpAny_take (i := 5) (oi := { dst := some 33, op := Op.convert 160 5 (Operand.tmp 32), type := 5, pos := "ref.go:72", after := #[{ on := 4, ground := Ground.data }], guard := none }) (v := .int .u8 z1) rfl (by kernel_rfl) (by kernel_rfl) (by kernel_rfl) (fun _ _ _ h => h) (Or.inl ⟨by rfl, fun w => by go_simp⟩) ?_
          (try simp only [Act.put, List.setIfInBounds_toArray, List.set_cons_zero, List.set_cons_succ])
          refine wpAny_ready (rs := [20]) (by kernel_rfl) (by simp) ?_
          refine AllReady.cons (o := { dst := some 48, op := Op.buildSlice 121 4 #[(0, Operand.tmp 33), (1, Operand.tmp 38), (2, Operand.tmp 43), (3, Operand.tmp 47)], type := 121, pos := "ref.go:72", after := #[{ on := 5, ground := Ground.data }, { on := 10, ground := Ground.data }, { on := 15, ground := Ground.data }, { on := 19, ground := Ground.data }], guard := none }) rfl (fun K hK => ?_) AllReady.nil
          go_simp
          refine hK _ _ ?_
          clear hK K
          (try simp only [Act.put, List.setIfInBounds_toArray, List.set_cons_zero, List.set_cons_succ])
          refine wpAny_ready (rs := [21]) (by kernel_rfl) (by simp) ?_
          refine AllReady.cons (o := { dst := some 49, op := Op.call { callee := Callee.builtin Builtin.append, args := #[Operand.tmp 28, Operand.tmp 48], argTypes := #[121, 121] }, type := 121, pos := "ref.go:72", after := #[{ on := 0, ground := Ground.data }, { on := 20, ground := Ground.data }], guard := none }) rfl (fun K hK => ?_) AllReady.nil
          refine step_append_lies _ (by rfl) (.tmp 28) (.tmp 48) 121 (by rfl) V.heap.size 5 i0 (.int .u8 0) 1 1 Tryz.underlying121 hi hz0 hz1 hz2 rfl (by decide) u6 (4 * k) (u8s ((outs q).take (4 * k))) (by rfl) (hown.out.alloc _) ⟨wr.heap.size, 0, none⟩ 4 4 [.int .u8 z1, .int .u8 z2, .int .u8 z3, .int .u8 z4] (by rfl) rfl
            (World.news_of_block (Go.heap_alloc_new wr (.cells #[.int .u8 z1, .int .u8 z2, .int .u8 z3, .int .u8 z4] 5))) (by intro u hu; simp only [List.mem_cons, List.not_mem_nil, or_false] at hu; rcases hu with rfl | rfl | rfl | rfl <;> rfl) (by decide) (by unfold maxLen; omega) (by omega) (by have := hbl.out.size; simp; omega) _ rfl ?_
          intro g1 cap1 w3 hown1 hgrow _ _
          refine hK _ _ ?_
          clear hK K
          have hb1 : Below V.heap.size V w3 := Below.grown ((hbl.out.alloc (by have := hbl.out.size; omega) _).drew) hgrow (by have := hbl.out.size; show V.heap.size ≤ (wr.alloc _).heap.size; rw [size_alloc']; omega) (fun k hk => (hown.out.lt k hk).1)
          have HO1 := Lib.hid hown1
          have HB1 := Lib.hid hb1
          clear hown1 hb1 hgrow
          (try simp only [Act.put, List.setIfInBounds_toArray, List.set_cons_zero, List.set_cons_succ])
          refine wpAny_take (i := 22) (oi := { dst := some 6, op := Op.assign (Operand.tmp 49), type := 121, pos := "ref.go:72", after := #[{ on := 21, ground := Ground.data }, { on := 21, ground := Ground.chain }, { on := 0, ground := Ground.phase }, { on := 1, ground := Ground.phase }, { on := 2, ground := Ground.phase }, { on := 3, ground := Ground.phase }, { on := 4, ground := Ground.phase }, { on := 5, ground := Ground.phase }, { on := 6, ground := Ground.phase }, { on := 7, ground := Ground.phase }, { on := 8, ground := Ground.phase }, { on := 9, ground := Ground.phase }, { on := 10, ground := Ground.phase }, { on := 11, ground := Ground.phase }, { on := 12, ground := Ground.phase }, { on := 13, ground := Ground.phase }, { on := 14, ground := Ground.phase }, { on := 15, ground := Ground.phase }, { on := 16, ground := Ground.phase }, { on := 17, ground := Ground.phase }, { on := 18, ground := Ground.phase }, { on := 19, ground := Ground.phase }, { on := 20, ground := Ground.phase }, { on := 21, ground := Ground.phase }], guard := none }) (v := .slice (some ⟨g1, 0, none⟩) (4 * k + 4) cap1) rfl (by kernel_rfl) (by kernel_rfl) (by kernel_rfl) (fun _ _ _ h => h) (Or.inl ⟨by rfl, fun w => by go_simp⟩) ?_
          (try simp only [Act.put, List.setIfInBounds_toArray, List.set_cons_zero, List.set_cons_succ])
          refine wpAny_done (by kernel_rfl) ?_ _
          go_wp2_with fail
          go_roundw
          case rel =>
            refine ⟨k + 1, by omega, by go_num, Lib.hid ?_, HB1⟩
            have e : (outs q).take (4 * (k + 1)) = (outs q).take (4 * k) ++ [z1, z2, z3, z4] := by
              rw [outs_next q k hlt2, EC.out, ← EY1.out, ← EY2.out, ← EY3.out, ← EZ1.out, ← EZ2.out, ← EZ3.out, ← EZ4.out]
            rw [e, show 4 * (k + 1) = 4 * k + 4 by omega]
            have h := HO1.out
            rwa [show [Value.int .u8 (z1 : Int), Value.int .u8 (z2 : Int), Value.int .u8 (z3 : Int), Value.int .u8 (z4 : Int)] = u8s [z1, z2, z3, z4] from rfl, show u8s ((outs q).take (4 * k)) ++ u8s [z1, z2, z3, z4] = u8s ((outs q).take (4 * k) ++ [z1, z2, z3, z4]) from (List.map_append ..).symm] at h
          case measure => simp [intOf]; omega
        · obtain rfl : k = 8 := by omega
          obtain ⟨g1, cap1, rfl, _, _⟩ := hown.out.form (by omega)
          have hall : (outs q).take (4 * 8) = outs q := List.take_of_length_le (by rw [outs_length]; exact Nat.le_refl _)
          have ho := hown.out
          rw [hall] at ho
          have hcv := back_string wr g1 0 cap1 (outs q) (fun j => by
            by_cases h : j < 32
            · rw [outs_at q j h]; exact outAt_lt q j
            · rw [List.getD_eq_getElem?_getD, List.getElem?_eq_none (by rw [outs_length]; omega)]; decide) (fun j hj => by
            have := ho.cellAt (j := j) (by rw [outs_length] at hj; omega)
            rw [Nat.zero_add, this]
            simp [u8s, List.getD_eq_getElem?_getD, hj])
          rw [outs_length] at hcv
          have HCV := Lib.hid hcv
          clear hown ho hall hcv
          have hcv := HCV.out
          go_wp2_with fail
          go_ret
          rw [HD.out]
          exact ⟨rfl, HBW.out.trans (hbl.out.mono HBW.out.size)⟩
end Go.Proofs.YtbdlegjklfkdmaaGreatDoor.Pl
