/- What the document's Xor of layer 4 answers. -/
import Derived.Test.YtogadffbnoinmaaDoorCipherRefXored
namespace Go.Proofs.YtogadffbnoinmaaDoor.Pl
open Go.RowKit

def PartF (f : Nat → Nat) (l m : List Nat) (k : Nat) : Prop := m.length = l.length ∧ ∀ j, j < l.length → m.getD j 0 = if j < k then l.getD j 0 ^^^ f j else l.getD j 0
theorem PartF.zero (f : Nat → Nat) (l : List Nat) : PartF f l l 0 := ⟨rfl, fun j _ => by rw [if_neg (by omega)]⟩
theorem PartF.next {f : Nat → Nat} {l m : List Nat} {k y : Nat} (h : PartF f l m k) (hk : k < l.length) (hy : y = m.getD k 0 ^^^ f k) : PartF f l (m.set k y) (k + 1) := by
  refine ⟨by rw [List.length_set]; exact h.1, fun j hj => ?_⟩
  rw [set_getD _ _ _ _ (by rw [h.1]; exact hk), hy]
  by_cases e : j = k
  · rw [if_pos e, e, if_pos (by omega), h.2 k hk, if_neg (by omega)]
  · rw [if_neg e, h.2 j hj]
    by_cases h' : j < k
    · rw [if_pos h', if_pos (by omega)]
    · rw [if_neg h', if_neg (by omega)]
theorem PartF.all {f : Nat → Nat} {l m : List Nat} {k : Nat} (h : PartF f l m k) (hk : ∀ j, k ≤ j → j < l.length → f j = 0) : m = xorf l f := by
  apply listD_ext (by rw [h.1, xorf_length])
  intro i hi
  rw [h.1] at hi
  rw [h.2 i hi, xorf_at _ _ _ hi]
  by_cases h' : i < k
  · rw [if_pos h']
  · rw [if_neg h', hk i (by omega) hi, Nat.xor_zero]
/-- Two texts, xor each other. -/
def xorT (a b : ByteArray) : ByteArray := bytesOf (xorf (nums a) fun j => (nums b).getD j 0)
def XorPost (a b : ByteArray) (w : World) (e : Ending) (w' : World) : Prop := e = .returned (.string (xorT a b)) ∧ Below w.heap.size w w'

set_option maxHeartbeats 2000000 in
set_option maxRecDepth 100000 in
theorem rxor_any (a b : ByteArray) (ha : a.size ≤ 100000) (w : World) :
    Calls Tryd.prog 13 #[.string a, .string b] w (XorPost a b w) := by
  have hcv := Lib.run_convert_string_bytes (P := Tryd.prog) w 9 31 5 a Tryd.underlying9 Tryd.underlying31 Tryd.underlying5
  have HO := Lib.hid (at8_bytes w a)
  have HB := Lib.hid (below_bytes w a)
  have HM := Lib.hid (nums_bytes a)
  have HL := Lib.hid (nums_length a)
  have BB := Lib.hid (nums_bytes b)
  have BL := Lib.hid (nums_length b)
  obtain ⟨T, hT⟩ : ∃ T, T = xorT a b := ⟨_, rfl⟩
  have HT : Hid (T = bytesOf (xorf (nums a) fun j => (nums b).getD j 0)) := Lib.hid hT
  generalize grownCap w a.size 0 5 = cap at hcv
  generalize Lib.bytesWorld w 5 a = W at *
  have IX := Lib.hid (fun k v (h1 : k < b.size) (h2 : v = (nums b).getD k 0) => str_index b k v h1 h2)
  obtain ⟨f, hf⟩ : ∃ f : Nat → Nat, f = fun j => (nums b).getD j 0 := ⟨_, rfl⟩
  have HF : Hid (∀ j, f j = (nums b).getD j 0) := Lib.hid (fun j => by rw [hf])
  rw [← hf] at HT
  generalize nums b = lb at *
  generalize nums a = l at *
  obtain ⟨z, hz⟩ : ∃ z, z = a.size := ⟨_, rfl⟩
  obtain ⟨n, hn⟩ : ∃ n, n = b.size := ⟨_, rfl⟩
  rw [← hz] at hcv HL ha
  rw [← hn] at BL IX
  have HZ := Lib.hid hz
  have HN := Lib.hid hn
  have HA := Lib.hid ha
  have ET := Lib.hid hT
  clear hz hn hT ha hf
  go_enter Tryd.func13, Tryd.ntmps13
  go_wp2_with fail
  go_loopw [6] (fun i wr => ∃ (k : Nat) (m : List Nat), i = .int .i64 (k : Int) ∧ k ≤ z ∧ k ≤ n ∧ Hid (PartF f l m k) ∧ Hid (At8 wr w.heap.size m) ∧ Hid (Below w.heap.size w wr)) (fun i _ => z - (intOf i).toNat)
  case atStart => exact ⟨0, l, rfl, by omega, by omega, Lib.hid (PartF.zero _ _), HO, HB⟩
  case round =>
    clear HO HB
    obtain ⟨k, m, rfl, hk, hkn, hag, h1, hbw⟩ := hrel
    have eb : (b.size : Int) = (n : Int) := by rw [HN.out]
    by_cases hin : k < z ∧ k < n
    · obtain ⟨h3, h4⟩ := hin
      have q3 : (k : Int) < (z : Int) := by omega
      have qz : (k : Int) ≤ 100000 := by have := HA.out; omega
      have q4 : (k : Int) < (n : Int) := by omega
      have q5 : (0 : Int) ≤ (k : Int) := by omega
      obtain ⟨x, hx⟩ : ∃ x, x = m.getD k 0 := ⟨_, rfl⟩
      obtain ⟨c1, f1⟩ := h1.out k (by rw [hag.out.1, HL.out]; exact h3)
      rw [← hx] at c1
      have hx2 : x < 256 := by rw [hx, hag.out.2 k (by rw [HL.out]; exact h3), if_neg (by omega)]; exact HM.out.at k
      obtain ⟨v, hv⟩ : ∃ v, v = lb.getD k 0 := ⟨_, rfl⟩
      have hv2 : v < 256 := by rw [hv]; exact BB.out.at k
      have hix := IX.out k v h4 hv
      have b1 : bits .xor .u8 (x : Int) (v : Int) = ((x ^^^ v : Nat) : Int) := u8_xor_nat x v hx2 hv2
      obtain ⟨y, hy⟩ : ∃ y, y = x ^^^ v := ⟨_, rfl⟩
      rw [← hy] at b1
      have HN1 := Lib.hid (hag.out.next (k := k) (y := y) (by rw [HL.out]; exact h3) (by rw [hy, hx, hv, HF.out]))
      have HA1 := Lib.hid (h1.out.set k y (by rw [hag.out.1, HL.out]; exact h3))
      have HLD := Lib.hid (load_u8 wr.drew w.heap.size k x c1)
      have C1 : Hid (wr.drew.cell? ⟨w.heap.size, k, none⟩ = some (.int .u8 (x : Int)) ∧ wr.drew.frozen? ⟨w.heap.size, k, none⟩ = false) := Lib.hid ⟨c1, f1⟩
      have BW := Lib.hid hbw.out.drew
      clear hx hx2 hv hv2 hy c1 f1 hbw h1 hag IX HF
      go_wp2_with fail
      refine wp_region_any (by kernel_rfl) ?_
      change wpAny _ _ _ _ _ _ _ (World.drew wr)
      refine wpAny_take (i := 0) (oi := { dst := some 21, op := Op.move (Operand.tmp 5), type := 31, pos := "ref.go:57", after := #[], guard := none }) (v := .slice (some ⟨w.heap.size, 0, none⟩) z cap) rfl (by kernel_rfl) (by kernel_rfl) (by kernel_rfl) (fun _ _ _ h => h) (Or.inl ⟨by rfl, fun w => by go_simp⟩) ?_
      (try simp only [Act.put, List.setIfInBounds_toArray, List.set_cons_zero, List.set_cons_succ])
      refine wpAny_take (i := 1) (oi := { dst := some 22, op := Op.move (Operand.tmp 6), type := 3, pos := "ref.go:57", after := #[], guard := none }) (v := .int .i64 (k : Int)) rfl (by kernel_rfl) (by kernel_rfl) (by kernel_rfl) (fun _ _ _ h => h) (Or.inl ⟨by rfl, fun w => by go_simp⟩) ?_
      (try simp only [Act.put, List.setIfInBounds_toArray, List.set_cons_zero, List.set_cons_succ])
      refine wpAny_take (i := 2) (oi := { dst := some 23, op := Op.move (Operand.tmp 5), type := 31, pos := "ref.go:57", after := #[], guard := none }) (v := .slice (some ⟨w.heap.size, 0, none⟩) z cap) rfl (by kernel_rfl) (by kernel_rfl) (by kernel_rfl) (fun _ _ _ h => h) (Or.inl ⟨by rfl, fun w => by go_simp⟩) ?_
      (try simp only [Act.put, List.setIfInBounds_toArray, List.set_cons_zero, List.set_cons_succ])
      refine wpAny_take (i := 3) (oi := { dst := some 24, op := Op.move (Operand.tmp 6), type := 3, pos := "ref.go:57", after := #[], guard := none }) (v := .int .i64 (k : Int)) rfl (by kernel_rfl) (by kernel_rfl) (by kernel_rfl) (fun _ _ _ h => h) (Or.inl ⟨by rfl, fun w => by go_simp⟩) ?_
      (try simp only [Act.put, List.setIfInBounds_toArray, List.set_cons_zero, List.set_cons_succ])
      refine wpAny_take (i := 4) (oi := { dst := some 25, op := Op.indexAddr 31 (Operand.tmp 23) (Operand.tmp 24), type := 0, pos := "ref.go:57", after := #[{ on := 2, ground := Ground.data }, { on := 3, ground := Ground.data }], guard := none }) (v := .pointer (some ⟨w.heap.size, k, none⟩)) rfl (by kernel_rfl) (by kernel_rfl) (by kernel_rfl) (fun _ _ _ h => h) (Or.inl ⟨by rfl, fun w => by go_simp⟩) ?_
      (try simp only [Act.put, List.setIfInBounds_toArray, List.set_cons_zero, List.set_cons_succ])
      refine wpAny_take (i := 6) (oi := { dst := some 27, op := Op.move (Operand.tmp 1), type := 9, pos := "ref.go:57", after := #[], guard := none }) (v := .string b) rfl (by kernel_rfl) (by kernel_rfl) (by kernel_rfl) (fun _ _ _ h => h) (Or.inl ⟨by rfl, fun w => by go_simp⟩) ?_
      (try simp only [Act.put, List.setIfInBounds_toArray, List.set_cons_zero, List.set_cons_succ])
      refine wpAny_take (i := 7) (oi := { dst := some 28, op := Op.move (Operand.tmp 6), type := 3, pos := "ref.go:57", after := #[], guard := none }) (v := .int .i64 (k : Int)) rfl (by kernel_rfl) (by kernel_rfl) (by kernel_rfl) (fun _ _ _ h => h) (Or.inl ⟨by rfl, fun w => by go_simp⟩) ?_
      (try simp only [Act.put, List.setIfInBounds_toArray, List.set_cons_zero, List.set_cons_succ])
      refine wpAny_take (i := 8) (oi := { dst := some 29, op := Op.index 9 (Operand.tmp 27) (Operand.tmp 28), type := 5, pos := "ref.go:57", after := #[{ on := 6, ground := Ground.data }, { on := 7, ground := Ground.data }], guard := none }) (v := .int .u8 (v : Int)) rfl (by kernel_rfl) (by kernel_rfl) (by kernel_rfl) (fun _ _ _ h => h) (Or.inl ⟨by rfl, fun w => by go_simp⟩) ?_
      (try simp only [Act.put, List.setIfInBounds_toArray, List.set_cons_zero, List.set_cons_succ])
      refine wpAny_ready (rs := [5]) (by kernel_rfl) (by simp) ?_
      refine AllReady.cons (o := { dst := some 26, op := Op.load 5 (Operand.tmp 25), type := 5, pos := "ref.go:57", after := #[{ on := 4, ground := Ground.data }], guard := none }) rfl (fun K hK => ?_) AllReady.nil
      refine step_load rfl 5 _ rfl (.pointer (some ⟨w.heap.size, k, none⟩)) rfl _ HLD.out ?_
      refine hK _ _ ?_
      clear hK K
      (try simp only [Act.put, List.setIfInBounds_toArray, List.set_cons_zero, List.set_cons_succ])
      refine wpAny_take (i := 9) (oi := { dst := some 30, op := Op.binOp BinOp.xor 5 (Operand.tmp 26) (Operand.tmp 29) 5, type := 5, pos := "ref.go:57", after := #[{ on := 5, ground := Ground.data }, { on := 8, ground := Ground.data }], guard := none }) (v := .int .u8 (y : Int)) rfl (by kernel_rfl) (by kernel_rfl) (by kernel_rfl) (fun _ _ _ h => h) (Or.inl ⟨by rfl, fun w => by go_simp⟩) ?_
      (try simp only [Act.put, List.setIfInBounds_toArray, List.set_cons_zero, List.set_cons_succ])
      refine wpAny_take (i := 10) (oi := { dst := some 31, op := Op.indexAddr 31 (Operand.tmp 21) (Operand.tmp 22), type := 0, pos := "ref.go:57", after := #[{ on := 0, ground := Ground.data }, { on := 1, ground := Ground.data }, { on := 0, ground := Ground.phase }, { on := 1, ground := Ground.phase }, { on := 2, ground := Ground.phase }, { on := 3, ground := Ground.phase }, { on := 4, ground := Ground.phase }, { on := 5, ground := Ground.phase }, { on := 6, ground := Ground.phase }, { on := 7, ground := Ground.phase }, { on := 8, ground := Ground.phase }, { on := 9, ground := Ground.phase }], guard := none }) (v := .pointer (some ⟨w.heap.size, k, none⟩)) rfl (by kernel_rfl) (by kernel_rfl) (by kernel_rfl) (fun _ _ _ h => h) (Or.inl ⟨by rfl, fun w => by go_simp⟩) ?_
      (try simp only [Act.put, List.setIfInBounds_toArray, List.set_cons_zero, List.set_cons_succ])
      refine wpAny_ready (rs := [11]) (by kernel_rfl) (by simp) ?_
      refine AllReady.cons (o := { dst := none, op := Op.store 5 (Operand.tmp 31) (Operand.tmp 30), type := 0, pos := "ref.go:57", after := #[{ on := 10, ground := Ground.data }, { on := 9, ground := Ground.data }, { on := 0, ground := Ground.phase }, { on := 1, ground := Ground.phase }, { on := 2, ground := Ground.phase }, { on := 3, ground := Ground.phase }, { on := 4, ground := Ground.phase }, { on := 5, ground := Ground.phase }, { on := 6, ground := Ground.phase }, { on := 7, ground := Ground.phase }, { on := 8, ground := Ground.phase }, { on := 9, ground := Ground.phase }], guard := none }) rfl (fun K hK => ?_) AllReady.nil
      obtain ⟨c1, f1⟩ := C1.out
      obtain ⟨U, hU⟩ : ∃ U, U = World.drew wr := ⟨_, rfl⟩
      rw [← hU] at c1 f1 BW ⊢
      have HU := Lib.hid (show World.drew wr = U from hU.symm)
      clear hU
      go_simp
      refine hK _ _ ?_
      clear hK K
      (try simp only [Act.put])
      refine wpAny_done (by kernel_rfl) ?_ _
      have HAU := Lib.hid (show At8 (U.setCell ⟨w.heap.size, k, none⟩ (.int .u8 (y : Int))) w.heap.size (m.set k y) from HU.out ▸ HA1.out)
      have BU := Lib.hid (BW.out.setCell (p := ⟨w.heap.size, k, none⟩) (Nat.le_refl _) (.int .u8 (y : Int)))
      clear c1 f1
      go_wp2_with fail
      go_roundw
      case rel => exact ⟨k + 1, m.set k y, by go_num, by omega, by omega, HN1, HAU, BU⟩
      case measure => simp [intOf]; omega
    · have HE : Hid (k = z ∨ k = n) := Lib.hid (by omega)
      have e := hag.out.all (by
        intro j h5 h6
        rw [HL.out] at h6
        rw [HF.out, List.getD_eq_getElem?_getD, List.getElem?_eq_none (by rw [BL.out]; rcases HE.out with h | h <;> omega), Option.getD_none])
      have hcv2 := back_string wr w.heap.size 0 cap (xorf l f) (fun j => (xorf_bytes HM.out (fun j => by rw [HF.out]; exact BB.out.at j)).at j) (fun j hj => by rw [Nat.zero_add, ← e]; rw [← e] at hj; exact (h1.out j hj).1)
      rw [xorf_length, HL.out, ← HT.out] at hcv2
      clear e hag h1 hcv
      by_cases h3 : k < z
      · have q3 : (k : Int) < (z : Int) := by omega
        have q4 : ¬ (k : Int) < (n : Int) := by omega
        clear hin
        go_wp2_with fail
        go_ret
        exact ⟨by rw [← ET.out]; rfl, hbw.out⟩
      · have q3 : ¬ (k : Int) < (z : Int) := by omega
        clear hin
        go_wp2_with fail
        go_ret
        exact ⟨by rw [← ET.out]; rfl, hbw.out⟩
end Go.Proofs.YtogadffbnoinmaaDoor.Pl
