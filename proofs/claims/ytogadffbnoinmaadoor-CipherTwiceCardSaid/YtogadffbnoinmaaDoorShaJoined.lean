/- What sha.joined answers. -/
import Derived.Test.YtogadffbnoinmaaDoorShaProcess
import Derived.Laws.IdiomStrings
namespace Go.Proofs.YtogadffbnoinmaaDoor.Pl
open Go.RowKit

/-- The byte number i of eight numbers. -/
def outAt (s : S8) (i : Nat) : Nat := s.list.getD (i / 4) 0 / 2 ^ (8 * (3 - i % 4)) % 256
/-- The bytes of eight numbers, the most significant first. -/
def outs (s : S8) : List Nat := (List.range 32).map (outAt s)
def bytesOf (l : List Nat) : ByteArray := ⟨(l.map UInt8.ofNat).toArray⟩
theorem outs_length (s : S8) : (outs s).length = 32 := by simp [outs]
theorem outs_at (s : S8) (j : Nat) (h : j < 32) : (outs s).getD j 0 = outAt s j := by
  simp [outs, List.getD_eq_getElem?_getD, h]
theorem outAt_lt (s : S8) (i : Nat) : outAt s i < 256 := Nat.mod_lt _ (by decide)

theorem add_none (b o j : Nat) : (⟨b, o, none⟩ : Addr).add j = ⟨b, o + j, none⟩ := by unfold Addr.add; split <;> simp_all
theorem slice32 (b : Nat) (W : World) :
    (Instr.sliceAt 29 (.pointer (some ⟨b, 0, none⟩)) none none none).run Tryd.prog W = .ok (.slice (some ⟨b, 0, none⟩) 32 32) W := by
  have ha : Tryd.prog.arrayLen 29 = 32 := by simp [Program.arrayLen, Tryd.underlying29]
  have he : Tryd.prog.elem 29 = 5 := by simp [Program.elem, Tryd.underlying29]
  rw [run_sliceAt_array_all W 29 ⟨b, 0, none⟩ (by rw [ha, he]; exact Tryd.underlying29), ha, he]
  have hs : (sizeOf 5).run Tryd.prog W = .ok 1 W := by kernel_rfl
  rw [hs]
  simp only [Result.andThen, slicedAt]
  rw [if_neg (by omega), add_none]
theorem back_string (w : World) (b o cap : Nat) (l : List Nat) (hl : ∀ j, l.getD j 0 < 256) (hc : ∀ j, j < l.length → w.cell? ⟨b, o + j, none⟩ = some (.int .u8 ((l.getD j 0 : Nat) : Int))) :
    (convert 31 9 (.slice (some ⟨b, o, none⟩) l.length cap)).run Tryd.prog w = .ok (.string (bytesOf l)) w := by
  have h := run_convert_bytes_back (P := Tryd.prog) w 31 9 5 ⟨b, o, none⟩ cap (l.map UInt8.ofNat) Tryd.underlying31 Tryd.underlying5 Tryd.underlying9 (fun j hj => by
    rw [add_none]
    have hj' : j < l.length := by simpa using hj
    rw [hc j hj']
    have h1 := hl j
    rw [List.getD_eq_getElem?_getD, List.getElem?_eq_getElem hj', Option.getD_some] at h1
    have h3 : ((l.map UInt8.ofNat)[j]).toNat = l[j] := by simp; omega
    rw [h3, List.getD_eq_getElem?_getD, List.getElem?_eq_getElem hj', Option.getD_some])
  simpa [bytesOf] using h

set_option maxRecDepth 100000 in
theorem joined_any (s : S8) (w : World) :
    Calls Tryd.prog 39 #[.agg (row .u32 s.list)] w fun e w' => e = .returned (.string (bytesOf (outs s))) ∧ Below w.heap.size w w' := by
  go_enter Tryd.func39, Tryd.ntmps39
  go_wp2_with fail
  go_loopw [5] (fun i wr => ∃ (k : Nat) (l : List Nat), k ≤ 32 ∧ i = .int .i64 k ∧ l.length = 32 ∧ Hid (Agrees l (outAt s) k) ∧ wr.heap[w.heap.size]? = some (.cells (row .u32 s.list) 64 (0, 0)) ∧ wr.heap[w.heap.size + 1]? = some (.cells (row .u8 l) 29 (0, 0)) ∧ Below w.heap.size w wr) (fun i _ => 32 - (intOf i).toNat)
  case atStart =>
    refine ⟨0, List.replicate 32 0, by omega, rfl, by simp, Lib.hid (Agrees.zero _ _), ?_, ?_, ?_⟩
    · rw [Go.heap_alloc_old _ _ (by simp), Go.heap_alloc_new]
    · have := Go.heap_alloc_new (w.alloc (.cells (row .u32 s.list) 64)) (.cells (row .u8 (List.replicate 32 0)) 29)
      rw [size_alloc'] at this
      exact this
    · exact ((Below.refl _ _).alloc (Nat.le_refl _) _).alloc (by simp) _
  case round =>
    obtain ⟨k, l, hk, rfl, hl, hag, h0, h1, hbw⟩ := hrel
    by_cases hlt : k < 32
    · have c0 := (at_row h0 (k / 4) (by simp [S8.list]; omega)).1
      obtain ⟨c1, f1⟩ := at_row h1 k (by omega)
      have H0 := Lib.hid h0
      have H1 := Lib.hid h1
      have HL := Lib.hid hl
      clear h0 h1 hl
      have q1 : ((k : Int) / 4).toNat = k / 4 := by omega
      have q2 : (0 : Int) ≤ 8 * (3 - (k : Int) % 4) := by omega
      have q3 : (8 * (3 - (k : Int) % 4)).toNat = 8 * (3 - k % 4) := by omega
      have q4 : (0 : Int) ≤ (k : Int) / 4 := by omega
      have q5 : (k : Int) / 4 < 8 := by omega
      obtain ⟨v, HV⟩ : ∃ v, Hid (v = outAt s k) := ⟨_, Lib.hid rfl⟩
      have hv : ((s.list.getD (k / 4) 0 : Nat) : Int) / 2 ^ (8 * (3 - k % 4)) % 256 = (v : Int) := by
        rw [HV.out, outAt, Int.natCast_emod, Int.natCast_ediv, Int.natCast_pow]; rfl
      generalize s.list.getD (k / 4) 0 = x at c0 hv
      go_wp2_with fail
      go_roundw
      case rel =>
        refine ⟨k + 1, l.set k v, by omega, by go_num, by simp [HL.out], Lib.hid ?_, heap_keep H0.out (by omega), heap_step H1.out v, hbw.setCell (by simp) _⟩
        rw [HV.out]; exact hag.out.next (by rw [HL.out]; omega)
      case measure => simp [intOf]; omega
    · obtain rfl : k = 32 := by omega
      have e : l = outs s := getD_ext (by rw [hl, outs_length]) (fun i hi => by rw [outs_at s i (by omega), hag.out i (by omega)])
      subst e
      have hsl := slice32 (w.heap.size + 1)
      have hcv := back_string wr (w.heap.size + 1) 0 32 (outs s) (fun j => by
        by_cases h : j < 32
        · rw [outs_at s j h]; exact outAt_lt s j
        · rw [List.getD_eq_getElem?_getD, List.getElem?_eq_none (by omega)]; decide) (fun j hj => by rw [Nat.zero_add]; exact (at_row h1 j hj).1)
      rw [outs_length] at hcv
      clear h0 h1 hl hag
      go_wp2_with fail
      go_ret
      exact ⟨rfl, hbw⟩
end Go.Proofs.YtogadffbnoinmaaDoor.Pl
