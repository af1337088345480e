/- What the statements leave out; a message with members of its own; the chapter's examples. The chapter's examples. How members, a transaction, and a message that came in read. The document's Org, MayTxn, num, flag and Word of layer 12. The document's Txn and ReadTxn of layer 12. -/
import Derived.Test.YthemopejebioaaaGreatWireY16
import Derived.Test.YthemopejebioaaaGreatWireY3
import Derived.ChangeSlices
import Derived.Deep.Slices
import Derived.Test.YthemopejebioaaaGreatWireY2
import Derived.Deep.RegionHeld3
namespace Go.Proofs.YthemopejebioaaaGreat.Pl
open Go.RowKit

def longL (l : List Mb) : Bool := decide (20 < l.length) || l.any (fun m => decide (20000 < m.2.size))
def longM (m : Ms) : Bool := longL m.mem || decide (20000 < m.body.size) || decide (20000 < m.tag.size)
theorem longL_no {l : List Mb} (h : longL l = false) : l.length ≤ 20 ∧ ∀ m ∈ l, m.2.size ≤ 20000 := by
  simp only [longL, Bool.or_eq_false_iff, decide_eq_false_iff_not, List.any_eq_false] at h
  exact ⟨by omega, fun m hm => by have := h.2 m hm; simpa using this⟩
theorem longM_no {m : Ms} (h : longM m = false) : m.mem.length ≤ 20 ∧ (∀ x ∈ m.mem, x.2.size ≤ 20000) ∧ m.body.size ≤ 20000 ∧ m.tag.size ≤ 20000 := by
  simp only [longM, Bool.or_eq_false_iff, decide_eq_false_iff_not] at h
  obtain ⟨h1, h2⟩ := longL_no h.1.1
  exact ⟨h1, h2, by omega, by omega⟩
set_option maxHeartbeats 4000000 in
set_option maxRecDepth 100000 in
theorem longl_any (l : List Mb) (ao : Option Addr) (cap : Nat) (hl : l.length ≤ 9223372036854775807) (w : World) (hrow : MemRow w ao l) :
    Calls Tryz.prog 18 #[.slice ao l.length cap] w fun x w' => x = .returned (.bool (longL l)) ∧ w' = w := by
  obtain ⟨n, hn⟩ : ∃ n, n = l.length := ⟨_, rfl⟩
  obtain ⟨z, hz⟩ : ∃ z, z = longL l := ⟨_, rfl⟩
  rw [← hn, ← hz]
  by_cases h20 : 20 < n
  · have h20' : (20 : Int) < (n : Int) := by omega
    have hT : z = true := by rw [hz]; simp [longL]; left; omega
    subst hT
    clear hrow hz hn hl
    go_enter Tryz.func18, Tryz.ntmps18
    go_wp2_with fail
    go_ret
    exact ⟨rfl, rfl⟩
  · have h20' : ¬ (20 : Int) < (n : Int) := by omega
    have hn20 : n ≤ 20 := by omega
    have HZ := Lib.hid hz
    have HN := Lib.hid hn
    have HROW := Lib.hid hrow
    clear hrow hz hn hl
    go_enter Tryz.func18, Tryz.ntmps18
    go_wp2_with fail
    go_loopw [3] (fun iv wr => ∃ j : Nat, iv = .int .i64 j ∧ j ≤ n ∧ wr = w ∧ Hid (∀ m ∈ l.take j, m.2.size ≤ 20000)) (fun iv _ => n - (intOf iv).toNat)
    case atStart => exact ⟨0, rfl, Nat.zero_le _, rfl, Lib.hid (fun m hm => by cases hm)⟩
    case round =>
      obtain ⟨j, rfl, hjn, rfl, hst⟩ := hrel
      by_cases hj : j < n
      · have hj' : (j : Int) < (n : Int) := by omega
        have hj1 : j < l.length := by rw [← HN.out]; exact hj
        rcases HROW.out with e | ⟨b, off, rfl, hlt, hcs⟩
        · exfalso; rw [e] at hj1; exact absurd hj1 (Nat.not_lt_zero _)
        obtain ⟨x0, x1⟩ := hcs j hj1
        have HYES : Hid (l[j].2.size ≤ 20000 → ∀ m ∈ l.take (j + 1), m.2.size ≤ 20000) := Lib.hid (fun e m hm => by
          rw [List.take_succ_eq_append_getElem hj1] at hm
          rcases List.mem_append.1 hm with hm | hm
          · exact hst.out m hm
          · rw [List.mem_singleton.1 hm]; exact e)
        have HNO : Hid (20000 < l[j].2.size → z = true) := Lib.hid (fun e => by
          rw [HZ.out]; unfold longL
          rw [List.any_eq_true.2 ⟨l[j], List.getElem_mem hj1, decide_eq_true e⟩, Bool.or_true])
        generalize l[j] = m1 at *
        obtain ⟨o1, d1⟩ := m1
        dsimp only at *
        clear hcs hlt hj1 hst
        by_cases hd : 20000 < d1.size
        · have hd' : (20000 : Int) < (d1.size : Int) := by omega
          have hT := HNO.out hd
          subst hT
          clear HYES HNO
          go_wp2_with fail
          go_ret
          exact ⟨rfl, rfl⟩
        · have hd' : ¬ (20000 : Int) < (d1.size : Int) := by omega
          have HT := Lib.hid (HYES.out (by omega))
          clear HYES HNO
          go_wp2_with fail
          go_roundw
          case rel => exact ⟨j + 1, by go_num, by omega, by first | rfl | trivial, HT⟩
          case measure => simp [intOf]; omega
      · obtain rfl : j = n := by omega
        have hF : z = false := by
          rw [HZ.out]
          have h1 := hst.out
          rw [HN.out, List.take_length] at h1
          have h2 := HN.out
          unfold longL
          rw [decide_eq_false (by omega), Bool.false_or, List.any_eq_false]
          intro m hm
          have := h1 m hm
          simp; omega
        subst hF
        go_wp2_with fail
        go_ret
        exact ⟨rfl, rfl⟩
set_option maxHeartbeats 4000000 in
set_option maxRecDepth 100000 in
theorem longm_any (m : Ms) (ao : Option Addr) (cap : Nat) (hl : m.mem.length ≤ 9223372036854775807) (w : World) (hrow : MemRow w ao m.mem) :
    Calls Tryz.prog 6 #[.agg (msC m (.slice ao m.mem.length cap))] w fun x w' => x = .returned (.bool (longM m)) ∧ Below w.heap.size w w' := by
  have b0 : Below w.heap.size w (w.alloc (.cells (msC m (.slice ao m.mem.length cap)) 26)) := (Below.refl _ _).alloc (Nat.le_refl _) _
  have HL := longl_any m.mem ao cap hl _ (hrow.below b0)
  have hz : longM m = (longL m.mem || decide (20000 < m.body.size) || decide (20000 < m.tag.size)) := rfl
  generalize longM m = z at *
  generalize longL m.mem = ll at *
  have HZ := Lib.hid hz
  have B0 := Lib.hid b0
  clear hz b0 hrow hl
  obtain ⟨k, c, e, q, aud, mem, body, yes, tag⟩ := m
  dsimp only [msC] at *
  generalize mem.length = n at *
  cases ll with
  | true =>
    have HL := Lib.hid HL
    go_enter Tryz.func6, Tryz.ntmps6
    go_wp2_with (first | (go_at_call 18; refine HL.out.mono ?_; rintro e1 V ⟨rfl, hw⟩; rw [hw]; clear hw V) | fail)
    go_ret
    exact ⟨by rw [HZ.out]; rfl, B0.out⟩
  | false =>
    have HL := Lib.hid HL
    by_cases hb : 20000 < body.size
    · have hb' : (20000 : Int) < (body.size : Int) := by omega
      go_enter Tryz.func6, Tryz.ntmps6
      go_wp2_with (first | (go_at_call 18; refine HL.out.mono ?_; rintro e1 V ⟨rfl, hw⟩; rw [hw]; clear hw V) | fail)
      go_ret
      exact ⟨by rw [HZ.out]; simp [hb], B0.out⟩
    · have hb' : ¬ (20000 : Int) < (body.size : Int) := by omega
      by_cases ht : 20000 < tag.size
      · have ht' : (20000 : Int) < (tag.size : Int) := by omega
        go_enter Tryz.func6, Tryz.ntmps6
        go_wp2_with (first | (go_at_call 18; refine HL.out.mono ?_; rintro e1 V ⟨rfl, hw⟩; rw [hw]; clear hw V) | fail)
        go_ret
        exact ⟨by rw [HZ.out]; simp [ht], B0.out⟩
      · have ht' : ¬ (20000 : Int) < (tag.size : Int) := by omega
        go_enter Tryz.func6, Tryz.ntmps6
        go_wp2_with (first | (go_at_call 18; refine HL.out.mono ?_; rintro e1 V ⟨rfl, hw⟩; rw [hw]; clear hw V) | fail)
        go_ret
        exact ⟨(by show Ending.returned (Value.bool (decide ((20000 : Int) < (body.size : Int)) || decide ((20000 : Int) < (tag.size : Int)))) = _; rw [HZ.out, decide_eq_false hb, decide_eq_false ht, decide_eq_false (show ¬ (20000 : Int) < (body.size : Int) by omega), decide_eq_false (show ¬ (20000 : Int) < (tag.size : Int) by omega)]; rfl), B0.out⟩
theorem below_of_grown12 {w w' : World} (h : w.grownBy w' none) : Below w.heap.size w w' := ⟨h.os, h.tape, h.output, h.size, fun k hk => h.block k hk (fun e => by cases e)⟩
set_option maxHeartbeats 4000000 in
set_option maxRecDepth 100000 in
theorem own12_any (m : Ms) (ao : Option Addr) (cap : Nat) (hp : ao = none → cap = 0) (hl : m.mem.length ≤ 1000) (w : World) (hrow : MemRow w ao m.mem) :
    Calls Tryz.prog 8 #[.agg (msC m (.slice ao m.mem.length cap))] w fun x w' => (∃ bo bc, x = .returned (.agg (msC m (.slice bo m.mem.length bc))) ∧ OwnM w' w.heap.size (.slice bo m.mem.length bc) m.mem) ∧ Below w.heap.size w w' := by
  obtain ⟨W0, hW0⟩ : ∃ V, V = (w.alloc (.cells (msC m (.slice ao m.mem.length cap)) 26)).alloc (.cells #[.int .u8 0, .int .i64 0, .int .i64 0, .int .i64 0, .int .i64 0, .slice none 0 0, .string ⟨#[]⟩, .bool false, .string ⟨#[]⟩] 26) := ⟨_, rfl⟩
  have z0 : W0.heap.size = w.heap.size + 2 := by rw [hW0]; simp
  have g1 : GAt W0 w.heap.size m (.slice ao m.mem.length cap) := by rw [hW0]; exact (gat_new _ _ _).below ((Below.refl _ _).alloc (Nat.le_refl _) _)
  have g2 : W0.heap[w.heap.size + 1]? = some (.cells #[.int .u8 0, .int .i64 0, .int .i64 0, .int .i64 0, .int .i64 0, .slice none 0 0, .string ⟨#[]⟩, .bool false, .string ⟨#[]⟩] 26 (0, 0)) := by
    rw [hW0]
    have := Go.heap_alloc_new (w.alloc (.cells (msC m (.slice ao m.mem.length cap)) 26)) (.cells #[.int .u8 0, .int .i64 0, .int .i64 0, .int .i64 0, .int .i64 0, .slice none 0 0, .string ⟨#[]⟩, .bool false, .string ⟨#[]⟩] 26)
    rwa [World.size_alloc] at this
  have b0 : Below w.heap.size w W0 := by rw [hW0]; exact ((Below.refl _ _).alloc (Nat.le_refl _) _).alloc (by simp) _
  have hr := hrow.below b0
  have G1 := Lib.hid g1
  have G2 := Lib.hid g2
  have B0 := Lib.hid b0
  have HR := Lib.hid hr
  have HP := Lib.hid hp
  have HL := Lib.hid hl
  have HZ := Lib.hid z0
  obtain ⟨x0, x1, x2, x3, x4, x5, x6, x7, x8⟩ := g1.cells
  rw [hW0] at x0 x1 x2 x3 x4 x5 x6 x7 x8
  have HW0 := Lib.hid hW0
  clear hW0 z0 g1 g2 b0 hr hp hl hrow
  go_enter Tryz.func8, Tryz.ntmps8
  go_wp2_with (first | (at_builtin; rw [← HW0.out]; refine wpList_appM (B := w.heap.size + 2) (v := .slice none 0 0) (l := []) (m := m.mem) (ao := ao) (cap := cap) rfl _ _ rfl rfl rfl rfl (ownM_nil _ _) (by rw [HZ.out]; exact Nat.le_refl _) HR.out HP.out (by have := HL.out; simp only [List.length_nil]; omega) ?_; intro v' w' ho' hg'; have gg := G1.out.turn (F := fun _ => False) (turn_none (below_of_grown12 hg')) (fun e => e); obtain ⟨y0, y1, y2, y3, y4, y5, y6, y7, y8⟩ := gg.cells; have fk := gg.frozen 5; obtain ⟨bo, bc, rfl, -⟩ := ownM_row ho'; rw [List.nil_append] at ho' ⊢; have hg2 := (Below.heap_setCell w' ⟨w.heap.size, 5, none⟩ (.slice bo m.mem.length bc) (w.heap.size + 1) (by show w.heap.size + 1 ≠ w.heap.size; omega)).trans (((below_of_grown12 hg').block _ (by rw [HZ.out]; omega)).trans G2.out)) | (refine wpList_store_row rfl 26 _ _ rfl (w.heap.size + 1) (msC m (.slice bo m.mem.length bc)) rfl rfl 26 _ hg2 (ms_info _ _ _ _ _ _ _ _ _) rfl (ms_one _ _ _ _) ?_) | fail)
  have t1 := turn_cell w' w.heap.size 5 (.slice bo m.mem.length bc)
  have t2 := turn_row (w'.setCell ⟨w.heap.size, 5, none⟩ (.slice bo m.mem.length bc)) (w.heap.size + 1) (msC m (.slice bo m.mem.length bc))
  have hgs : GAt ((w'.setCell ⟨w.heap.size, 5, none⟩ (.slice bo m.mem.length bc)).setRow (w.heap.size + 1) (msC m (.slice bo m.mem.length bc))) (w.heap.size + 1) m (.slice bo m.mem.length bc) := setRow_heap _ _ _ _ _ _ hg2
  refine bodyPost_ret (results_cell_row (fn := Tryz.f8) (p := 2) (ty := 26) rfl _ _ (w.heap.size + 1) 26 (msC m (.slice bo m.mem.length bc)) (0, 0) _ rfl hgs Tryz.underlying26 rfl (ms_info _ _ _ _ _ _ _ _ _)) rfl ?_
  have bw := below_step B0.out (below_of_grown12 hg')
  exact ⟨⟨_, _, rfl, ownM_low (ownM_turn (ownM_turn ho' t1 (fun k e => by omega)) t2 (fun k e => by omega)) (by omega)⟩, (bw.trans (turn_to t1 (fun b e => by omega) bw.size)).trans (turn_to t2 (fun b e => by omega) (by have := bw.size; have := t1.size; omega))⟩
end Go.Proofs.YthemopejebioaaaGreat.Pl

namespace Go.Proofs.YthemopejebioaaaGreat.Pl
open Go.RowKit

def hello12 : Ms := zeroM 6
def ack12 : Ms := ⟨4, 0, 1, 2, 0, [], ByteArray.empty, false, ByteArray.empty⟩
def hello12T : ByteArray := ⟨#[114, 1, 100, 5, 104, 101, 108, 108, 111]⟩
def vote12 : Ms := ⟨2, 0, 1, 2, 0, [], ByteArray.empty, false, hello12T⟩
theorem hello12_is : encP hello12 = (bl hello12T, 0) := by kernel_rfl
theorem vote12_is : encP vote12 = ([], 2) := by kernel_rfl
theorem ack12_is : (encP ack12).2 = 0 := by kernel_rfl
theorem ack12_parts {t : List UInt8} (h : encP ack12 = (t, 0)) : (partsB (tb t)).length = 2 := by
  have e : encP ack12 = rowP ((dataP (wordP 4)).1 :: fieldsP ack12) := rfl
  rw [e] at h
  obtain ⟨_, h2, _⟩ := row_read (by decide) h
  unfold partsB
  rw [bl_tb, h2]
  rfl
theorem e12_six (V : World) : Calls Tryz.prog 9 #[.agg #[.int .u8 6, .int .i64 0, .int .i64 0, .int .i64 0, .int .i64 0, .slice none 0 0, .string ⟨#[]⟩, .bool false, .string ⟨#[]⟩]] V fun x w' => x = .returned (.tuple #[.string ⟨#[114, 1, 100, 5, 104, 101, 108, 108, 111]⟩, .int .i64 0]) ∧ Below V.heap.size V w' := by
  have h := enc12_any hello12 (by decide) none 0 (by decide) (by decide) (fun x hx => by cases hx) (by decide) V (.inl rfl)
  rw [hello12_is] at h
  exact h
theorem e12_two (V : World) : Calls Tryz.prog 9 #[.agg #[.int .u8 2, .int .i64 0, .int .i64 1, .int .i64 2, .int .i64 0, .slice none 0 0, .string ⟨#[]⟩, .bool false, .string ⟨#[114, 1, 100, 5, 104, 101, 108, 108, 111]⟩]] V fun x w' => x = .returned (.tuple #[.string ⟨#[]⟩, .int .i64 2]) ∧ Below V.heap.size V w' := by
  have h := enc12_any vote12 (by decide) none 0 (by decide) (by decide) (fun x hx => by cases hx) (by decide) V (.inl rfl)
  rw [vote12_is] at h
  exact h
def ackT : ByteArray := tb (encP ack12).1
theorem ackT_is : encP ack12 = (bl ackT, 0) := Prod.ext rfl ack12_is
theorem ackT_size : ackT.size ≤ 16384 := by
  have e : encP ack12 = rowP ((dataP (wordP 4)).1 :: fieldsP ack12) := rfl
  unfold ackT tb
  rw [size_lit, e]
  exact rowP_size _
theorem e12_four (V : World) : Calls Tryz.prog 9 #[.agg #[.int .u8 4, .int .i64 0, .int .i64 1, .int .i64 2, .int .i64 0, .slice none 0 0, .string ⟨#[]⟩, .bool false, .string ⟨#[]⟩]] V fun x w' => x = .returned (.tuple #[.string ackT, .int .i64 0]) ∧ Below V.heap.size V w' := by
  have h := enc12_any ack12 (by decide) none 0 (by decide) (by decide) (fun x hx => by cases hx) (by decide) V (.inl rfl)
  rw [ackT_is] at h
  exact h
theorem d12_four (V : World) : Calls Tryz.prog 16 #[.string ackT] V fun x w' => (∃ ao cap, x = .returned (.tuple #[.agg #[.int .u8 4, .int .i64 0, .int .i64 1, .int .i64 2, .int .i64 0, .slice ao 0 cap, .string ⟨#[]⟩, .bool false, .string ⟨#[]⟩], .int .i64 0])) ∧ Below V.heap.size V w' := by
  have h := dec12_any ackT (by have := ackT_size; omega) V
  have e := (dec_enc ackT_is).2
  rw [tb_bl] at e
  rw [e] at h
  refine h.mono ?_
  rintro x w' ⟨⟨ao, cap, rfl, _⟩, hb⟩
  exact ⟨⟨ao, cap, rfl⟩, hb⟩
theorem p12_four (V : World) : Calls Tryz.prog 32 #[.string ackT] V fun x w' => (∃ ao cap b, x = .returned (.tuple #[.slice ao 2 cap, .bool b])) ∧ Below V.heap.size V w' := by
  have h := parts12_any ackT (by have := ackT_size; omega) V
  have e := ack12_parts ackT_is
  rw [tb_bl] at e
  rw [e] at h
  refine h.mono ?_
  rintro x w' ⟨ao, cap, rfl, _, _, _, hb⟩
  exact ⟨⟨ao, cap, _, rfl⟩, hb⟩
theorem s12_four (ao : Option Addr) (cap : Nat) (V : World) : Calls Tryz.prog 13 #[.agg #[.int .u8 4, .int .i64 0, .int .i64 1, .int .i64 2, .int .i64 0, .slice ao 0 cap, .string ⟨#[]⟩, .bool false, .string ⟨#[]⟩], .agg #[.int .u8 4, .int .i64 0, .int .i64 1, .int .i64 2, .int .i64 0, .slice none 0 0, .string ⟨#[]⟩, .bool false, .string ⟨#[]⟩]] V fun x w' => x = .returned (.bool true) ∧ Below V.heap.size V w' := by
  have h := same_any ack12 ack12 ao none cap 0 (by decide) V (.inl rfl) (.inl rfl)
  rw [eqM_yes rfl] at h
  exact h
theorem w12_four (V : World) : Calls Tryz.prog 14 #[.int .u8 4] V fun x w' => x = .returned (.string ⟨#[97, 99, 107]⟩) ∧ Below V.heap.size V w' := word12_any 4 (by decide) V
set_option maxHeartbeats 4000000 in
set_option maxRecDepth 100000 in
theorem alive12_any (w : World) : Calls Tryz.prog 7 #[] w fun x w' => x = .returned (.bool true) ∧ Below w.heap.size w w' := by
  have H6 := Lib.hid e12_six
  have H2 := Lib.hid e12_two
  have H4 := Lib.hid e12_four
  have HD := Lib.hid d12_four
  have HP := Lib.hid p12_four
  have HS := Lib.hid s12_four
  have HW := Lib.hid w12_four
  generalize ackT = T at *
  go_enter Tryz.func7, Tryz.ntmps7
  go_wp2_with fail
  refine (H6.out _).mono ?_; rintro e w1 ⟨rfl, b1⟩
  have BB := Lib.hid b1
  clear b1 H6
  obtain ⟨W2, hW2, n0, k2, b2, -⟩ := row_box w1 #[.int .i64 0, .int .i64 0, .int .i64 0] #[.int .i64 0, .int .i64 1, .int .i64 2] 23
  have N0 := Lib.hid n0
  have HW2 := Lib.hid hW2
  have XX := Lib.hid (show XAt W2 w1.heap.size 0 1 2 from k2)
  have BB := Lib.hid (below_step BB.out b2)
  obtain ⟨c0, c1, c2, -⟩ := XX.out.cells
  clear n0 hW2 k2 b2
  go_wp2_with (refine wpList_store_row rfl 23 _ _ rfl w1.heap.size #[.int .i64 0, .int .i64 1, .int .i64 2] rfl rfl 23 #[.int .i64 0, .int .i64 0, .int .i64 0] N0.out (tx_info _ _ _) rfl (tx_one _ _ _) ?_; rw [← HW2.out])
  refine (H4.out _).mono ?_; rintro e w3 ⟨rfl, b3⟩
  clear c0 c1 c2 N0 HW2 H4
  have XX := Lib.hid (XX.out.below b3)
  have BB := Lib.hid (below_step BB.out b3)
  obtain ⟨c0, c1, c2, -⟩ := XX.out.cells
  clear b3
  go_wp2_with fail
  refine (H2.out _).mono ?_; rintro e w4 ⟨rfl, b4⟩
  clear c0 c1 c2 H2
  have XX := Lib.hid (XX.out.below b4)
  have BB := Lib.hid (below_step BB.out b4)
  clear b4
  go_wp2_with fail
  refine (HD.out _).mono ?_; rintro e w5 ⟨⟨ao, cap, rfl⟩, b5⟩
  have XX := Lib.hid (XX.out.below b5)
  have BB := Lib.hid (below_step BB.out b5)
  obtain ⟨W6, hW6, m0, km, b6, s6⟩ := row_box w5 #[.int .u8 0, .int .i64 0, .int .i64 0, .int .i64 0, .int .i64 0, .slice none 0 0, .string ⟨#[]⟩, .bool false, .string ⟨#[]⟩] #[.int .u8 4, .int .i64 0, .int .i64 1, .int .i64 2, .int .i64 0, .slice ao 0 cap, .string ⟨#[]⟩, .bool false, .string ⟨#[]⟩] 26
  have XX := Lib.hid (XX.out.below b6)
  have BB := Lib.hid (below_step BB.out b6)
  have M0 := Lib.hid m0
  have HW6 := Lib.hid hW6
  have KM := Lib.hid km
  have S6 := Lib.hid s6
  clear m0 hW6 km b5 b6 s6 HD
  go_wp2_with (refine wpList_store_row rfl 26 _ _ rfl w5.heap.size #[.int .u8 4, .int .i64 0, .int .i64 1, .int .i64 2, .int .i64 0, .slice ao 0 cap, .string ⟨#[]⟩, .bool false, .string ⟨#[]⟩] rfl rfl 26 #[.int .u8 0, .int .i64 0, .int .i64 0, .int .i64 0, .int .i64 0, .slice none 0 0, .string ⟨#[]⟩, .bool false, .string ⟨#[]⟩] M0.out (ms_info _ _ _ _ _ _ _ _ _) rfl (ms_one ack12 ao 0 cap) ?_; rw [← HW6.out])
  refine (HP.out _).mono ?_; rintro e w7 ⟨⟨po, pc, pb, rfl⟩, b7⟩
  have XX := Lib.hid (XX.out.below b7)
  have BB := Lib.hid (below_step BB.out b7)
  obtain ⟨c0, c1, c2, -⟩ := XX.out.cells
  have km7 : w7.heap[w5.heap.size]? = some (.cells #[.int .u8 4, .int .i64 0, .int .i64 1, .int .i64 2, .int .i64 0, .slice ao 0 cap, .string ⟨#[]⟩, .bool false, .string ⟨#[]⟩] 26 (0, 0)) := (b7.block _ (by rw [S6.out]; exact Nat.lt_succ_self _)).trans KM.out
  have z0 : w7.cell? ⟨w5.heap.size, 0, none⟩ = some (.int .u8 4) := cell_of_row _ _ _ _ _ _ km7
  have z1 : w7.cell? ⟨w5.heap.size, 1, none⟩ = some (.int .i64 0) := cell_of_row _ _ _ _ _ _ km7
  have z2 : w7.cell? ⟨w5.heap.size, 2, none⟩ = some (.int .i64 1) := cell_of_row _ _ _ _ _ _ km7
  have z3 : w7.cell? ⟨w5.heap.size, 3, none⟩ = some (.int .i64 2) := cell_of_row _ _ _ _ _ _ km7
  have z4 : w7.cell? ⟨w5.heap.size, 4, none⟩ = some (.int .i64 0) := cell_of_row _ _ _ _ _ _ km7
  have z5 : w7.cell? ⟨w5.heap.size, 5, none⟩ = some (.slice ao 0 cap) := cell_of_row _ _ _ _ _ _ km7
  have z6 : w7.cell? ⟨w5.heap.size, 6, none⟩ = some (.string ⟨#[]⟩) := cell_of_row _ _ _ _ _ _ km7
  have z7 : w7.cell? ⟨w5.heap.size, 7, none⟩ = some (.bool false) := cell_of_row _ _ _ _ _ _ km7
  have z8 : w7.cell? ⟨w5.heap.size, 8, none⟩ = some (.string ⟨#[]⟩) := cell_of_row _ _ _ _ _ _ km7
  clear km7 b7 M0 HW6 KM S6 HP
  go_wp2_with fail
  refine (HS.out ao cap _).mono ?_; rintro e w8 ⟨rfl, b8⟩
  have BB := Lib.hid (below_step BB.out b8)
  clear b8 z0 z1 z2 z3 z4 z5 z6 z7 z8 c0 c1 c2 HS
  go_wp2_with fail
  refine (HW.out _).mono ?_; rintro e w9 ⟨rfl, b9⟩
  have BB := Lib.hid (below_step BB.out b9)
  clear b9 HW
  go_wp2_with fail
  go_ret
  exact ⟨rfl, BB.out⟩
end Go.Proofs.YthemopejebioaaaGreat.Pl

namespace Go.Proofs.YthemopejebioaaaGreat.Pl
open Go.RowKit Go.ChangeShapes Go.WideShapes

theorem cells_mem : Tryz.prog.cellsOf 81 = 2 := by kernel_rfl
theorem cells_txn : Tryz.prog.cellsOf 23 = 3 := by kernel_rfl
theorem cells_msg : Tryz.prog.cellsOf 26 = 9 := by kernel_rfl
theorem cells_int12 : Tryz.prog.cellsOf 3 = 1 := by kernel_rfl
theorem cells_u8 : Tryz.prog.cellsOf 5 = 1 := by kernel_rfl
theorem cells_bool12 : Tryz.prog.cellsOf 4 = 1 := by kernel_rfl
theorem cells_str12 : Tryz.prog.cellsOf 9 = 1 := by kernel_rfl
theorem cells_mems : Tryz.prog.cellsOf 24 = 1 := by kernel_rfl
theorem spot_none12 {w : World} {a : Addr} {v : Value} (h : w.cell? a = some v) : a.spot = none ∧ a.block < w.heap.size := by
  obtain ⟨b, off, sp⟩ := a
  unfold World.cell? at h
  cases sp with
  | none =>
    refine ⟨rfl, ?_⟩
    rcases Nat.lt_or_ge b w.heap.size with h1 | h1
    · exact h1
    · simp [Array.getElem?_eq_none h1] at h
  | some x =>
    exfalso
    simp only at h
    split at h
    · simp at h
    · cases h
/-- A number that fits. -/
def I64 (v : Int) : Prop := -9223372036854775808 ≤ v ∧ v ≤ 9223372036854775807
theorem int_fit12 {n : Int} (h : (Lit.int .i64 n).wf = true) : I64 n := by
  have : -9223372036854775808 ≤ n ∧ n ≤ 9223372036854775807 := by simpa [Lit.wf, IntKind.min, IntKind.max, IntKind.signed, IntKind.bits] using h
  exact this
set_option maxRecDepth 100000 in
theorem open_mem {H : Type} {enc : TypeId × Value → H} {w : World} {base fuel : Nat} {b off : Nat} {cs : List Value} {x : DataW H × List MemPlace}
    (hc : w.cells? base ⟨b, off, none⟩ 2 = some cs) (hd : DataW.trod enc Tryz.prog w base (fun _ => true) true fuel 81 cs = some x) : ∃ m : Mb, w.cell? ⟨b, off, none⟩ = some (.int .i64 m.1) ∧ w.cell? ⟨b, off + 1, none⟩ = some (.string m.2) ∧ I64 m.1 := by
  obtain ⟨xs, n, _, _, hl, hlen, hf⟩ := DataW.trod_struct Tryz.underlying81 hd
  rw [cells_mem] at hl
  match cs, hl with
  | [c0, c1], _ =>
    match xs, hlen with
    | [x0, x1], _ =>
      have f0 : DataW.trod enc Tryz.prog w base (fun _ => true) true n 3 [c0] = some x0 := by
        have h := hf 0 ⟨_, _, _, _, _, _, _⟩ rfl
        simp only [cells_int12, List.drop_zero, List.take_succ_cons, List.take_zero] at h
        exact h
      have f1 : DataW.trod enc Tryz.prog w base (fun _ => true) true n 9 [c1] = some x1 := by
        have h := hf 1 ⟨_, _, _, _, _, _, _⟩ rfl
        simp only [cells_str12, List.drop_zero, List.drop_succ_cons, List.take_succ_cons, List.take_zero] at h
        exact h
      obtain ⟨n0, e0, _, w0⟩ := DataW.trod_int Tryz.underlying3 f0
      obtain ⟨t1, e1, _, w1⟩ := DataW.trod_string Tryz.underlying9 f1
      injection e0 with e0 _
      injection e1 with e1 _
      subst e0 e1
      obtain ⟨_, _, hcell⟩ := World.cells?_some hc
      refine ⟨(n0, t1), ?_, ?_, int_fit12 w0⟩
      · have h := hcell 0 (by decide)
        rw [add12] at h
        exact h
      · have h := hcell 1 (by decide)
        rw [add12] at h
        exact h
set_option maxRecDepth 100000 in
theorem open_memsC {H : Type} {enc : TypeId × Value → H} {w : World} {base fuel : Nat} {c : Value} {x : DataW H × List MemPlace}
    (hf : DataW.trod enc Tryz.prog w base (fun _ => true) true fuel 24 [c] = some x) :
    ∃ ao l cap, c = .slice ao (List.length l) cap ∧ MemRow w ao l ∧ List.length l ≤ cap ∧ List.length l ≤ 9223372036854775807 ∧ (ao = none → cap = 0) := by
  rcases Go.Deep.open_slice Tryz.underlying24 hf with ⟨hcs, _⟩ | ⟨a', len, cap, m, n, D, P, hcs, _, hl, hm, hz, _, hcell⟩
  · injection hcs with hcs _
    exact ⟨none, [], 0, hcs, .inl rfl, Nat.le_refl _, Nat.zero_le _, fun _ => rfl⟩
  · injection hcs with hcs _
    subst hcs
    unfold maxLen at hm
    simp only [if_true] at hz
    rw [cells_mem] at hcell
    by_cases h0 : len = 0
    · subst h0
      exact ⟨some a', [], cap, rfl, .inl rfl, Nat.zero_le _, Nat.zero_le _, fun h => by cases h⟩
    obtain ⟨g, go, gs⟩ := a'
    have hsp : gs = none ∧ g < w.heap.size := by
      obtain ⟨cs, h1, _⟩ := hcell 0 (by omega)
      obtain ⟨_, h2, h3⟩ := World.cells?_some h1
      have h4 := h3 0 (by omega)
      rw [List.getElem?_eq_getElem (by omega)] at h4
      exact spot_none12 h4
    obtain ⟨rfl, hlt⟩ := hsp
    have each : ∀ j, j < len → ∃ m : Mb, w.cell? ⟨g, go + j * 2, none⟩ = some (.int .i64 m.1) ∧ w.cell? ⟨g, go + j * 2 + 1, none⟩ = some (.string m.2) := fun j hj => by
      obtain ⟨cs, h1, h2⟩ := hcell j (by omega)
      rw [add12] at h1
      obtain ⟨m, k1, k2, _⟩ := open_mem h1 h2
      exact ⟨m, k1, k2⟩
    have ex : ∀ k, k ≤ len → ∃ l : List Mb, l.length = k ∧ ∀ j, (hj : j < l.length) → w.cell? ⟨g, go + j * 2, none⟩ = some (.int .i64 l[j].1) ∧ w.cell? ⟨g, go + j * 2 + 1, none⟩ = some (.string l[j].2) := by
      intro k
      induction k with
      | zero => exact fun _ => ⟨[], rfl, fun j hj => absurd hj (Nat.not_lt_zero _)⟩
      | succ k ih =>
        intro hk
        obtain ⟨l, e, h⟩ := ih (by omega)
        obtain ⟨s, h1, h2⟩ := each k (by omega)
        refine ⟨l ++ [s], by simp [e], fun j hj => ?_⟩
        by_cases hj2 : j < l.length
        · rw [List.getElem_append_left hj2]
          exact h j hj2
        · have hjk : j = l.length := by simp at hj; omega
          subst hjk
          rw [List.getElem_append_right (Nat.le_refl _)]
          simp only [Nat.sub_self, List.getElem_cons_zero]
          rw [e]
          exact ⟨h1, h2⟩
    obtain ⟨l, e, h⟩ := ex len (Nat.le_refl _)
    exact ⟨some ⟨g, go, none⟩, l, cap, by rw [e], .inr ⟨g, go, rfl, hlt, h⟩, by omega, by omega, fun h => by cases h⟩
set_option maxRecDepth 100000 in
theorem open_mems {H : Type} {enc : TypeId × Value → H} {w : World} {r : Reach} {b0 base : Nat} {v : Value} {d : DataW H} {ps : List MemPlace}
    (hval : Value.okWide Tryz.prog w r b0 24 v) (hd : DataW.Trod enc Tryz.prog w base (fun _ => true) true 24 v d ps) :
    ∃ ao l cap, v = .slice ao (List.length l) cap ∧ MemRow w ao l ∧ List.length l ≤ cap ∧ List.length l ≤ 9223372036854775807 ∧ (ao = none → cap = 0) := by
  obtain ⟨a, len, cap, rfl⟩ := okWide_slice Tryz.underlying24 hval
  obtain ⟨fuel, hf⟩ := hd
  exact open_memsC hf
set_option maxRecDepth 100000 in
theorem open_txnC {H : Type} {enc : TypeId × Value → H} {w : World} {base fuel : Nat} {cs : List Value} {x : DataW H × List MemPlace}
    (hd : DataW.trod enc Tryz.prog w base (fun _ => true) true fuel 23 cs = some x) : ∃ c e q : Int, cs = [.int .i64 c, .int .i64 e, .int .i64 q] ∧ I64 c ∧ I64 e ∧ I64 q := by
  obtain ⟨xs, n, _, _, hl, hlen, hf⟩ := DataW.trod_struct Tryz.underlying23 hd
  rw [cells_txn] at hl
  match cs, hl with
  | [c0, c1, c2], _ =>
    match xs, hlen with
    | [x0, x1, x2], _ =>
      have f0 : DataW.trod enc Tryz.prog w base (fun _ => true) true n 3 [c0] = some x0 := by
        have h := hf 0 ⟨_, _, _, _, _, _, _⟩ rfl
        simp only [cells_int12, List.drop_zero, List.take_succ_cons, List.take_zero] at h
        exact h
      have f1 : DataW.trod enc Tryz.prog w base (fun _ => true) true n 3 [c1] = some x1 := by
        have h := hf 1 ⟨_, _, _, _, _, _, _⟩ rfl
        simp only [cells_int12, List.drop_zero, List.drop_succ_cons, List.take_succ_cons, List.take_zero] at h
        exact h
      have f2 : DataW.trod enc Tryz.prog w base (fun _ => true) true n 3 [c2] = some x2 := by
        have h := hf 2 ⟨_, _, _, _, _, _, _⟩ rfl
        simp only [cells_int12, List.drop_zero, List.drop_succ_cons, List.take_succ_cons, List.take_zero] at h
        exact h
      obtain ⟨n0, e0, _, w0⟩ := DataW.trod_int Tryz.underlying3 f0
      obtain ⟨n1, e1, _, w1⟩ := DataW.trod_int Tryz.underlying3 f1
      obtain ⟨n2, e2, _, w2⟩ := DataW.trod_int Tryz.underlying3 f2
      injection e0 with e0 _
      injection e1 with e1 _
      injection e2 with e2 _
      subst e0 e1 e2
      exact ⟨n0, n1, n2, rfl, int_fit12 w0, int_fit12 w1, int_fit12 w2⟩
set_option maxRecDepth 100000 in
theorem open_txn {H : Type} {enc : TypeId × Value → H} {w : World} {r : Reach} {b0 base : Nat} {v : Value} {d : DataW H} {ps : List MemPlace}
    (hval : Value.okWide Tryz.prog w r b0 23 v) (hd : DataW.Trod enc Tryz.prog w base (fun _ => true) true 23 v d ps) :
    ∃ c e q : Int, v = .agg #[.int .i64 c, .int .i64 e, .int .i64 q] ∧ I64 c ∧ I64 e ∧ I64 q := by
  obtain ⟨cs, rfl, -⟩ := okWide_struct Tryz.underlying23 hval
  obtain ⟨fuel, hf⟩ := hd
  obtain ⟨c, e, q, h, k⟩ := open_txnC hf
  exact ⟨c, e, q, by rw [show cs = #[.int .i64 c, .int .i64 e, .int .i64 q] from Array.ext' h], k⟩
set_option maxRecDepth 100000 in
theorem open_msg {H : Type} {enc : TypeId × Value → H} {w : World} {r : Reach} {b0 base : Nat} {v : Value} {d : DataW H} {ps : List MemPlace}
    (hval : Value.okWide Tryz.prog w r b0 26 v) (hd : DataW.Trod enc Tryz.prog w base (fun _ => true) true 26 v d ps) :
    ∃ (m : Ms) (ao : Option Addr) (cap : Nat), v = .agg (msC m (.slice ao m.mem.length cap)) ∧ MemRow w ao m.mem ∧ (ao = none → cap = 0) ∧ m.kind ≤ 255 ∧ m.mem.length ≤ 9223372036854775807 ∧ m.body.size ≤ 9223372036854775807 ∧ m.tag.size ≤ 9223372036854775807 := by
  obtain ⟨cs, rfl, -⟩ := okWide_struct Tryz.underlying26 hval
  obtain ⟨fuel, hf0⟩ := hd
  have hf0' : DataW.trod enc Tryz.prog w base (fun _ => true) true fuel 26 cs.toList = some (d, ps) := hf0
  obtain ⟨xs, n, _, _, hl, hlen, hf⟩ := DataW.trod_struct Tryz.underlying26 hf0'
  rw [cells_msg] at hl
  obtain ⟨L, hL⟩ : ∃ L, L = cs.toList := ⟨_, rfl⟩
  rw [← hL] at hl hf
  match L, hl with
  | [c0, c1, c2, c3, c4, c5, c6, c7, c8], _ =>
    match xs, hlen with
    | [x0, x1, x2, x3, x4, x5, x6], _ =>
      have f0 : DataW.trod enc Tryz.prog w base (fun _ => true) true n 5 [c0] = some x0 := by
        have h := hf 0 ⟨_, _, _, _, _, _, _⟩ rfl
        simp only [cells_u8, List.drop_zero, List.take_succ_cons, List.take_zero] at h
        exact h
      have f1 : DataW.trod enc Tryz.prog w base (fun _ => true) true n 23 [c1, c2, c3] = some x1 := by
        have h := hf 1 ⟨_, _, _, _, _, _, _⟩ rfl
        simp only [cells_txn, List.drop_zero, List.drop_succ_cons, List.take_succ_cons, List.take_zero] at h
        exact h
      have f2 : DataW.trod enc Tryz.prog w base (fun _ => true) true n 3 [c4] = some x2 := by
        have h := hf 2 ⟨_, _, _, _, _, _, _⟩ rfl
        simp only [cells_int12, List.drop_zero, List.drop_succ_cons, List.take_succ_cons, List.take_zero] at h
        exact h
      have f3 : DataW.trod enc Tryz.prog w base (fun _ => true) true n 24 [c5] = some x3 := by
        have h := hf 3 ⟨_, _, _, _, _, _, _⟩ rfl
        simp only [cells_mems, List.drop_zero, List.drop_succ_cons, List.take_succ_cons, List.take_zero] at h
        exact h
      have f4 : DataW.trod enc Tryz.prog w base (fun _ => true) true n 9 [c6] = some x4 := by
        have h := hf 4 ⟨_, _, _, _, _, _, _⟩ rfl
        simp only [cells_str12, List.drop_zero, List.drop_succ_cons, List.take_succ_cons, List.take_zero] at h
        exact h
      have f5 : DataW.trod enc Tryz.prog w base (fun _ => true) true n 4 [c7] = some x5 := by
        have h := hf 5 ⟨_, _, _, _, _, _, _⟩ rfl
        simp only [cells_bool12, List.drop_zero, List.drop_succ_cons, List.take_succ_cons, List.take_zero] at h
        exact h
      have f6 : DataW.trod enc Tryz.prog w base (fun _ => true) true n 9 [c8] = some x6 := by
        have h := hf 6 ⟨_, _, _, _, _, _, _⟩ rfl
        simp only [cells_str12, List.drop_zero, List.drop_succ_cons, List.take_succ_cons, List.take_zero] at h
        exact h
      obtain ⟨n0, e0, _, w0⟩ := DataW.trod_int Tryz.underlying5 f0
      obtain ⟨c, e, q, e1, _⟩ := open_txnC f1
      obtain ⟨n2, e2, _, w2⟩ := DataW.trod_int Tryz.underlying3 f2
      obtain ⟨ao, l, cap, e3, hr, _, hm, hz⟩ := open_memsC f3
      obtain ⟨t4, e4, _, w4⟩ := DataW.trod_string Tryz.underlying9 f4
      obtain ⟨b5, e5, _⟩ := DataW.trod_bool Tryz.underlying4 f5
      obtain ⟨t6, e6, _, w6⟩ := DataW.trod_string Tryz.underlying9 f6
      injection e0 with e0 _
      injection e1 with e1a e1
      injection e1 with e1b e1
      injection e1 with e1c _
      injection e2 with e2 _
      injection e4 with e4 _
      injection e5 with e5 _
      injection e6 with e6 _
      subst e0 e1a e1b e1c e2 e3 e4 e5 e6
      have r0 : 0 ≤ n0 ∧ n0 ≤ 255 := by simpa [Lit.wf, IntKind.min, IntKind.max, IntKind.signed, IntKind.bits] using w0
      obtain ⟨m0, rfl⟩ := Int.eq_ofNat_of_zero_le r0.1
      unfold maxLen at w4 w6
      refine ⟨⟨m0, c, e, q, n2, l, t4, b5, t6⟩, ao, cap, ?_, hr, hz, (by show m0 ≤ 255; omega), hm, (by show t4.size ≤ _; omega), (by show t6.size ≤ _; omega)⟩
      rw [show cs = msC ⟨m0, c, e, q, n2, l, t4, b5, t6⟩ (.slice ao l.length cap) from Array.ext' (by rw [← hL])]
end Go.Proofs.YthemopejebioaaaGreat.Pl

namespace Go.Proofs.YthemopejebioaaaGreat.Pl
open Go.RowKit

set_option maxHeartbeats 1000000 in
set_option maxRecDepth 100000 in
theorem rorg_any (v : Int) (w : World) : Calls Tryz.prog 42 #[.int .i64 v] w fun x w' => x = .returned (.bool (orgP v)) ∧ w' = w := by
  by_cases h1 : (0 : Int) ≤ v
  · by_cases h2 : v < 8
    · have hz : orgP v = true := orgP_iff.2 ⟨h1, h2⟩
      rw [hz]
      clear hz
      go_enter Tryz.func42, Tryz.ntmps42
      go_wp2
      go_ret
      exact ⟨rfl, rfl⟩
    · have hz : orgP v = false := by rw [← Bool.not_eq_true]; exact fun e => h2 (orgP_iff.1 e).2
      rw [hz]
      clear hz
      go_enter Tryz.func42, Tryz.ntmps42
      go_wp2
      go_ret
      exact ⟨rfl, rfl⟩
  · have hz : orgP v = false := by rw [← Bool.not_eq_true]; exact fun e => h1 (orgP_iff.1 e).1
    rw [hz]
    clear hz
    go_enter Tryz.func42, Tryz.ntmps42
    go_wp2
    go_ret
    exact ⟨rfl, rfl⟩
set_option maxHeartbeats 1000000 in
set_option maxRecDepth 100000 in
theorem rmaytxn_any (c e q : Int) (w : World) : Calls Tryz.prog 24 #[.agg #[.int .i64 c, .int .i64 e, .int .i64 q]] w fun x w' => x = .returned (.bool (mayX c e q)) ∧ Below w.heap.size w w' := by
  have HO := Lib.hid (fun V => rorg_any c V)
  have hz : mayX c e q = (orgP c && decide (1 ≤ e) && decide (e ≤ 255) && decide (1 ≤ q) && decide (q ≤ 65535)) := rfl
  generalize mayX c e q = z at *
  generalize orgP c = oc at *
  have HZ := Lib.hid hz
  clear hz
  have B := Lib.hid ((Below.refl w.heap.size w).alloc (Nat.le_refl _) (.cells #[.int .i64 c, .int .i64 e, .int .i64 q] 23))
  cases oc with
  | false =>
    go_enter Tryz.func24, Tryz.ntmps24
    go_wp2_with (go_at_call 42; refine (HO.out _).mono ?_; rintro e w1 ⟨rfl, rfl⟩)
    go_ret
    exact ⟨by rw [HZ.out]; simp [], B.out⟩
  | true =>
    by_cases he1 : (1 : Int) ≤ e
    · by_cases he2 : e ≤ 255
      · by_cases hq1 : (1 : Int) ≤ q
        · by_cases hq2 : q ≤ 65535
          · go_enter Tryz.func24, Tryz.ntmps24
            go_wp2_with (go_at_call 42; refine (HO.out _).mono ?_; rintro e w1 ⟨rfl, rfl⟩)
            go_ret
            exact ⟨by rw [HZ.out]; simp [he1, he2, hq1, hq2], B.out⟩
          · go_enter Tryz.func24, Tryz.ntmps24
            go_wp2_with (go_at_call 42; refine (HO.out _).mono ?_; rintro e w1 ⟨rfl, rfl⟩)
            go_ret
            exact ⟨by rw [HZ.out]; simp [he1, he2, hq1] <;> omega, B.out⟩
        · go_enter Tryz.func24, Tryz.ntmps24
          go_wp2_with (go_at_call 42; refine (HO.out _).mono ?_; rintro e w1 ⟨rfl, rfl⟩)
          go_ret
          exact ⟨by rw [HZ.out]; simp [he1, he2] <;> omega, B.out⟩
      · go_enter Tryz.func24, Tryz.ntmps24
        go_wp2_with (go_at_call 42; refine (HO.out _).mono ?_; rintro e w1 ⟨rfl, rfl⟩)
        go_ret
        exact ⟨by rw [HZ.out]; simp [he1] <;> omega, B.out⟩
    · go_enter Tryz.func24, Tryz.ntmps24
      go_wp2_with (go_at_call 42; refine (HO.out _).mono ?_; rintro e w1 ⟨rfl, rfl⟩)
      go_ret
      exact ⟨by rw [HZ.out]; simp <;> omega, B.out⟩
set_option maxHeartbeats 1000000 in
set_option maxRecDepth 100000 in
theorem rnum12_any (v : Int) (h0 : -9223372036854775808 ≤ v) (h1 : v ≤ 9223372036854775807) (w : World) : Calls Tryz.prog 38 #[.int .i64 v] w fun x w' => x = .returned (.string (numT v)) ∧ Below w.heap.size w w' := by
  have HN := rnum6_any v h0 h1 w
  rw [show st2 (numP v) = .tuple #[.string (numT v), .int .i64 (numP v).2] from rfl] at HN
  have HN := Lib.hid HN
  generalize numT v = nt at *
  generalize (numP v).2 = ne at *
  go_enter Tryz.func38, Tryz.ntmps38
  go_wp2_with (first | (go_at_call 85; refine HN.out.mono ?_; rintro e w1 ⟨rfl, b1⟩) | fail)
  go_ret
  exact ⟨rfl, b1⟩
theorem rflag_any (b : Bool) (w : World) : Calls Tryz.prog 39 #[.bool b] w fun x w' => x = .returned (.string (numT (bitP b))) ∧ Below w.heap.size w w' := by
  cases b with
  | true =>
    have HN := Lib.hid (fun V => rnum12_any 1 (by decide) (by decide) V)
    rw [show numT (bitP true) = numT 1 from rfl]
    generalize numT 1 = nt at *
    go_enter Tryz.func39, Tryz.ntmps39
    go_wp2_with (first | (go_at_call 38; refine (HN.out _).mono ?_; rintro e w1 ⟨rfl, b1⟩) | fail)
    go_ret
    exact ⟨rfl, b1⟩
  | false =>
    have HN := Lib.hid (fun V => rnum12_any 0 (by decide) (by decide) V)
    rw [show numT (bitP false) = numT 0 from rfl]
    generalize numT 0 = nt at *
    go_enter Tryz.func39, Tryz.ntmps39
    go_wp2_with (first | (go_at_call 38; refine (HN.out _).mono ?_; rintro e w1 ⟨rfl, b1⟩) | fail)
    go_ret
    exact ⟨rfl, b1⟩
set_option maxHeartbeats 2000000 in
set_option maxRecDepth 100000 in
theorem rword_any (k : Nat) (w : World) : Calls Tryz.prog 15 #[.int .u8 k] w fun x w' => x = .returned (.string (tb (wordP k))) ∧ w' = w := by
  by_cases h1 : k = 1
  · subst h1
    go_enter Tryz.func15, Tryz.ntmps15
    go_wp2_with fail
    go_ret
    exact ⟨rfl, rfl⟩
  have n1 : ((k : Int) == 1) = false := beq_eq_false_iff_ne.2 (by omega)
  by_cases h2 : k = 2
  · subst h2
    go_enter Tryz.func15, Tryz.ntmps15
    go_wp2_with fail
    go_ret
    exact ⟨rfl, rfl⟩
  have n2 : ((k : Int) == 2) = false := beq_eq_false_iff_ne.2 (by omega)
  by_cases h3 : k = 3
  · subst h3
    go_enter Tryz.func15, Tryz.ntmps15
    go_wp2_with fail
    go_ret
    exact ⟨rfl, rfl⟩
  have n3 : ((k : Int) == 3) = false := beq_eq_false_iff_ne.2 (by omega)
  by_cases h4 : k = 4
  · subst h4
    go_enter Tryz.func15, Tryz.ntmps15
    go_wp2_with fail
    go_ret
    exact ⟨rfl, rfl⟩
  have n4 : ((k : Int) == 4) = false := beq_eq_false_iff_ne.2 (by omega)
  by_cases h5 : k = 5
  · subst h5
    go_enter Tryz.func15, Tryz.ntmps15
    go_wp2_with fail
    go_ret
    exact ⟨rfl, rfl⟩
  have n5 : ((k : Int) == 5) = false := beq_eq_false_iff_ne.2 (by omega)
  by_cases h6 : k = 6
  · subst h6
    go_enter Tryz.func15, Tryz.ntmps15
    go_wp2_with fail
    go_ret
    exact ⟨rfl, rfl⟩
  have n6 : ((k : Int) == 6) = false := beq_eq_false_iff_ne.2 (by omega)
  rw [word_none (by omega)]
  clear h1 h2 h3 h4 h5 h6
  go_enter Tryz.func15, Tryz.ntmps15
  go_wp2_with fail
  go_ret
  exact ⟨rfl, rfl⟩
end Go.Proofs.YthemopejebioaaaGreat.Pl

namespace Go.Proofs.YthemopejebioaaaGreat.Pl
open Go.RowKit

set_option maxHeartbeats 8000000 in
set_option maxRecDepth 100000 in
theorem rtxn12_any (c e q : Int) (w : World) : Calls Tryz.prog 20 #[.agg #[.int .i64 c, .int .i64 e, .int .i64 q]] w fun x w' => x = .returned (st2 (txP c e q)) ∧ Below w.heap.size w w' := by
  have HM := fun V => rmaytxn_any c e q V
  obtain ⟨W0, hW0⟩ : ∃ V, V = w.alloc (.cells #[.int .i64 c, .int .i64 e, .int .i64 q] 23) := ⟨_, rfl⟩
  have X0 := Lib.hid (show XAt W0 w.heap.size c e q from hW0 ▸ xat_new w c e q)
  have B0 := Lib.hid (show Below w.heap.size w W0 from hW0 ▸ (Below.refl _ _).alloc (Nat.le_refl _) _)
  have HW0 := Lib.hid hW0
  clear hW0
  unfold txP
  cases hm : mayX c e q with
  | false =>
    rw [hm] at HM
    rw [if_neg (by simp)]
    have HM := Lib.hid HM
    go_enter Tryz.func20, Tryz.ntmps20
    go_wp2_with (first | (go_at_call 24; rw [← HW0.out]; refine (HM.out _).mono ?_; rintro e1 V ⟨rfl, b1⟩) | fail)
    go_ret2
    exact ⟨rfl, below_step B0.out b1⟩
  | true =>
    obtain ⟨h1, h2, h3⟩ := mayX_iff.1 hm
    have N1 := Lib.hid (fun V => rnum12_any c (by omega) (by omega) V)
    have N2 := Lib.hid (fun V => rnum12_any e (by omega) (by omega) V)
    have N3 := Lib.hid (fun V => rnum12_any q (by omega) (by omega) V)
    have HR : ∀ bo V, TxtRow V bo [numT c, numT e, numT q] → Calls Tryz.prog 40 #[.slice bo 3 3] V fun x w' => x = .returned (.tuple #[.string (tb (txnT c e q)), .int .i64 0]) ∧ Below V.heap.size V w' := fun bo V hV => by
      have h := rrow6_any [numT c, numT e, numT q] bo 3 (by simp) (fun x hx => by
        simp only [List.mem_cons, List.not_mem_nil, or_false] at hx
        rcases hx with rfl | rfl | rfl
        · have := numT_size h1.1 (by omega); omega
        · have := numT_size (v := e) (by omega) (by omega); omega
        · have := numT_size (v := q) (by omega) (by omega); omega) V hV
      rw [show [numT c, numT e, numT q].map bl = txnL c e q from rfl, (txn_ok hm).1] at h
      exact h
    have HR := Lib.hid HR
    rw [hm] at HM
    rw [if_pos rfl, show st2 (txnT c e q, 0) = .tuple #[.string (tb (txnT c e q)), .int .i64 0] from rfl]
    have HM := Lib.hid HM
    have HCE : Hid (∀ V, XAt V w.heap.size c e q → V.cell? ⟨w.heap.size, 0, none⟩ = some (.int .i64 c) ∧ V.cell? ⟨w.heap.size, 1, none⟩ = some (.int .i64 e) ∧ V.cell? ⟨w.heap.size, 2, none⟩ = some (.int .i64 q)) := Lib.hid (fun V h => ⟨h.cells.1, h.cells.2.1, h.cells.2.2.1⟩)
    clear hm h1 h2 h3
    generalize tb (txnT c e q) = res at *
    generalize numT c = t1 at *
    generalize numT e = t2 at *
    generalize numT q = t3 at *
    go_enter Tryz.func20, Tryz.ntmps20
    go_wp2_with (first | (go_at_call 24; rw [← HW0.out]; refine (HM.out _).mono ?_; rintro e1 V ⟨rfl, b1⟩) | fail)
    have XX := Lib.hid ((X0.out.below b1).below (drew12 V))
    have BB := Lib.hid (below_step (below_step B0.out b1) (drew12 V))
    have KS := HCE.out _ XX.out
    clear b1
    refine wp_region_held_drew (S := fun W => W.cell? ⟨w.heap.size, 0, none⟩ = some (.int .i64 c) ∧ W.cell? ⟨w.heap.size, 1, none⟩ = some (.int .i64 e) ∧ W.cell? ⟨w.heap.size, 2, none⟩ = some (.int .i64 q)) (by kernel_rfl) (by first | assumption | exact KS) (fun hHeld => ?_)
    generalize V.drew = wz at *
    refine wpAnyH_take (i := 0) (oi := { dst := some 7, op := Op.fieldAddr 23 (Operand.tmp 1) 0, type := 0, pos := "ref.go:41", after := #[], guard := none }) (v := ?_) rfl (by kernel_rfl) (by kernel_rfl) (by kernel_rfl) (fun _ _ _ h => h) (Or.inl ⟨by rfl, ?_⟩) (by assumption) ?_
    rotate_left 1
    · (intro w hSw; (try dsimp only at hSw); go_simp; try with_reducible rfl)
    (try simp only [Act.put, List.setIfInBounds_toArray, List.set_cons_zero, List.set_cons_succ])
    refine wpAnyH_take (i := 1) (oi := { dst := some 8, op := Op.load 3 (Operand.tmp 7), type := 3, pos := "ref.go:41", after := #[{ on := 0, ground := Ground.data }], guard := none }) (v := ?_) rfl (by kernel_rfl) (by kernel_rfl) (by kernel_rfl) (fun _ _ _ h => h) (Or.inl ⟨by rfl, ?_⟩) (by assumption) ?_
    rotate_left 1
    · (intro w hSw; (try dsimp only at hSw); go_simp; try with_reducible rfl)
    (try simp only [Act.put, List.setIfInBounds_toArray, List.set_cons_zero, List.set_cons_succ])
    refine wpAnyH_take (i := 3) (oi := { dst := some 10, op := Op.fieldAddr 23 (Operand.tmp 1) 1, type := 0, pos := "ref.go:41", after := #[], guard := none }) (v := ?_) rfl (by kernel_rfl) (by kernel_rfl) (by kernel_rfl) (fun _ _ _ h => h) (Or.inl ⟨by rfl, ?_⟩) (by assumption) ?_
    rotate_left 1
    · (intro w hSw; (try dsimp only at hSw); go_simp; try with_reducible rfl)
    (try simp only [Act.put, List.setIfInBounds_toArray, List.set_cons_zero, List.set_cons_succ])
    refine wpAnyH_take (i := 4) (oi := { dst := some 11, op := Op.load 3 (Operand.tmp 10), type := 3, pos := "ref.go:41", after := #[{ on := 3, ground := Ground.data }], guard := none }) (v := ?_) rfl (by kernel_rfl) (by kernel_rfl) (by kernel_rfl) (fun _ _ _ h => h) (Or.inl ⟨by rfl, ?_⟩) (by assumption) ?_
    rotate_left 1
    · (intro w hSw; (try dsimp only at hSw); go_simp; try with_reducible rfl)
    (try simp only [Act.put, List.setIfInBounds_toArray, List.set_cons_zero, List.set_cons_succ])
    refine wpAnyH_take (i := 6) (oi := { dst := some 13, op := Op.fieldAddr 23 (Operand.tmp 1) 2, type := 0, pos := "ref.go:41", after := #[], guard := none }) (v := ?_) rfl (by kernel_rfl) (by kernel_rfl) (by kernel_rfl) (fun _ _ _ h => h) (Or.inl ⟨by rfl, ?_⟩) (by assumption) ?_
    rotate_left 1
    · (intro w hSw; (try dsimp only at hSw); go_simp; try with_reducible rfl)
    (try simp only [Act.put, List.setIfInBounds_toArray, List.set_cons_zero, List.set_cons_succ])
    refine wpAnyH_take (i := 7) (oi := { dst := some 14, op := Op.load 3 (Operand.tmp 13), type := 3, pos := "ref.go:41", after := #[{ on := 6, ground := Ground.data }], guard := none }) (v := ?_) rfl (by kernel_rfl) (by kernel_rfl) (by kernel_rfl) (fun _ _ _ h => h) (Or.inl ⟨by rfl, ?_⟩) (by assumption) ?_
    rotate_left 1
    · (intro w hSw; (try dsimp only at hSw); go_simp; try with_reducible rfl)
    (try simp only [Act.put, List.setIfInBounds_toArray, List.set_cons_zero, List.set_cons_succ])
    refine wpAnyH_ready (rs := [2]) (by kernel_rfl) (by simp) ?_
    refine AllReadyH.cons (o := { dst := some 9, op := Op.call { callee := Callee.value (Operand.func 38), args := #[Operand.tmp 8], argTypes := #[3] }, type := 9, pos := "ref.go:41", after := #[{ on := 1, ground := Ground.data }], guard := none }) rfl (fun K hK => ?_) AllReadyH.nil
    go_simp
    refine (N1.out _).mono ?_; rintro e w1 ⟨rfl, b⟩
    have XX := Lib.hid (XX.out.below b)
    have BB := Lib.hid (below_step BB.out b)
    clear b
    refine hK.out _ _ (HCE.out _ XX.out) (fun hHeld => ?_)
    clear hK K
    (try simp only [Act.put, List.setIfInBounds_toArray, List.set_cons_zero, List.set_cons_succ])
    refine wpAnyH_ready (rs := [5]) (by kernel_rfl) (by simp) ?_
    refine AllReadyH.cons (o := { dst := some 12, op := Op.call { callee := Callee.value (Operand.func 38), args := #[Operand.tmp 11], argTypes := #[3] }, type := 9, pos := "ref.go:41", after := #[{ on := 4, ground := Ground.data }, { on := 2, ground := Ground.chain }], guard := none }) rfl (fun K hK => ?_) AllReadyH.nil
    go_simp
    refine (N2.out _).mono ?_; rintro e w2 ⟨rfl, b⟩
    have XX := Lib.hid (XX.out.below b)
    have BB := Lib.hid (below_step BB.out b)
    clear b
    refine hK.out _ _ (HCE.out _ XX.out) (fun hHeld => ?_)
    clear hK K
    (try simp only [Act.put, List.setIfInBounds_toArray, List.set_cons_zero, List.set_cons_succ])
    refine wpAnyH_ready (rs := [8]) (by kernel_rfl) (by simp) ?_
    refine AllReadyH.cons (o := { dst := some 15, op := Op.call { callee := Callee.value (Operand.func 38), args := #[Operand.tmp 14], argTypes := #[3] }, type := 9, pos := "ref.go:41", after := #[{ on := 7, ground := Ground.data }, { on := 5, ground := Ground.chain }], guard := none }) rfl (fun K hK => ?_) AllReadyH.nil
    go_simp
    refine (N3.out _).mono ?_; rintro e w3 ⟨rfl, b⟩
    have XX := Lib.hid (XX.out.below b)
    have BB := Lib.hid (below_step BB.out b)
    clear b
    refine hK.out _ _ (HCE.out _ XX.out) (fun hHeld => ?_)
    clear hK K
    (try simp only [Act.put, List.setIfInBounds_toArray, List.set_cons_zero, List.set_cons_succ])
    refine wpAnyH_ready (rs := [9]) (by kernel_rfl) (by simp) ?_
    refine AllReadyH.cons (o := { dst := some 16, op := Op.buildSlice 53 3 #[(0, Operand.tmp 9), (1, Operand.tmp 12), (2, Operand.tmp 15)], type := 53, pos := "ref.go:41", after := #[{ on := 2, ground := Ground.data }, { on := 5, ground := Ground.data }, { on := 8, ground := Ground.data }], guard := none }) rfl (fun K hK => ?_) AllReadyH.nil
    go_simp
    obtain ⟨W4, hW4⟩ : ∃ V, V = w3.alloc (.cells #[.string t1, .string t2, .string t3] 9) := ⟨_, rfl⟩
    have ba : Below w3.heap.size w3 W4 := by rw [hW4]; exact (Below.refl _ _).alloc (Nat.le_refl _) _
    have T3 := Lib.hid (show TxtRow W4 (some ⟨w3.heap.size, 0, none⟩) [t1, t2, t3] from hW4 ▸ txt_three w3 t1 t2 t3)
    have XX := Lib.hid (XX.out.below ba)
    have BB := Lib.hid (below_step BB.out ba)
    rw [← hW4]
    clear ba hW4
    refine hK.out _ _ (HCE.out _ XX.out) (fun hHeld => ?_)
    clear hK K
    (try simp only [Act.put, List.setIfInBounds_toArray, List.set_cons_zero, List.set_cons_succ])
    refine wpAnyH_ready (rs := [10]) (by kernel_rfl) (by simp) ?_
    refine AllReadyH.cons (o := { dst := some 17, op := Op.call { callee := Callee.value (Operand.func 40), args := #[Operand.tmp 16], argTypes := #[53] }, type := 31, pos := "ref.go:41", after := #[{ on := 9, ground := Ground.data }, { on := 8, ground := Ground.chain }], guard := none }) rfl (fun K hK => ?_) AllReadyH.nil
    go_simp
    refine (HR.out _ _ T3.out).mono ?_; rintro e w5 ⟨rfl, b⟩
    have XX := Lib.hid (XX.out.below b)
    have BB := Lib.hid (below_step BB.out b)
    clear b
    refine hK.out _ _ (HCE.out _ XX.out) (fun hHeld => ?_)
    clear hK K
    (try simp only [Act.put, List.setIfInBounds_toArray, List.set_cons_zero, List.set_cons_succ])
    refine wpAnyH_take (i := 11) (oi := { dst := some 18, op := Op.extract (Operand.tmp 17) 0, type := 9, pos := "ref.go:41", after := #[{ on := 10, ground := Ground.data }], guard := none }) (v := ?_) rfl (by kernel_rfl) (by kernel_rfl) (by kernel_rfl) (fun _ _ _ h => h) (Or.inl ⟨by rfl, ?_⟩) (by assumption) ?_
    rotate_left 1
    · (intro w hSw; (try dsimp only at hSw); go_simp; try with_reducible rfl)
    (try simp only [Act.put, List.setIfInBounds_toArray, List.set_cons_zero, List.set_cons_succ])
    refine wpAnyH_take (i := 12) (oi := { dst := some 19, op := Op.extract (Operand.tmp 17) 1, type := 30, pos := "ref.go:41", after := #[{ on := 10, ground := Ground.data }], guard := none }) (v := ?_) rfl (by kernel_rfl) (by kernel_rfl) (by kernel_rfl) (fun _ _ _ h => h) (Or.inl ⟨by rfl, ?_⟩) (by assumption) ?_
    rotate_left 1
    · (intro w hSw; (try dsimp only at hSw); go_simp; try with_reducible rfl)
    (try simp only [Act.put, List.setIfInBounds_toArray, List.set_cons_zero, List.set_cons_succ])
    refine wpAnyH_take (i := 13) (oi := { dst := some 2, op := Op.assign (Operand.tmp 18), type := 9, pos := "ref.go:41", after := #[{ on := 11, ground := Ground.data }, { on := 10, ground := Ground.chain }, { on := 0, ground := Ground.phase }, { on := 1, ground := Ground.phase }, { on := 2, ground := Ground.phase }, { on := 3, ground := Ground.phase }, { on := 4, ground := Ground.phase }, { on := 5, ground := Ground.phase }, { on := 6, ground := Ground.phase }, { on := 7, ground := Ground.phase }, { on := 8, ground := Ground.phase }, { on := 9, ground := Ground.phase }, { on := 10, ground := Ground.phase }, { on := 11, ground := Ground.phase }, { on := 12, ground := Ground.phase }], guard := none }) (v := ?_) rfl (by kernel_rfl) (by kernel_rfl) (by kernel_rfl) (fun _ _ _ h => h) (Or.inl ⟨by rfl, ?_⟩) (by assumption) ?_
    rotate_left 1
    · (intro w hSw; (try dsimp only at hSw); go_simp; try with_reducible rfl)
    (try simp only [Act.put, List.setIfInBounds_toArray, List.set_cons_zero, List.set_cons_succ])
    refine wpAnyH_take (i := 14) (oi := { dst := some 3, op := Op.assign (Operand.tmp 19), type := 30, pos := "ref.go:41", after := #[{ on := 12, ground := Ground.data }, { on := 13, ground := Ground.chain }, { on := 0, ground := Ground.phase }, { on := 1, ground := Ground.phase }, { on := 2, ground := Ground.phase }, { on := 3, ground := Ground.phase }, { on := 4, ground := Ground.phase }, { on := 5, ground := Ground.phase }, { on := 6, ground := Ground.phase }, { on := 7, ground := Ground.phase }, { on := 8, ground := Ground.phase }, { on := 9, ground := Ground.phase }, { on := 10, ground := Ground.phase }, { on := 11, ground := Ground.phase }, { on := 12, ground := Ground.phase }, { on := 13, ground := Ground.phase }], guard := none }) (v := ?_) rfl (by kernel_rfl) (by kernel_rfl) (by kernel_rfl) (fun _ _ _ h => h) (Or.inl ⟨by rfl, ?_⟩) (by assumption) ?_
    rotate_left 1
    · (intro w hSw; (try dsimp only at hSw); go_simp; try with_reducible rfl)
    (try simp only [Act.put, List.setIfInBounds_toArray, List.set_cons_zero, List.set_cons_succ])
    refine wpAnyH_done (by kernel_rfl) ?_ _
    go_wp2_with fail
    go_ret2
    exact ⟨rfl, BB.out⟩
theorem rparts12_any (t : ByteArray) (ht : t.size ≤ 281474976710656) (w : World) :
    Calls Tryz.prog 49 #[.string t] w fun e w' => ∃ ao cap, e = .returned (.tuple #[.slice ao (partsB t).length cap, .bool (partsP (bl t)).2]) ∧ (partsB t).length ≤ cap ∧ TxtRow w' ao (partsB t) ∧ Below w.heap.size w w' := by
  refine (rparts6_any t ht w).mono ?_
  rintro e w' ⟨v, L, rfl, hL, hp, hb⟩
  obtain ⟨ao, cap, rfl, hc, hr, hB⟩ := own_shape12 hL
  have e := parts_is hp
  rw [← e]
  exact ⟨ao, cap, rfl, hc, hr, hb⟩
theorem rnumr_any (s : ByteArray) (hs : s.size ≤ 281474976710656) (w : World) : Calls Tryz.prog 52 #[.string s] w fun e w' => e = .returned (.tuple #[.int .i64 ((rdN s).getD 0), .bool (rdN s).isSome]) ∧ Below w.heap.size w w' := by
  refine (rreadnum6_any s hs w).mono ?_
  rintro e w' ⟨rfl, hb⟩
  refine ⟨?_, hb⟩
  unfold rdN nb2
  by_cases h : (readnumP (bl s)).2 = true
  · rw [if_pos h, h]; rfl
  · rw [if_neg h]
    have h0 : readnumP (bl s) = (0, false) := by
      unfold readnumP at h ⊢
      split
      · rename_i k; rw [if_pos k] at h; exact absurd rfl h
      · rfl
    rw [h0]; rfl
end Go.Proofs.YthemopejebioaaaGreat.Pl
