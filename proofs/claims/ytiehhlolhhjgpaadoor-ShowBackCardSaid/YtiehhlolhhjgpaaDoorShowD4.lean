/- What the document's datum of layer 7 answers. What the document's line, Brief and Line of layer 7 answer. What show.datumLine answers. What term's Parts answers. What the document's atom, quoted and bytes of layer 7 answer. What the document's bytes of layer 7 answer. What the document's Subs of layer 6 answers: what stands at the places, each once, in order. What term's Subs answers. What a law's statement asks behind its walk: the one result is true, and each argument reads as it did, where below the heap's old size nothing has turned. Whatever the parameters' types are. -/
import Derived.Test.YtiehhlolhhjgpaaDoorShowD2
import Derived.Test.YtiehhlolhhjgpaaDoorShowD3
import Derived.Test.YtiehhlolhhjgpaaDoorShelf
import Derived.BigQuiet
import Derived.Deep.RegionHeld3
import Derived.Maps.OwnIn
import Derived.StringKeys
import Derived.Carry
import Derived.Test.YtiehhlolhhjgpaaDoorProg
import Derived.WalkKit
import Derived.ProofKit
import Derived.OpenShut
import Derived.ChangeOld
namespace Go.Proofs.YtiehhlolhhjgpaaDoor.Pl
open Go.RowKit

def hexDigits : ByteArray := ⟨#[48, 49, 50, 51, 52, 53, 54, 55, 56, 57, 97, 98, 99, 100, 101, 102]⟩
theorem hexd_index (x : Nat) (h : x < 16) (V : World) : (Instr.index 9 (.string ⟨#[48, 49, 50, 51, 52, 53, 54, 55, 56, 57, 97, 98, 99, 100, 101, 102]⟩) (.int .u8 (x : Int))).run Tryd.prog V = .ok (.int .u8 ((hexD x).toNat : Int)) V := by
  obtain rfl | rfl | rfl | rfl | rfl | rfl | rfl | rfl | rfl | rfl | rfl | rfl | rfl | rfl | rfl | rfl : x = 0 ∨ x = 1 ∨ x = 2 ∨ x = 3 ∨ x = 4 ∨ x = 5 ∨ x = 6 ∨ x = 7 ∨ x = 8 ∨ x = 9 ∨ x = 10 ∨ x = 11 ∨ x = 12 ∨ x = 13 ∨ x = 14 ∨ x = 15 := by omega
  all_goals kernel_rfl
/-- string([]byte{a, b}). -/
theorem convert2 (a b : UInt8) (V : World) : (convert 84 9 (.slice (some ⟨V.heap.size, 0, none⟩) 2 2)).run Tryd.prog ((V.alloc (.cells #[.int .u8 (a.toNat : Int), .int .u8 (b.toNat : Int)] 5)).drew) = .ok (.string ⟨#[a, b]⟩) ((V.alloc (.cells #[.int .u8 (a.toNat : Int), .int .u8 (b.toNat : Int)] 5)).drew) :=
  run_convert_bytes_back (P := Tryd.prog) _ 84 9 5 ⟨V.heap.size, 0, none⟩ 2 [a, b] Tryd.underlying84 Tryd.underlying5 Tryd.underlying9 (fun j hj => by
    have h : ∀ k, (World.drew (V.alloc (.cells #[.int .u8 (a.toNat : Int), .int .u8 (b.toNat : Int)] 5))).cell? ⟨V.heap.size, k, none⟩ = (V.alloc (.cells #[.int .u8 (a.toNat : Int), .int .u8 (b.toNat : Int)] 5)).cell? ⟨V.heap.size, k, none⟩ := fun _ => rfl
    match j, hj with
    | 0, _ => rw [show (⟨V.heap.size, 0, none⟩ : Addr).add 0 = ⟨V.heap.size, 0, none⟩ from rfl, h]; simp
    | 1, _ => rw [show (⟨V.heap.size, 0, none⟩ : Addr).add 1 = ⟨V.heap.size, 1, none⟩ from rfl, h]; simp)
theorem hex_next (s : ByteArray) (k : Nat) (h : k < s.size) (b : UInt8) (hb : b = (bl s).getD k 0) : hexL ((bl s).take (k + 1)) = hexL ((bl s).take k) ++ [hexD (b.toNat / 16), hexD (b.toNat % 16)] := by
  rw [List.take_succ_eq_append_getElem (by rw [bl_length]; exact h)]
  have e : (bl s)[k]'(by rw [bl_length]; exact h) = b := by rw [hb, List.getD_eq_getElem?_getD, List.getElem?_eq_getElem (by rw [bl_length]; exact h)]; rfl
  rw [e]
  simp [hexL]
theorem cat_hex (s : ByteArray) (k : Nat) (h : k < s.size) (b : UInt8) (hb : b = (bl s).getD k 0) : (⟨(120 :: hexL ((bl s).take k)).toArray⟩ : ByteArray) ++ ⟨#[hexD (b.toNat / 16), hexD (b.toNat % 16)]⟩ = ⟨(120 :: hexL ((bl s).take (k + 1))).toArray⟩ := by
  have e := hex_next s k h b hb
  generalize bl s = X at e ⊢
  apply bl_inj
  rw [cat_bytes, bl_mk (120 :: hexL (X.take k)), bl_mk (120 :: hexL (X.take (k + 1))), e]; rfl
end Go.Proofs.YtiehhlolhhjgpaaDoor.Pl

namespace Go.Proofs.YtiehhlolhhjgpaaDoor.Pl
open Go.RowKit

theorem sepL_append (a b : List (List UInt8)) : sepL (a ++ b) = sepL a ++ sepL b := by simp [sepL]
theorem joinL_take (ls : List (List UInt8)) (k : Nat) (hk : k < ls.length) : joinL (ls.take (k + 1)) = (if 0 < k then joinL (ls.take k) ++ [44, 32] else joinL (ls.take k)) ++ ls[k] := by
  cases ls with
  | nil => simp at hk
  | cons x r =>
    cases k with
    | zero => simp [joinL, sepL]
    | succ k =>
      simp only [List.length_cons] at hk
      have hk' : k < r.length := by omega
      rw [if_pos (by omega), List.take_succ_cons, List.take_succ_cons, joinL, joinL, List.take_succ_eq_append_getElem hk', sepL_append]
      simp [sepL]
theorem joinL_take_le (ls : List (List UInt8)) (k : Nat) : (joinL (ls.take k)).length ≤ (joinL ls).length := by
  cases ls with
  | nil => simp [joinL]
  | cons x r =>
    cases k with
    | zero => simp [joinL]
    | succ k =>
      rw [List.take_succ_cons, joinL, joinL]
      have : sepL r = sepL (r.take k) ++ sepL (r.drop k) := by rw [← sepL_append, List.take_append_drop]
      rw [this]; simp only [List.length_append]; omega
theorem kind_head {h : List UInt8} {l : List Tm} (hv : (Tm.node h l).valid) {b : UInt8} {r : List UInt8} (e : h = b :: r) : kindP (Tm.node h l).enc = if b = 100 then 1 else if b = 97 then 2 else if b = 114 then 3 else if b = 104 then 4 else if b = 109 then 5 else 6 := by
  unfold kindP
  rw [if_pos (check_enc hv), Tm.enc_node, e, List.cons_append]
theorem text_head {h : List UInt8} {l : List Tm} (hv : (Tm.node h l).valid) {b : UInt8} {x : List UInt8} (e : h = b :: txt x) (hb : b = 100 ∨ b = 97) (hx : x.length ≤ 1024) : textP (Tm.node h l).enc = (x, true) := by
  have hr := rdt_txt (t := x) (by rw [two64]; omega) (encs l) 1024 (by omega)
  unfold textP
  rw [if_pos ⟨check_enc hv, by rw [Tm.enc_node, e]; rcases hb with rfl | rfl <;> simp⟩, Tm.enc_node, e, List.cons_append, List.drop_succ_cons, List.drop_zero, hr]
theorem text_none {h : List UInt8} {l : List Tm} {b : UInt8} {r : List UInt8} (e : h = b :: r) (h1 : b ≠ 100) (h2 : b ≠ 97) : textP (Tm.node h l).enc = ([], false) := by
  unfold textP
  rw [if_neg]
  rintro ⟨_, k⟩
  rw [Tm.enc_node, e] at k
  simp at k
  rcases k with k | k
  · exact h1 k
  · exact h2 k
theorem parts_node {h : List UInt8} {l : List Tm} (hv : (Tm.node h l).valid) : partsP (Tm.node h l).enc = (l.map Tm.enc, true) := by
  unfold partsP; rw [treeOf_enc hv]
/-- The four kinds that have parts. -/
theorem wrap_parts {h : List UInt8} {l : List Tm} (hv : (Tm.node h l).valid) :
    (∃ x, h = 100 :: txt x ∧ x.length ≤ 1024) ∨ (∃ x, h = 97 :: txt x ∧ x.length ≤ 1024) ∨
    ∃ kd : Nat, kindP (Tm.node h l).enc = kd ∧ textP (Tm.node h l).enc = ([], false) ∧ ((kd = 3 ∧ ∀ ls, wrapL h ls = 91 :: (joinL ls ++ [93])) ∨ (kd = 4 ∧ ∀ ls, wrapL h ls = 104 :: 40 :: (joinL ls ++ [41])) ∨ (kd = 5 ∧ ∀ ls, wrapL h ls = 109 :: 40 :: (joinL ls ++ [41])) ∨ (kd = 6 ∧ ∀ ls, wrapL h ls = 115 :: 40 :: (joinL ls ++ [41]))) := by
  have hg := hv.1
  simp only [Tm.good] at hg
  obtain ⟨c, hk⟩ := head_kind hg.1
  cases hk with
  | data x e e1 _ => exact .inl ⟨x, e, e1⟩
  | atom x e e1 _ _ => exact .inr (.inl ⟨x, e, by omega⟩)
  | row v e _ _ => exact .inr (.inr ⟨3, by rw [kind_head hv e]; rfl, text_none e (by decide) (by decide), .inl ⟨rfl, fun ls => by rw [e, wrap_row]⟩⟩)
  | hash e e2 => exact .inr (.inr ⟨4, by rw [kind_head hv e]; rfl, text_none e (by decide) (by decide), .inr (.inl ⟨rfl, fun ls => by rw [e, wrap_hash]⟩)⟩)
  | mac e e2 => exact .inr (.inr ⟨5, by rw [kind_head hv e]; rfl, text_none e (by decide) (by decide), .inr (.inr (.inl ⟨rfl, fun ls => by rw [e, wrap_mac]⟩))⟩)
  | seal_ e e2 => exact .inr (.inr ⟨6, by rw [kind_head hv e]; rfl, text_none e (by decide) (by decide), .inr (.inr (.inr ⟨rfl, fun ls => by rw [e, wrap_seal]⟩))⟩)
theorem ret6_str {a b : ByteArray} (h : a = b) : Ending.returned (.string a) = .returned (.string b) := by rw [h]

/-- A term's line, as deep as that, or that it is none. -/
noncomputable def briefP (most : Int) (s : List UInt8) : List UInt8 × Nat := match treeOf s with | some T => (lineT most T 1, 0) | none => ([], 2)
theorem briefP_some {T : Tm} (h : T.valid) (most : Int) : briefP most T.enc = (lineT most T 1, 0) := by unfold briefP; rw [treeOf_enc h]
theorem briefP_none {s : List UInt8} (h : checkP s ≠ 0) (most : Int) : briefP most s = ([], 2) := by unfold briefP; rw [treeOf_none h]
theorem briefP_len (most : Int) (s : List UInt8) : (briefP most s).1.length ≤ 65536 := by
  by_cases h : checkP s = 0
  · obtain ⟨T, tv, te, tr⟩ := tree_of h
    rw [te, briefP_some tv]
    have := lineT_len most T tv.1 1
    have := tv.2.2
    show (lineT most T 1).length ≤ _
    omega
  · rw [briefP_none h]; simp
end Go.Proofs.YtiehhlolhhjgpaaDoor.Pl

namespace Go.Proofs.YtiehhlolhhjgpaaDoor.Pl
open Go.RowKit

theorem and15 : ∀ n : Nat, n < 256 → bits .and .u8 (n : Int) 15 = ((n % 16 : Nat) : Int) := by decide +kernel
set_option maxHeartbeats 2000000 in
set_option maxRecDepth 100000 in
theorem datumline7_any (s : ByteArray) (hs : s.size ≤ 1000000) (w : World) :
    Calls Tryd.prog 47 #[.string s] w fun e w' => e = .returned (.string ⟨(datumL (bl s)).toArray⟩) ∧ Below w.heap.size w w' := by
  have HP := fun V => plain7_any s V
  obtain ⟨z, hz⟩ : ∃ z, z = datumL (bl s) := ⟨_, rfl⟩
  rw [← hz]
  unfold datumL at hz
  cases hp : plainB (bl s) with
  | true =>
    rw [hp] at HP hz
    rw [if_pos rfl] at hz
    have HP := Lib.hid HP
    have HZ : Hid ((⟨z.toArray⟩ : ByteArray) = (⟨#[34]⟩ ++ s) ++ ⟨#[34]⟩) := Lib.hid (by
      apply bl_inj; rw [bl_mk, cat_bytes, cat_bytes, hz]; rfl)
    have h1 : (⟨#[34]⟩ : ByteArray).size + s.size ≤ 9223372036854775807 := by have : (⟨#[34]⟩ : ByteArray).size = 1 := rfl; omega
    have h2 : (⟨#[34]⟩ ++ s : ByteArray).size + (⟨#[34]⟩ : ByteArray).size ≤ 9223372036854775807 := by rw [ByteArray.size_append]; have : (⟨#[34]⟩ : ByteArray).size = 1 := rfl; omega
    rw [HZ.out]
    clear hz hp
    go_enter Tryd.func47, Tryd.ntmps47
    go_wp2_with (go_at_call 60; refine (HP.out _).mono ?_; rintro e w1 ⟨rfl, b1⟩)
    go_ret
    exact ⟨rfl, b1⟩
  | false =>
    rw [hp] at HP hz
    rw [if_neg (by decide)] at hz
    have HP := Lib.hid HP
    have HZ := Lib.hid hz
    have HS := Lib.hid hs
    clear hz hp
    go_enter Tryd.func47, Tryd.ntmps47
    go_wp2_with (first
      | (go_at_call 60; refine (HP.out _).mono ?_; rintro e w1 ⟨rfl, b1⟩; have B1 := Lib.hid b1; clear b1)
      | (go_at_call 64; refine (writeString6_any w1.heap.size w1.heap.size [] ⟨#[120]⟩ _ (Lib.fresh_isBuilder 90 5 w1) (by rw [size_lit]; simp) (by simp)).mono ?_; rintro e w2 ⟨rfl, i2, b2, _⟩; have I2 := Lib.hid i2; have B2 := Lib.hid b2; clear i2 b2))
    go_loopw [13] (fun iv wr => ∃ k : Nat, iv = .int .i64 k ∧ k ≤ s.size ∧ Hid (Lib.IsBuilder 90 5 w1.heap.size w1.heap.size (Lib.byteCells (120 :: hexL ((bl s).take k))) wr) ∧ Hid (Below w1.heap.size w1 wr)) (fun iv _ => s.size - (intOf iv).toNat)
    case atStart => exact ⟨0, rfl, Nat.zero_le _, I2, Lib.hid (((Below.refl _ w1).alloc (Nat.le_refl _) _).trans B2.out)⟩
    case round =>
      obtain ⟨k, rfl, hkn, hI, hb⟩ := hrel
      by_cases hk : k < s.size
      · have hk' : (k : Int) < (s.size : Int) := by omega
        have hk0 : (0 : Int) ≤ (k : Int) := by omega
        obtain ⟨b, eb⟩ : ∃ b : UInt8, b = (bl s).getD k 0 := ⟨_, rfl⟩
        have hb256 := b.toNat_lt
        have hix : ∀ V : World, (Instr.index 9 (.string s) (.int .i64 (k : Int))).run Tryd.prog V = .ok (.int .u8 (b.toNat : Int)) V := tstr_index s k b hk eb
        have hand := and15 b.toNat hb256
        have HNX := Lib.hid (hex_next s k hk b eb)
        have HLN : Hid ((120 :: hexL ((bl s).take k)).length + 2 ≤ 140737488355328) := Lib.hid (by
          rw [List.length_cons, hexL_len, List.length_take]; have := HS.out; omega)
        have HWS : Hid (w1.heap.size ≤ wr.heap.size) := Lib.hid hb.out.size
        obtain ⟨x, ex⟩ : ∃ x : Nat, x = b.toNat / 16 := ⟨_, rfl⟩
        obtain ⟨y, ey⟩ : ∃ y : Nat, y = b.toNat % 16 := ⟨_, rfl⟩
        have hx1 := hexd_index x (by omega)
        have hx2 := hexd_index y (by omega)
        rw [← ey] at hand
        have d1 : Int.tdiv (b.toNat : Int) 16 = (x : Int) := by rw [Int.tdiv_eq_ediv_of_nonneg (by omega)]; omega
        have d2 : (b.toNat : Int) / 16 = (x : Int) := by omega
        rw [← ex, ← ey] at HNX
        generalize (bl s).take k = X0 at *
        clear eb ex ey
        go_wp2_with fail
        refine (writeByte7_any w1.heap.size w1.heap.size (120 :: hexL X0) (hexD x) wr hI.out (by have := HLN.out; omega) HWS.out).mono ?_
        rintro e w3 ⟨rfl, i3, b3, _⟩
        have I3 := Lib.hid i3
        have B3 := Lib.hid (hb.out.trans b3)
        have HW3 : Hid (w1.heap.size ≤ w3.heap.size) := Lib.hid B3.out.size
        clear i3 b3
        go_wp2_with fail
        refine (writeByte7_any w1.heap.size w1.heap.size (120 :: hexL X0 ++ [hexD x]) (hexD y) w3 I3.out (by have := HLN.out; rw [List.length_append, List.length_singleton]; omega) HW3.out).mono ?_
        rintro e w4 ⟨rfl, i4, b4, _⟩
        have I4 := Lib.hid i4
        have B4 := Lib.hid (B3.out.trans b4)
        clear i4 b4
        go_wp2_with fail
        go_roundw
        case rel => exact ⟨k + 1, by go_num, by omega, Lib.hid (by have h := I4.out; rw [HNX.out]; simpa using h), B4⟩
        case measure => simp [intOf]; omega
      · obtain rfl : k = s.size := by omega
        have HX : Hid ((bl s).take s.size = bl s) := Lib.hid (List.take_of_length_le (by rw [bl_length]; exact Nat.le_refl _))
        clear hk hkn
        go_wp2_with (go_at_call 66; refine (Tryd.Builder_String_any_k w1.heap.size w1.heap.size _ _ (Lib.IsBuilderF.of hI.out) hb.out.size).mono ?_; rintro e w3 ⟨rfl, _, b3, _⟩; have B3 := Lib.hid (below_step B1.out (hb.out.trans b3)); clear b3)
        go_ret
        exact ⟨by rw [HZ.out, HX.out]; rfl, B3.out⟩
end Go.Proofs.YtiehhlolhhjgpaaDoor.Pl

namespace Go.Proofs.YtiehhlolhhjgpaaDoor.Pl
open Go.RowKit Go.Shelf
attribute [local go_sem] Oper.semAt_some

/-- The term at a place. -/
def ptT (s : ByteArray) (x : Pl6) : ByteArray := s.extract x.at_ (x.at_ + (frontP ((bl s).drop x.at_)).1)
theorem pt_at {s : ByteArray} {T : Tm} (hT : T.valid) (eT : bl s = T.enc) {y : Pl6 × Tm} (hy : y ∈ offT 0 1 T) : ptT s y.1 = tx y.2 := by
  obtain ⟨r, hr⟩ := offs_at (bl s) T 0 1 [] (by rw [List.drop_zero, eT, List.append_nil]) y hy
  have hv := places_valid hT (offs_place hy)
  refine bl_inj ?_
  unfold ptT
  rw [bl_extract, bl_tx, hr, front_enc hv, List.drop_take, hr, Nat.add_sub_cancel_left, List.take_left]
/-- The parts: what stands one deeper. -/
def partL (s : ByteArray) (l : List Pl6) : List ByteArray := (l.filter fun x => x.dep == 2).map (ptT s)
theorem partL_yes (s : ByteArray) (l : List Pl6) (x : Pl6) (h : x.dep = 2) : partL s (l ++ [x]) = partL s l ++ [ptT s x] := by simp [partL, h]
theorem partL_no (s : ByteArray) (l : List Pl6) (x : Pl6) (h : x.dep ≠ 2) : partL s (l ++ [x]) = partL s l := by simp [partL, h]
theorem partL_len (s : ByteArray) (l : List Pl6) : (partL s l).length ≤ l.length := by
  rw [partL, List.length_map]; exact List.length_filter_le _ _
theorem part_vis {s : ByteArray} (h : checkP (bl s) = 0) : partsP (bl s) = ((partL s (vis s).1).map bl, true) := by
  obtain ⟨T, tv, te, tr, hv⟩ := vis_term h
  obtain ⟨hd, l⟩ := T
  have h1 : partL s (vis s).1 = l.map tx := by
    have h2 := offs_parts hd l 0 1
    rw [hv, partL, List.filter_map, List.map_map]
    conv => rhs; rw [← h2, List.map_map]
    refine List.map_congr_left fun y hy => ?_
    exact pt_at tv te (List.mem_filter.1 hy).1
  unfold partsP
  rw [tr, h1, List.map_map]
  rfl

/-- A row of texts in a box, and the text that is gone over in another. -/
def LstI (w : World) (t : ByteArray) (BL : Nat) (f : List Pl6 → List ByteArray) (pre : List Pl6) (W : World) : Prop :=
  (∃ v, Boxed W BL 31 v ∧ W.ownsRow (w.heap.size + 1) 9 1 v (f pre).length (txts (f pre)) ∧ True) ∧ Boxed W w.heap.size 9 (.string t) ∧ Below w.heap.size w W
theorem lstI_own (w : World) (t : ByteArray) (BL : Nat) (f : List Pl6 → List ByteArray) (B : Nat) (h : w.heap.size ≤ B) : OwnFrom B (LstI w t BL f) :=
  OwnFrom.and (Own.from (holdsRow_own (w.heap.size + 1) BL 31 9 1 (fun pre => (f pre).length) (fun pre => txts (f pre)) (fun _ _ => True)) _)
    (OwnFrom.and (Own.from (boxed_own _ _ _) _) (ownFrom_below (Nat.le_refl _) h))

theorem boxed_below {W W' : World} {B : Nat} {t : TypeId} {v : Value} (h : Boxed W B t v) (b : Below W.heap.size W W') : Boxed W' B t v := (b.block _ h.lt).trans h
theorem infoStr6 : (Tryd.prog.info? 9).map (fun i => (i.zero, i.size, i.bytes)) = some (some (.string ⟨#[]⟩), 1, 16) := by kernel_rfl

/-- One text more, appended: the run. -/
theorem append_run {W1 : World} {n₀ : Nat} {v : Value} {l : List ByteArray} (y : ByteArray) (hrow : OwnT W1 n₀ v l) (hn : n₀ ≤ W1.heap.size) (hl : l.length ≤ 100000) :
    ∃ v' w', (Builtin.append_ #[31, 31] 31 #[v, .slice (some ⟨W1.heap.size, 0, none⟩) 1 1]).run Tryd.prog (W1.alloc (.cells #[.string y] 9)) = .ok v' w' ∧ OwnT w' n₀ v' (l ++ [y]) ∧ (W1.alloc (.cells #[.string y] 9)).grownBy w' v.ownBlock := by
  obtain ⟨i0, hi, hz0, hz1, hz2⟩ := info_parts infoStr6
  obtain ⟨v', w', hrun, hown', hgrow, _⟩ := run_append_own (P := Tryd.prog) (W1.alloc (.cells #[.string y] 9)) n₀ 31 31 9 i0 (.string ⟨#[]⟩) 1 16 Tryd.underlying31 hi hz0 hz1 hz2 rfl (by decide) v l.length (txts l) (World.ownsRow.alloc hrow _) ⟨W1.heap.size, 0, none⟩ 1 1 [.string y] rfl
    (by
      intro j u hu
      cases j with
      | zero =>
        have hu' : Value.string y = u := by simpa using hu
        subst hu'
        exact (Boxed.new W1 9 (.string y)).cell
      | succ j => simp at hu)
    (by intro u hu; have : u = Value.string y := by simpa using hu
        rw [this]; rfl)
    (by unfold maxLen; omega) (by omega) (by simp; omega)
  refine ⟨v', w', hrun, ?_, hgrow⟩
  unfold OwnT
  rw [List.length_append, List.length_singleton, show txts (l ++ [y]) = txts l ++ [.string y] by simp [txts]]
  exact hown'

/-- What storing it leaves. -/
theorem append_stored {W1 w' : World} {n₀ BL : Nat} {v v' : Value} {l l' : List ByteArray} {y : ByteArray} (hv : Boxed W1 BL 31 v) (hrow : OwnT W1 n₀ v l) (hn : n₀ ≤ W1.heap.size) (hB : n₀ ≤ BL)
    (hown' : OwnT w' n₀ v' l') (hgrow : (W1.alloc (.cells #[.string y] 9)).grownBy w' v.ownBlock) :
    Boxed w' BL 31 v ∧ Boxed (w'.setCell ⟨BL, 0, none⟩ v') BL 31 v' ∧ OwnT (w'.setCell ⟨BL, 0, none⟩ v') n₀ v' l' ∧ KeepsOthers W1 (w'.setCell ⟨BL, 0, none⟩ v') ∧ Below n₀ W1 (w'.setCell ⟨BL, 0, none⟩ v') ∧ KeepP W1 (w'.setCell ⟨BL, 0, none⟩ v') := by
  obtain ⟨a1, a2, a3, a4, a5⟩ := Boxed.appended (tmp := .cells #[.string y] 9) hv (by decide) hrow hn hB hown' hgrow
  refine ⟨a1, a2, a3, a4, a5, a4.1, fun b cs hb => ?_⟩
  have hlt := (Array.getElem?_eq_some_iff.1 hb).1
  have h1 := (Below.heap_alloc W1 (.cells #[.string y] 9) b hlt).trans hb
  have h2 := (hgrow.block b (by simp; omega) (fun e => by
    rcases hrow.2 with ⟨rfl, _⟩ | ⟨g, cap, cur, rfl, _, hgb, _⟩
    · simp [Value.ownBlock] at e
    · obtain rfl : b = g := by simpa [Value.ownBlock] using e
      rw [hb] at hgb; cases hgb)).trans h1
  exact (Below.heap_setCell w' ⟨BL, 0, none⟩ v' b (fun e => by
    have e' : b = BL := e
    subst e'
    rw [show W1.heap[b]? = _ from hv] at hb; cases hb)).trans h2

theorem ownT_low {W : World} {B B' : Nat} {v : Value} {l : List ByteArray} (h : OwnT W B v l) (hB : B' ≤ B) : OwnT W B' v l := by
  refine ⟨h.1, ?_⟩
  rcases h.2 with hn | ⟨g, cap, cur, hv, hbg, rest⟩
  · exact .inl hn
  · exact .inr ⟨g, cap, cur, hv, Nat.le_trans hB hbg, rest⟩
theorem grown_drew6 (W : World) : W.grownBy W.drew none := ⟨rfl, rfl, rfl, Nat.le_refl _, fun _ _ _ => rfl⟩
/-- How far the world has come: a call, a new row, an append, a store, one behind the other. -/
def PW (U0 : World) (y : ByteArray) (App : World → World → Value → Prop) (Fin : World → Prop) : Bool → Bool → Bool → Bool → Value → Value → World → Prop
  | false, false, false, false, _, _, w' => w' = U0
  | true, false, false, false, _, _, w' => Below U0.heap.size U0 w'
  | true, true, false, false, x21, _, w' => ∃ W1, Below U0.heap.size U0 W1 ∧ w' = W1.alloc (.cells #[.string y] 9) ∧ x21 = .slice (some ⟨W1.heap.size, 0, none⟩) 1 1
  | true, true, true, false, _, x22, w' => ∃ W1, Below U0.heap.size U0 W1 ∧ App W1 w' x22
  | true, true, true, true, _, _, w' => Fin w'
  | _, _, _, _, _, _, _ => False
section
variable {U0 : World} {y : ByteArray} {App : World → World → Value → Prop} {Fin : World → Prop} {q4 q5 q6 q7 : Bool} {x21 x22 : Value} {w' w2 : World}
theorem pw_below (h : PW U0 y App Fin q4 q5 false q7 x21 x22 w') : Below U0.heap.size U0 w' := by
  cases q4 <;> cases q5 <;> cases q7 <;> simp only [PW] at h
  · subst h; exact Below.refl _ _
  · exact h
  · obtain ⟨W1, h1, rfl, _⟩ := h; exact h1.alloc h1.size _
theorem pw_u0 (h : PW U0 y App Fin false q5 q6 q7 x21 x22 w') : w' = U0 := by
  cases q5 <;> cases q6 <;> cases q7 <;> simp only [PW] at h
  exact h
theorem pw_four (h : PW U0 y App Fin false q5 q6 q7 x21 x22 U0) (b : Below U0.heap.size U0 w2) : PW U0 y App Fin true q5 q6 q7 x21 x22 w2 := by
  cases q5 <;> cases q6 <;> cases q7 <;> simp only [PW] at h ⊢
  exact b
theorem pw_five (h : PW U0 y App Fin true false q6 q7 x21 x22 w') : PW U0 y App Fin true true q6 q7 (.slice (some ⟨w'.heap.size, 0, none⟩) 1 1) x22 (w'.alloc (.cells #[.string y] 9)) := by
  cases q6 <;> cases q7 <;> simp only [PW] at h ⊢
  exact ⟨w', h, rfl, rfl⟩
theorem pw_six (h : PW U0 y App Fin q4 true false q7 x21 x22 w') : q4 = true ∧ ∃ W1, Below U0.heap.size U0 W1 ∧ w' = W1.alloc (.cells #[.string y] 9) ∧ x21 = .slice (some ⟨W1.heap.size, 0, none⟩) 1 1 := by
  cases q4 <;> cases q7 <;> simp only [PW] at h
  exact ⟨rfl, h⟩
theorem pw_sixed (h : PW U0 y App Fin true true false q7 x21 x22 w') {v : Value} (k : ∃ W1, Below U0.heap.size U0 W1 ∧ App W1 w2 v) : PW U0 y App Fin true true true q7 x21 v w2 := by
  cases q7 <;> simp only [PW] at h ⊢
  exact k
theorem pw_seven (h : PW U0 y App Fin q4 q5 true false x21 x22 w') : q4 = true ∧ q5 = true ∧ ∃ W1, Below U0.heap.size U0 W1 ∧ App W1 w' x22 := by
  cases q4 <;> cases q5 <;> simp only [PW] at h
  exact ⟨rfl, rfl, h⟩
end

set_option maxRecDepth 100000 in
set_option maxHeartbeats 4000000 in
theorem parts6_any (t : ByteArray) (ht : t.size ≤ 281474976710656) (w : World) :
    Calls Tryd.prog 48 #[.string t] w fun e w' => ∃ (v : Value) (L : List ByteArray), e = .returned (.tuple #[v, .bool (partsP (bl t)).2]) ∧ OwnT w' w.heap.size v L ∧ L.map bl = (partsP (bl t)).1 ∧ Below w.heap.size w w' := by
  have HA := are1_any t ht (w.alloc (.cells #[.string t] 9))
  rw [World.size_alloc] at HA
  have HA := Lib.hid HA
  refine (callsIn_wide (n := 5)).1 ?_
  by_cases hc : checkP (bl t) = 0
  · rw [may_yes hc] at HA
    have hv := part_vis hc
    have hz0 : (vis t).2.2 = 0 := by obtain ⟨T, _, _, _, h⟩ := vis_term hc; rw [h]
    have hcnt := vis_count hc
    have HV := Lib.hid hv
    have HZ := Lib.hid hz0
    clear hv hc hz0
    refine callsIn_of_wp_marks Tryd.func48 rfl trivial ?_ rfl
    simp only [Tryd.ntmps48, List.size_toArray, List.length_cons, List.length_nil, Nat.reduceAdd, Nat.reduceSub, Array.replicate_succ, Array.replicate_zero, List.push_toArray, List.append_toArray, List.nil_append, List.cons_append]
    gi_wp2_with (first | (refine ⟨trivial, ?_⟩; gi_at_call 30; refine (callsIn_wide.2 HA.out).mono ?_; rintro e w1 ⟨rfl, b1⟩; have bT1 : Boxed w1 w.heap.size 9 (.string t) := (b1.block _ (Nat.lt_succ_self _)).trans (Boxed.new w 9 (.string t)); have cT1 := (bT1.alloc (.cells #[.slice none 0 0] 31)).cell) | (refine ⟨trivial, ?_⟩; gi_at_call 31; refine (callsIn_wide.2 (places_in t _)).mono ?_; rintro e w2 ⟨rfl, rfl⟩))
    obtain ⟨W0, hW0⟩ : ∃ W0, (w1.alloc (.cells #[.slice none 0 0] 31)).alloc (.cells #[.string t] 9) = W0 := ⟨_, rfl⟩
    have hb1 := b1.size
    rw [World.size_alloc] at hb1
    have bL : Boxed W0 w1.heap.size 31 (.slice none 0 0) := by rw [← hW0]; exact (Boxed.new w1 _ _).alloc _
    have bP : Boxed W0 (w1.heap.size + 1) 9 (.string t) := by rw [← hW0]; have h := Boxed.new (w1.alloc (.cells #[.slice none 0 0] 31)) 9 (.string t); simpa using h
    have hs1 : w1.heap.size + 1 < W0.heap.size := bP.lt
    have hI : LstI w t w1.heap.size (partL t) [] W0 := by
      refine ⟨⟨_, bL, World.ownsRow_nil _ _ _ _, trivial⟩, ?_, ?_⟩
      · rw [← hW0]; exact (bT1.alloc _).alloc _
      · rw [← hW0]
        exact ((((Below.refl _ w).alloc (Nat.le_refl _) _).trans (b1.mono (Nat.le_succ _))).alloc (by omega) _).alloc (by simp; omega) _
    rw [hW0]
    have hw0 : w.heap.size ≤ W0.heap.size := by omega
    have hBL : w.heap.size + 1 ≤ w1.heap.size := hb1
    have hBL2 : w1.heap.size < W0.heap.size := by omega
    clear hW0 b1 bT1 cT1 hs1 hb1 bL
    generalize w1.heap.size = BL at *
    refine wpIn_places t ht (BL + 1) bP rfl (LstI w t BL (partL t)) (fun _ _ _ => False) (lstI_own w t BL _ _ hw0) (fun c => fun _ _ _ _ h _ _ => h) hI
      (PlAx w.heap.size (fun b x => { tmps := #[.string t, .pointer (some ⟨w.heap.size, 0, none⟩), .slice none 0 0, .bool false, .pointer (some ⟨BL, 0, none⟩), .pointer (some ⟨b, 0, none⟩), .string t, .slice (some ⟨w.heap.size + 1, 0, none⟩) 1 1, .bool true, .bool false, .string t, .func (.func 52) #[] #[.pointer (some ⟨BL + 1, 0, none⟩)], encPl x, undef, undef, undef, undef, undef, undef, undef, undef, undef, undef, undef], defers := [] }))
      (plAx_own _ _ _) ?assign ?body ?done ?stop ?throw
    case assign =>
      intro m l pre x W K hi hK
      have hzr := Lib.hid hK
      clear hK
      unfold encPl cellsPl
      gi_wp2
      exact hzr.out _ _ ((KeepsOthers.alloc _ _).from _) (KeepP.alloc _ _) ((lstI_own w t BL (partL t) W0.heap.size hw0).alloc _ hi) ⟨W.heap.size, hi.2.2.size, World.alloc_heap_new _ _, rfl⟩
    case body =>
      rintro m l pre x a' W hl hi ⟨b, hb, hbx, rfl⟩ hpre
      have hx1 := (place_cells hbx).2.1
      have hok := (vis_any t x pre hpre).1
      rw [bl_length] at hok
      have hle := hcnt _ hpre
      rw [List.length_append, List.length_singleton] at hle
      have hlp := partL_len t pre
      have HC := Lib.hid (fun V => termat_any t x.at_ hok ht V)
      rw [show t.extract x.at_ (x.at_ + (frontP ((bl t).drop x.at_)).1) = ptT t x from rfl] at HC
      have HI := Lib.hid hi
      have HX := Lib.hid hbx
      clear hi hbx hpre
      by_cases hd : x.dep = 2
      · have hq : ((x.dep : Int) == 2) = true := by rw [hd]; rfl
        have HD := Lib.hid hd
        have mixed : Tryd.prog.follows .mixedOrders = true := by kernel_rfl
        clear hd
        gi_wp2
        refine wpIn_region_any mixed ?_
        obtain ⟨U0, hU0⟩ : ∃ U0, ({ W with drawn := W.drawn + 1 } : World) = U0 := ⟨_, rfl⟩
        rw [hU0]
        have hKW : KeepsOthers W U0 := by rw [← hU0]; exact KeepsOthers.drew W
        have hPW : KeepP W U0 := by rw [← hU0]; exact KeepP.of_below (Below.refl _ W).drew
        have hI0 : LstI w t BL (partL t) pre U0 := by
          rw [← hU0]
          exact lstI_own w t BL (partL t) W0.heap.size hw0 pre W W.drew none HI.out (grown_drew6 W) (fun r e => by cases e)
        have bX : U0.heap[b]? = some (.cells (cellsPl x) 56 (0, 0)) := by rw [← hU0]; exact HX.out
        obtain ⟨⟨v, bV, hrow, _⟩, bT, hB⟩ := hI0
        obtain ⟨y, hy⟩ : ∃ y, y = ptT t x := ⟨_, rfl⟩
        rw [← hy] at HC
        have hy2 : partL t (pre ++ [x]) = partL t pre ++ [y] := by rw [partL_yes t pre x HD.out, hy]
        obtain ⟨App, hApp⟩ : ∃ App : World → World → Value → Prop, App = fun W1 w' x22 => OwnT w' (w.heap.size + 1) x22 (partL t pre ++ [y]) ∧ (W1.alloc (.cells #[.string y] 9)).grownBy w' v.ownBlock := ⟨_, rfl⟩
        obtain ⟨Fin, hFin⟩ : ∃ Fin : World → Prop, Fin = fun w' => KeepsFrom W0.heap.size W w' ∧ KeepP W w' ∧ LstI w t BL (partL t) (pre ++ [x]) w' := ⟨_, rfl⟩
        have hUs := hB.size
        have hbL := bV.lt
        have HAPP : Hid (∀ W1, Below U0.heap.size U0 W1 → ∃ v' w2, (Builtin.append_ #[31, 31] 31 #[v, .slice (some ⟨W1.heap.size, 0, none⟩) 1 1]).run Tryd.prog (W1.alloc (.cells #[.string y] 9)) = .ok v' w2 ∧ App W1 w2 v') := Lib.hid (fun W1 hW1 => by
          rw [hApp]
          exact append_run y (ownT_below hrow hW1) (by have := hW1.size; omega) (by omega))
        have HFIN : Hid (∀ W1 w' x22, Below U0.heap.size U0 W1 → App W1 w' x22 → ∃ ao cap, x22 = .slice ao ((partL t pre).length + 1) cap ∧ w'.cell? ⟨BL, 0, none⟩ = some v ∧ w'.frozen? ⟨BL, 0, none⟩ = false ∧ Fin (w'.setCell ⟨BL, 0, none⟩ x22)) := Lib.hid (fun W1 w' x22 hW1 ha => by
          rw [hApp] at ha
          obtain ⟨hown', hgrow⟩ := ha
          obtain ⟨a1, a2, a3, a4, a5, a6⟩ := append_stored (boxed_below bV hW1) (ownT_below hrow hW1) (by have := hW1.size; omega) hBL hown' hgrow
          obtain ⟨ao, cap, he, _⟩ := ownT_row hown'
          refine ⟨ao, cap, by rw [he]; simp, a1.cell, a1.frozen, ?_⟩
          rw [hFin]
          refine ⟨((hKW.trans (keepsOthers_below hW1)).trans a4).from _, (hPW.trans (KeepP.of_below hW1)).trans a6, ⟨x22, a2, by rw [hy2]; exact a3, trivial⟩, ?_, ?_⟩
          · exact (a5.block _ (Nat.lt_succ_self _)).trans (boxed_below bT hW1)
          · exact (below_step hB hW1).trans (a5.mono (Nat.le_succ _)))
        have HFW : Hid (∀ w', Fin w' → KeepsFrom W0.heap.size W w' ∧ KeepP W w' ∧ LstI w t BL (partL t) (pre ++ [x]) w') := Lib.hid (fun w' h => by rw [hFin] at h; exact h)
        clear hApp hFin hy hy2 hU0 hKW hPW hrow hB HI HX
        refine wpAnyIn_inv (fun listed a' w' => ∃ q0 q1 q2 q3 q4 q5 q6 q7 : Bool, ∃ x16 x17 x18 x19 x20 x21 x22 : Value, listed = #[q0, q1, q2, q3, q4, q5, q6, q7] ∧ a' = { tmps := #[.string t, .pointer (some ⟨w.heap.size, 0, none⟩), .slice none 0 0, .bool false, .pointer (some ⟨BL, 0, none⟩), .pointer (some ⟨b, 0, none⟩), .string t, .slice (some ⟨w.heap.size + 1, 0, none⟩) 1 1, .bool true, .bool false, .string t, .func (.func 52) #[] #[.pointer (some ⟨BL + 1, 0, none⟩)], encPl x, .pointer (some ⟨b, 1, none⟩), .int .i64 x.dep, .bool true, x16, x17, x18, x19, x20, x21, x22, undef], defers := [] } ∧ ((q0 = true → x16 = v) ∧ (q1 = true → x17 = .string t) ∧ (q2 = true → x18 = .pointer (some ⟨b, 0, none⟩)) ∧ (q3 = true → x19 = .int .i64 x.at_) ∧ (q4 = true → x20 = .string y)) ∧ PW U0 y App Fin q4 q5 q6 q7 x21 x22 w' ∧ (q4 = true → q1 = true ∧ q3 = true) ∧ (q6 = true → q0 = true)) ?_ ?_ _ _ _ _ (by decide) ?_
        · intro listed a' w' i hI hi
          obtain ⟨q0, q1, q2, q3, q4, q5, q6, q7, x16, x17, x18, x19, x20, x21, x22, rfl, rfl, ⟨h0, h1, h2, h3, h4⟩, hw, c1, c2⟩ := hI
          have hun := (mem_ready.1 hi).1
          rcases i with _ | _ | _ | _ | _ | _ | _ | _ | i
          · have e0 : q0 = false := hun
            have f6 : q6 = false := by cases q6 with | false => rfl | true => exact absurd (c2 rfl) (by simp [e0])
            subst f6
            have hbx2 := boxed_below bV (pw_below hw)
            have hc := hbx2.cell
            refine wpOpIn_want rfl rfl (fun K hK => ?_)
            have H := Lib.hid (And.intro h0 (And.intro h1 (And.intro h2 (And.intro h3 (And.intro h4 (And.intro hw (And.intro c1 c2)))))))
            clear h0 h1 h2 h3 h4 hw c1 c2
            clear hbx2
            go_simp
            obtain ⟨h0, h1, h2, h3, h4, hw, c1, c2⟩ := H.out
            exact hK _ _ ⟨true, q1, q2, q3, q4, q5, false, q7, v, x17, x18, x19, x20, x21, x22, rfl, rfl, ⟨fun _ => rfl, h1, h2, h3, h4⟩, hw, c1, fun _ => rfl⟩
          · have e1 : q1 = false := hun
            have f4 : q4 = false := by cases q4 with | false => rfl | true => exact absurd (c1 rfl).1 (by simp [e1])
            subst f4
            obtain rfl := (pw_u0 hw).symm
            have hc := bT.cell
            refine wpOpIn_want rfl rfl (fun K hK => ?_)
            have H := Lib.hid (And.intro h0 (And.intro h1 (And.intro h2 (And.intro h3 (And.intro h4 (And.intro hw (And.intro c1 c2)))))))
            clear h0 h1 h2 h3 h4 hw c1 c2
            go_simp
            obtain ⟨h0, h1, h2, h3, h4, hw, c1, c2⟩ := H.out
            exact hK _ _ ⟨q0, true, q2, q3, false, q5, q6, q7, x16, .string t, x18, x19, x20, x21, x22, rfl, rfl, ⟨h0, fun _ => rfl, h2, h3, h4⟩, hw, fun h => (by cases h), c2⟩
          · have e2 : q2 = false := hun
            refine wpOpIn_want rfl rfl (fun K hK => ?_)
            have H := Lib.hid (And.intro h0 (And.intro h1 (And.intro h2 (And.intro h3 (And.intro h4 (And.intro hw (And.intro c1 c2)))))))
            clear h0 h1 h2 h3 h4 hw c1 c2
            go_simp
            obtain ⟨h0, h1, h2, h3, h4, hw, c1, c2⟩ := H.out
            exact hK _ _ ⟨q0, q1, true, q3, q4, q5, q6, q7, x16, x17, .pointer (some ⟨b, 0, none⟩), x19, x20, x21, x22, rfl, rfl, ⟨h0, h1, fun _ => rfl, h3, h4⟩, hw, c1, c2⟩
          · have e3 : q3 = false := hun
            have d2 : q2 = true := dep hi rfl ⟨2, .data⟩ (by simp) rfl
            obtain rfl := (h2 d2).symm
            have f4 : q4 = false := by cases q4 with | false => rfl | true => exact absurd (c1 rfl).2 (by simp [e3])
            subst f4
            obtain rfl := (pw_u0 hw).symm
            have hc := (place_cells bX).1
            refine wpOpIn_want rfl rfl (fun K hK => ?_)
            have H := Lib.hid (And.intro h0 (And.intro h1 (And.intro h2 (And.intro h3 (And.intro h4 (And.intro hw (And.intro c1 c2)))))))
            clear h0 h1 h2 h3 h4 hw c1 c2
            go_simp
            obtain ⟨h0, h1, h2, h3, h4, hw, c1, c2⟩ := H.out
            exact hK _ _ ⟨q0, q1, q2, true, false, q5, q6, q7, x16, x17, .pointer (some ⟨b, 0, none⟩), .int .i64 x.at_, x20, x21, x22, rfl, rfl, ⟨h0, h1, h2, fun _ => rfl, h4⟩, hw, fun h => (by cases h), c2⟩
          · have e4 : q4 = false := hun
            have d1 : q1 = true := dep hi rfl ⟨1, .data⟩ (by simp) rfl
            have d3 : q3 = true := dep hi rfl ⟨3, .data⟩ (by simp) rfl
            obtain rfl := (h1 d1).symm
            obtain rfl := (h3 d3).symm
            subst e4
            obtain rfl := (pw_u0 hw).symm
            refine wpOpIn_want rfl rfl (fun K hK => ?_)
            have H := Lib.hid (And.intro h0 (And.intro h1 (And.intro h2 (And.intro h3 (And.intro h4 (And.intro hw (And.intro c1 c2)))))))
            clear h0 h1 h2 h3 h4 hw c1 c2
            go_simp
            refine ⟨trivial, hdd _, ?_⟩
            refine (callsIn_wide.2 (HC.out _)).mono ?_
            rintro e w2 ⟨rfl, b2⟩
            obtain ⟨h0, h1, h2, h3, h4, hw, c1, c2⟩ := H.out
            exact hK _ _ ⟨q0, q1, q2, q3, true, q5, q6, q7, x16, .string t, x18, .int .i64 x.at_, .string y, x21, x22, rfl, rfl, ⟨h0, h1, h2, h3, fun _ => rfl⟩, pw_four hw b2, fun _ => ⟨d1, d3⟩, c2⟩
          · have e5 : q5 = false := hun
            have d4 : q4 = true := dep hi rfl ⟨4, .data⟩ (by simp) rfl
            obtain rfl := (h4 d4).symm
            subst d4
            subst e5
            refine wpOpIn_want rfl rfl (fun K hK => ?_)
            have H := Lib.hid (And.intro h0 (And.intro h1 (And.intro h2 (And.intro h3 (And.intro h4 (And.intro hw (And.intro c1 c2)))))))
            clear h0 h1 h2 h3 h4 hw c1 c2
            go_simp
            obtain ⟨h0, h1, h2, h3, h4, hw, c1, c2⟩ := H.out
            exact hK _ _ ⟨q0, q1, q2, q3, true, true, q6, q7, x16, x17, x18, x19, .string y, .slice (some ⟨w'.heap.size, 0, none⟩) 1 1, x22, rfl, rfl, ⟨h0, h1, h2, h3, h4⟩, pw_five hw, c1, c2⟩
          · have e6 : q6 = false := hun
            have d0 : q0 = true := dep hi rfl ⟨0, .data⟩ (by simp) rfl
            have d5 : q5 = true := dep hi rfl ⟨5, .data⟩ (by simp) rfl
            obtain rfl := (h0 d0).symm
            subst d5
            subst e6
            obtain ⟨rfl, W1, hW1, rfl, rfl⟩ := pw_six hw
            obtain ⟨v', w2, hrun, happ⟩ := HAPP.out W1 hW1
            exact wpOpIn_append rfl rfl (.tmp 16) (.tmp 21) 31 rfl rfl rfl hrun ⟨q0, q1, q2, q3, true, true, true, q7, v, x17, x18, x19, x20, _, v', rfl, rfl, ⟨fun _ => rfl, h1, h2, h3, h4⟩, pw_sixed hw ⟨W1, hW1, happ⟩, c1, fun _ => d0⟩
          · have e7 : q7 = false := hun
            have d6 : q6 = true := dep hi rfl ⟨6, .data⟩ (by simp) rfl
            subst d6
            subst e7
            obtain ⟨rfl, rfl, W1, hW1, happ⟩ := pw_seven hw
            obtain ⟨ao, cap, rfl, hcb, hfb, hfin⟩ := HFIN.out W1 w' x22 hW1 happ
            refine wpOpIn_want rfl rfl (fun K hK => ?_)
            have H := Lib.hid (And.intro h0 (And.intro h1 (And.intro h2 (And.intro h3 (And.intro h4 (And.intro hw (And.intro c1 c2)))))))
            clear h0 h1 h2 h3 h4 hw c1 c2
            go_simp
            obtain ⟨h0, h1, h2, h3, h4, hw, c1, c2⟩ := H.out
            exact hK _ _ ⟨q0, q1, q2, q3, true, true, true, true, x16, x17, x18, x19, x20, x21, _, rfl, rfl, ⟨h0, h1, h2, h3, h4⟩, hfin, c1, c2⟩
          · exact absurd (mem_ready.1 hi).2 (by rintro ⟨o, ho, _⟩; simp at ho)
        · rintro listed a' w' ⟨q0, q1, q2, q3, q4, q5, q6, q7, x16, x17, x18, x19, x20, x21, x22, rfl, rfl, _, hw, _, _⟩ hr
          have hall := fun i (hi : i < 8) => all_listed (by kernel_rfl) rfl hr 8 i hi hi
          obtain rfl : q4 = true := hall 4 (by decide)
          obtain rfl : q5 = true := hall 5 (by decide)
          obtain rfl : q6 = true := hall 6 (by decide)
          obtain rfl : q7 = true := hall 7 (by decide)
          exact HFW.out _ hw
        · exact ⟨false, false, false, false, false, false, false, false, undef, undef, undef, undef, undef, undef, undef, rfl, rfl, by simp, rfl, by simp, by simp⟩
      · have hq : ((x.dep : Int) == 2) = false := by rw [beq_eq_false_iff_ne]; omega
        have HD := Lib.hid hd
        clear hd
        gi_wp2
        obtain ⟨h1, h2, h3⟩ := HI.out
        refine ⟨KeepsFrom.refl _ _, KeepP.refl _, ?_, h2, h3⟩
        rw [partL_no t pre x HD.out]
        exact h1
    case done =>
      rintro D W hD _ ⟨⟨v, hb, hrow, _⟩, hbt, hbw⟩ hK
      have hc := hb.cell
      obtain ⟨ao, cap, rfl, _⟩ := ownT_row (show OwnT W (w.heap.size + 1) v (partL t (vis t).1) from hrow)
      have HR := Lib.hid hrow
      clear hb hbt hrow
      gi_wp2
      exact leave_mark hK (results_tmp2 rfl _ _ _) ⟨_, _, by rw [HV.out]; rfl, ownT_low (ownsRow_putObj HR.out _ hK rfl) (Nat.le_succ _), by rw [HV.out], below_mark hbw (by omega) hK _⟩
    case stop =>
      rintro D c pre W hD hq h hK
      exact h.elim
    case throw =>
      rintro D W hD hz hi hK
      exact absurd HZ.out hz
  · rw [may_no hc] at HA
    have H1 : Hid (partsP (bl t) = ([], false)) := Lib.hid (by unfold partsP; rw [treeOf_none hc])
    rw [H1.out]
    clear hc
    refine callsIn_of_wp_marks Tryd.func48 rfl trivial ?_ rfl
    simp only [Tryd.ntmps48, List.size_toArray, List.length_cons, List.length_nil, Nat.reduceAdd, Nat.reduceSub, Array.replicate_succ, Array.replicate_zero, List.push_toArray, List.append_toArray, List.nil_append, List.cons_append]
    gi_wp2_with (refine ⟨trivial, ?_⟩; gi_at_call 30; refine (callsIn_wide.2 HA.out).mono ?_; rintro e w1 ⟨rfl, b1⟩)
    exact ⟨_, results_tmp2 rfl _ _ _, _, [], rfl, ownT_nil _ _, rfl, ((Below.refl _ w).alloc (Nat.le_refl _) _).trans (b1.mono (Nat.le_succ _))⟩
end Go.Proofs.YtiehhlolhhjgpaaDoor.Pl

namespace Go.Proofs.YtiehhlolhhjgpaaDoor.Pl
open Go.RowKit

def nameList : List UInt8 := [97, 98, 99, 100, 101, 102, 103, 104, 105, 106, 107, 108, 109, 110, 111, 112, 113, 114, 115, 116, 117, 118, 119, 120, 121, 122, 48, 49, 50, 51, 52, 53, 54, 55, 56, 57, 47, 46, 45]
def hexList : List UInt8 := [48, 49, 50, 51, 52, 53, 54, 55, 56, 57, 97, 98, 99, 100, 101, 102]
theorem all_bytes {p q : UInt8 → Bool} (h : (List.range 256).all (fun n => p n.toUInt8 == q n.toUInt8) = true) (b : UInt8) : p b = q b := by
  have := List.all_eq_true.1 h b.toNat (List.mem_range.2 b.toNat_lt)
  have e : b.toNat.toUInt8 = b := by simp
  rw [e] at this
  exact eq_of_beq this
theorem name_list (b : UInt8) : nameB b = (bl ⟨nameList.toArray⟩).any (fun c => decide (c = b)) := all_bytes (q := fun b => (bl ⟨nameList.toArray⟩).any (fun c => decide (c = b))) (by kernel_rfl) b
theorem hex_list (b : UInt8) : hexB b = (bl ⟨hexList.toArray⟩).any (fun c => decide (c = b)) := all_bytes (q := fun b => (bl ⟨hexList.toArray⟩).any (fun c => decide (c = b))) (by kernel_rfl) b
theorem rslice_to (x : ByteArray) (b : Nat) (h2 : b ≤ x.size) (V : World) : (Instr.sliceAt 9 (.string x) none (some (.int .i64 (b : Int))) none).run Tryd.prog V = .ok (.string (x.extract 0 b)) V := by
  have h0 : (0 : Int) ≤ (b : Int) := by omega
  have h1 : (b : Int) ≤ (x.size : Int) := by omega
  go_simp

theorem notq_iff (c : UInt8) : ((c.toNat : Int) != 34) = notQ c := by
  unfold notQ
  by_cases h : c = 34
  · subst h; rfl
  · rw [decide_eq_true h, bne_iff_ne]; intro k; exact h (UInt8.toNat_inj.1 (by exact_mod_cast k))
end Go.Proofs.YtiehhlolhhjgpaaDoor.Pl

namespace Go.Proofs.YtiehhlolhhjgpaaDoor.Pl
open Go.RowKit

theorem unhex_take : ∀ (l : List UInt8) (j : Nat), 2 * j + 1 < l.length → (unhex l).take (j + 1) = (unhex l).take j ++ [(hexV (l.getD (2 * j) 0) * 16 + hexV (l.getD (2 * j + 1) 0)).toUInt8]
  | [], j, h => by simp at h
  | [a], j, h => by simp at h
  | a :: b :: r, 0, h => by simp [unhex]
  | a :: b :: r, j + 1, h => by
    simp only [List.length_cons] at h
    have ih := unhex_take r j (by omega)
    rw [unhex, List.take_succ_cons, List.take_succ_cons, ih]
    have e1 : (a :: b :: r).getD (2 * (j + 1)) 0 = r.getD (2 * j) 0 := by rw [show 2 * (j + 1) = 2 * j + 1 + 1 from by omega, List.getD_cons_succ, List.getD_cons_succ]
    have e2 : (a :: b :: r).getD (2 * (j + 1) + 1) 0 = r.getD (2 * j + 1) 0 := by rw [show 2 * (j + 1) + 1 = (2 * j + 1) + 1 + 1 from by omega, List.getD_cons_succ, List.getD_cons_succ]
    rw [e1, e2]; rfl
/-- string([]byte{a}). -/
theorem convert1 (a : UInt8) (V : World) : (convert 84 9 (.slice (some ⟨V.heap.size, 0, none⟩) 1 1)).run Tryd.prog ((V.alloc (.cells #[.int .u8 (a.toNat : Int)] 5)).drew) = .ok (.string ⟨#[a]⟩) ((V.alloc (.cells #[.int .u8 (a.toNat : Int)] 5)).drew) :=
  run_convert_bytes_back (P := Tryd.prog) _ 84 9 5 ⟨V.heap.size, 0, none⟩ 1 [a] Tryd.underlying84 Tryd.underlying5 Tryd.underlying9 (fun j hj => by
    have h : ∀ k, (World.drew (V.alloc (.cells #[.int .u8 (a.toNat : Int)] 5))).cell? ⟨V.heap.size, k, none⟩ = (V.alloc (.cells #[.int .u8 (a.toNat : Int)] 5)).cell? ⟨V.heap.size, k, none⟩ := fun _ => rfl
    match j, hj with
    | 0, _ => rw [show (⟨V.heap.size, 0, none⟩ : Addr).add 0 = ⟨V.heap.size, 0, none⟩ from rfl, h]; simp)
theorem cat_one (l : List UInt8) (j : Nat) (h : 2 * j + 1 < l.length) (u : UInt8) (hu : u = (hexV (l.getD (2 * j) 0) * 16 + hexV (l.getD (2 * j + 1) 0)).toUInt8) : (⟨((unhex l).take j).toArray⟩ : ByteArray) ++ ⟨#[u]⟩ = ⟨((unhex l).take (j + 1)).toArray⟩ := by
  rw [unhex_take l j h, ← hu]
  generalize (unhex l).take j = X
  apply bl_inj
  rw [cat_bytes, bl_mk X, bl_mk (X ++ [u])]; rfl
theorem getD_take (l : List UInt8) (z k : Nat) (h : k < z) : (l.take z).getD k 0 = l.getD k 0 := by
  rw [List.getD_eq_getElem?_getD, List.getD_eq_getElem?_getD, List.getElem?_take_of_lt h]
theorem wrap64 {x : Int} (h0 : -9223372036854775808 ≤ x) (h1 : x ≤ 9223372036854775807) : IntKind.i64.wrap x = x := by
  exact IntWalk.i64_in _ (by omega)
end Go.Proofs.YtiehhlolhhjgpaaDoor.Pl

namespace Go.Proofs.YtiehhlolhhjgpaaDoor.Pl
open Go.RowKit

open Classical in
noncomputable def onceF (out : List ByteArray) (x : ByteArray) : List ByteArray := if x ∈ out then out else out ++ [x]
noncomputable def onceT (l : List ByteArray) : List ByteArray := l.foldl onceF []
theorem mem_bl {x : ByteArray} {l : List ByteArray} : bl x ∈ l.map bl ↔ x ∈ l := by
  rw [List.mem_map]
  constructor
  · rintro ⟨y, hy, e⟩
    rw [← bl_inj e]; exact hy
  · intro h
    exact ⟨x, h, rfl⟩
theorem once_map_from (l acc : List ByteArray) : (l.foldl onceF acc).map bl = (l.map bl).foldl (fun out x => if x ∈ out then out else out ++ [x]) (acc.map bl) := by
  induction l generalizing acc with
  | nil => rfl
  | cons x l ih =>
    rw [List.map_cons, List.foldl_cons, List.foldl_cons, ih]
    congr 1
    unfold onceF
    by_cases h : x ∈ acc
    · rw [if_pos h, if_pos (mem_bl.2 h)]
    · rw [if_neg h, if_neg (fun k => h (mem_bl.1 k)), List.map_append]; rfl
theorem once_map (l : List ByteArray) : (onceT l).map bl = onceL (l.map bl) := once_map_from l []
theorem once_len_from (l acc : List ByteArray) : (l.foldl onceF acc).length ≤ acc.length + l.length := by
  induction l generalizing acc with
  | nil => simp
  | cons x l ih =>
    rw [List.foldl_cons]
    have h := ih (onceF acc x)
    have h2 : (onceF acc x).length ≤ acc.length + 1 := by
      unfold onceF
      by_cases h : x ∈ acc
      · rw [if_pos h]; omega
      · rw [if_neg h, List.length_append, List.length_singleton]; omega
    rw [List.length_cons]
    omega
theorem once_len (l : List ByteArray) : (onceT l).length ≤ l.length := by have := once_len_from l []; simp at this; exact this
theorem once_take (l : List ByteArray) (k : Nat) (h : k < l.length) : onceT (l.take (k + 1)) = onceF (onceT (l.take k)) (l.getD k ByteArray.empty) := by
  unfold onceT
  rw [List.take_succ_eq_append_getElem h, List.foldl_append, List.foldl_cons, List.foldl_nil]
  simp [List.getD_eq_getElem?_getD, h]
theorem onceF_yes {o : List ByteArray} {x : ByteArray} (h : x ∈ o) : onceF o x = o := if_pos h
theorem onceF_no {o : List ByteArray} {x : ByteArray} (h : ¬ x ∈ o) : onceF o x = o ++ [x] := if_neg h

end Go.Proofs.YtiehhlolhhjgpaaDoor.Pl

namespace Go.Proofs.YtiehhlolhhjgpaaDoor.Pl
open Go.RowKit Go.Shelf
open Go.Maps (Keyed IsMap)
attribute [local go_sem] Oper.semAt_some

theorem keyed9 : Keyed Tryd.prog 9 := Maps.string_keyed Tryd.underlying9
theorem key9 (y : ByteArray) (h : y.size ≤ 281474976710656) : keyOf Tryd.prog 9 (.string y) = some (.string y.data.toList) := WideMaps.keyOf_string_mk Tryd.underlying9 (by unfold maxLen; omega)
theorem zero85 (w : World) : (zeroValue 41).run Tryd.prog w = .ok (.agg #[]) w := by kernel_rfl
/-- A set of texts. -/
def setF (D : DataW Nat) (y : ByteArray) : DataW Nat := D.put (.string y.data.toList) (.agg [])
def setD (l : List ByteArray) : DataW Nat := l.foldl setF (.map [])
theorem setF_map {D : DataW Nat} (h : IsMap D) (y : ByteArray) : IsMap (setF D y) := by
  obtain ⟨es, rfl⟩ := h
  exact ⟨_, rfl⟩
theorem litS_ne {x y : ByteArray} (h : x ≠ y) : Lit.string x.data.toList ≠ Lit.string y.data.toList := fun e => h (by
  injection e with e
  exact bl_inj e)
theorem has_setF (y : ByteArray) : ∀ (l : List ByteArray) (D : DataW Nat), IsMap D → (Maps.has (l.foldl setF D) (.string y.data.toList) = true ↔ Maps.has D (.string y.data.toList) = true ∨ y ∈ l)
  | [], D, _ => by simp
  | x :: l, D, hD => by
    rw [List.foldl_cons, has_setF y l _ (setF_map hD x)]
    by_cases e : y = x
    · subst e
      have h1 : Maps.has (setF D y) (.string y.data.toList) = true := Maps.has_put_same hD (show WideAt.IsKeyLit (.string y.data.toList) from trivial) _
      simp [h1]
    · have h1 : Maps.has (setF D x) (.string y.data.toList) = Maps.has D (.string y.data.toList) := Maps.has_put_other (litS_ne e) _
      rw [h1]
      simp [e]
theorem has_setD (l : List ByteArray) (y : ByteArray) : Maps.has (setD l) (.string y.data.toList) = true ↔ y ∈ l := by
  unfold setD
  rw [has_setF y l _ ⟨[], rfl⟩]
  simp [Maps.has]
theorem setD_snoc (l : List ByteArray) (y : ByteArray) : setD (l ++ [y]) = (setD l).put (.string y.data.toList) (.agg []) := by
  unfold setD
  rw [List.foldl_append]
  rfl

/-- What has come up, each once. -/
noncomputable def subL (s : ByteArray) (pre : List Pl6) : List ByteArray := onceT (pre.map (ptT s))
theorem subL_snoc (s : ByteArray) (pre : List Pl6) (x : Pl6) : subL s (pre ++ [x]) = onceF (subL s pre) (ptT s x) := by
  unfold subL onceT
  rw [List.map_append, List.foldl_append]
  rfl
theorem subL_len (s : ByteArray) (pre : List Pl6) : (subL s pre).length ≤ pre.length := by
  have := once_len (pre.map (ptT s))
  rw [List.length_map] at this
  exact this
theorem sub_vis {s : ByteArray} (h : checkP (bl s) = 0) : (subL s (vis s).1).map bl = onceL (placesP (bl s)) := by
  obtain ⟨T, tv, te, tr, hv⟩ := vis_term h
  unfold subL placesP
  rw [once_map, tr, hv, List.map_map, List.map_map]
  congr 1
  show _ = T.places.map Tm.enc
  rw [← offs_snd T 0 1, List.map_map]
  refine List.map_congr_left fun y hy => ?_
  show bl (ptT s y.1) = y.2.enc
  rw [pt_at tv te hy, bl_tx]
theorem ptT_size (s : ByteArray) (x : Pl6) : (ptT s x).size ≤ s.size := by
  unfold ptT
  rw [size_bl, bl_extract, List.length_drop, List.length_take, bl_length]
  omega

/-- What Subs holds while it goes over the places. -/
def SubI (w : World) (t : ByteArray) (BL : Nat) (pre : List Pl6) (W : World) : Prop :=
  LstI w t BL (subL t) pre W ∧ Boxed W (BL + 1 + 1) 76 (.map (some (BL + 1))) ∧ W.ownsMap Tryd.prog 9 unitElem (BL + 1) (subL t pre).length (setD (subL t pre))
theorem subI_own (w : World) (t : ByteArray) (BL : Nat) (B : Nat) (h : w.heap.size ≤ B) (h2 : BL + 1 < B) : OwnFrom B (SubI w t BL) :=
  OwnFrom.and (lstI_own w t BL _ B h) (OwnFrom.and (Own.from (boxed_own _ _ _) _) (fun _ _ _ row hs hg hr => hs.kept hg (fun e => by have := (hr _ e.symm).1; omega)))

theorem one_row (W : World) (y : ByteArray) : ∀ (j : Nat) (u : Value), [Value.string y][j]? = some u → (W.alloc (.cells #[.string y] 9)).cell? ((⟨W.heap.size, 0, none⟩ : Addr).add j) = some u := by
  intro j u hu
  cases j with
  | zero =>
    have hu' : Value.string y = u := by simpa using hu
    subst hu'
    exact (Boxed.new W 9 (.string y)).cell
  | succ j => simp at hu
theorem own_ne_map {W : World} {n₀ k n : Nat} {v : Value} {l : List ByteArray} {D : DataW Nat} (h : OwnT W n₀ v l) (hm : W.ownsMap Tryd.prog 9 unitElem k n D) : some k ≠ v.ownBlock := by
  obtain ⟨es, clock, hb, _⟩ := hm
  rcases h.2 with ⟨rfl, _⟩ | ⟨g, cap, cur, rfl, _, hgb, _⟩
  · simp [Value.ownBlock]
  · intro e
    obtain rfl : k = g := by simpa [Value.ownBlock] using e
    rw [hgb] at hb; cases hb
theorem one_cell (y : ByteArray) : ∀ u ∈ [Value.string y], u.oneCell' = true := by
  intro u hu
  have : u = Value.string y := by simpa using hu
  rw [this]; rfl
/-- What a store into the map leaves. -/
theorem sub_updated {w W3 W4 : World} {t : ByteArray} {BL : Nat} {v : Value} {l : List ByteArray} {n : Nat} {D : DataW Nat} (hm : W3.ownsMap Tryd.prog 9 unitElem (BL + 1) n D) (hv : Boxed W3 BL 31 v) (hrow : OwnT W3 (w.heap.size + 1) v l) (hbt : Boxed W3 w.heap.size 9 (.string t)) (hbw : Below w.heap.size w W3)
    (hbm : Boxed W3 (BL + 1 + 1) 76 (.map (some (BL + 1)))) (hg : W3.grownBy W4 (some (BL + 1))) (hBL : w.heap.size + 1 ≤ BL) :
    Boxed W4 BL 31 v ∧ OwnT W4 (w.heap.size + 1) v l ∧ Boxed W4 w.heap.size 9 (.string t) ∧ Below w.heap.size w W4 ∧ Boxed W4 (BL + 1 + 1) 76 (.map (some (BL + 1))) ∧ KeepP W3 W4 := by
  obtain ⟨es, clock, hb, _⟩ := hm
  refine ⟨hv.kept hg (by simp), World.ownsRow.kept hrow hg ?_, hbt.kept hg (by simp; omega), hbw.grown hg hbw.size (fun k e => by cases e; omega), hbm.kept hg (by simp), hg.size, fun b cs hc => ?_⟩
  · rcases hrow.2 with ⟨rfl, _⟩ | ⟨g, cap, cur, rfl, _, hgb, _⟩
    · exact .inl rfl
    · refine .inr (fun e => ?_)
      obtain rfl : g = BL + 1 := by simpa [Value.ownBlock] using e
      rw [hgb] at hb; cases hb
  · refine (hg.block b (Array.getElem?_eq_some_iff.1 hc).1 (fun e => ?_)).trans hc
    obtain rfl : b = BL + 1 := by simpa using e
    rw [hc] at hb; cases hb

set_option maxRecDepth 100000 in
set_option maxHeartbeats 4000000 in
theorem subs6_any (t : ByteArray) (ht : t.size ≤ 281474976710656) (w : World) :
    Calls Tryd.prog 27 #[.string t] w fun e w' => ∃ (v : Value) (L : List ByteArray), e = .returned v ∧ OwnT w' w.heap.size v L ∧ L.map bl = onceL (placesP (bl t)) ∧ Below w.heap.size w w' := by
  have HA := are1_any t ht (w.alloc (.cells #[.string t] 9))
  rw [World.size_alloc] at HA
  have HA := Lib.hid HA
  refine (callsIn_wide (n := 5)).1 ?_
  by_cases hc : checkP (bl t) = 0
  · rw [may_yes hc] at HA
    have hv := sub_vis hc
    have hz0 : (vis t).2.2 = 0 := by obtain ⟨T, _, _, _, h⟩ := vis_term hc; rw [h]
    have hcnt := vis_count hc
    have HV := Lib.hid hv
    have HZ := Lib.hid hz0
    clear hv hc hz0
    refine callsIn_of_wp_marks Tryd.func27 rfl trivial ?_ rfl
    have hmm := @run_makeMap Tryd.prog
    simp only [Tryd.ntmps27, List.size_toArray, List.length_cons, List.length_nil, Nat.reduceAdd, Nat.reduceSub, Array.replicate_succ, Array.replicate_zero, List.push_toArray, List.append_toArray, List.nil_append, List.cons_append]
    gi_wp2_with (first | (refine ⟨trivial, ?_⟩; gi_at_call 30; refine (callsIn_wide.2 HA.out).mono ?_; rintro e w1 ⟨rfl, b1⟩; have bT1 : Boxed w1 w.heap.size 9 (.string t) := (b1.block _ (Nat.lt_succ_self _)).trans (Boxed.new w 9 (.string t)); have cT1 := (((bT1.alloc (.cells #[.slice none 0 0] 31)).alloc (.map #[] 0)).alloc (.cells #[.map (some (w1.heap.size + 1))] 76)).cell) | (refine ⟨trivial, ?_⟩; gi_at_call 31; refine (callsIn_wide.2 (places_in t _)).mono ?_; rintro e w2 ⟨rfl, rfl⟩))
    obtain ⟨W0, hW0⟩ : ∃ W0, (((w1.alloc (.cells #[.slice none 0 0] 31)).alloc (.map #[] 0)).alloc (.cells #[.map (some (w1.heap.size + 1))] 76)).alloc (.cells #[.string t] 9) = W0 := ⟨_, rfl⟩
    have hb1 := b1.size
    rw [World.size_alloc] at hb1
    have bL : Boxed W0 w1.heap.size 31 (.slice none 0 0) := by rw [← hW0]; exact (((Boxed.new w1 _ _).alloc _).alloc _).alloc _
    have bM : Boxed W0 (w1.heap.size + 1 + 1) 76 (.map (some (w1.heap.size + 1))) := by
      rw [← hW0]
      have h := (Boxed.new ((w1.alloc (.cells #[.slice none 0 0] 31)).alloc (.map #[] 0)) 76 (.map (some (w1.heap.size + 1)))).alloc (.cells #[.string t] 9)
      simpa using h
    have bP : Boxed W0 (w1.heap.size + 1 + 1 + 1) 9 (.string t) := by
      rw [← hW0]
      have h := Boxed.new (((w1.alloc (.cells #[.slice none 0 0] 31)).alloc (.map #[] 0)).alloc (.cells #[.map (some (w1.heap.size + 1))] 76)) 9 (.string t)
      simpa using h
    have hs1 : w1.heap.size + 1 + 1 + 1 < W0.heap.size := bP.lt
    have hM : W0.ownsMap (H := Nat) Tryd.prog 9 unitElem (w1.heap.size + 1) 0 (.map []) := by
      rw [← hW0]
      have h := ((World.ownsMap_made (H := Nat) (w1.alloc (.cells #[.slice none 0 0] 31)) Tryd.prog 9 unitElem).alloc (.cells #[.map (some (w1.heap.size + 1))] 76)).alloc (.cells #[.string t] 9)
      simpa using h
    have hI : SubI w t w1.heap.size [] W0 := by
      refine ⟨⟨⟨_, bL, World.ownsRow_nil _ _ _ _, trivial⟩, ?_, ?_⟩, bM, hM⟩
      · rw [← hW0]; exact (((bT1.alloc _).alloc _).alloc _).alloc _
      · rw [← hW0]
        exact ((((((Below.refl _ w).alloc (Nat.le_refl _) _).trans (b1.mono (Nat.le_succ _))).alloc (by omega) _).alloc (by simp; omega) _).alloc (by simp; omega) _).alloc (by simp; omega) _
    rw [hW0]
    have hw0 : w.heap.size ≤ W0.heap.size := by omega
    have hBL : w.heap.size + 1 ≤ w1.heap.size := hb1
    have hBL2 : w1.heap.size + 1 < W0.heap.size := by omega
    clear hW0 b1 bT1 cT1 hs1 hb1 bL bM hM
    generalize w1.heap.size = BL at *
    refine wpIn_places t ht (BL + 1 + 1 + 1) bP rfl (SubI w t BL) (fun _ _ _ => False) (subI_own w t BL _ hw0 hBL2) (fun c => fun _ _ _ _ h _ _ => h) hI
      (PlAx w.heap.size (fun b x => { tmps := #[.string t, .pointer (some ⟨w.heap.size, 0, none⟩), .slice none 0 0, .pointer (some ⟨BL, 0, none⟩), .pointer (some ⟨BL + 1 + 1, 0, none⟩), .pointer (some ⟨b, 0, none⟩), undef, undef, undef, .string t, .slice (some ⟨w.heap.size + 1, 0, none⟩) 1 1, .bool true, .bool false, .map (some (BL + 1)), .string t, .func (.func 52) #[] #[.pointer (some ⟨BL + 1 + 1 + 1, 0, none⟩)], encPl x, undef, undef, undef, undef, undef, undef, undef, undef, undef, undef, undef, undef, undef, undef, undef, undef, undef, undef, undef, undef], defers := [] }))
      (plAx_own _ _ _) ?assign ?body ?done ?stop ?throw
    case assign =>
      intro m l pre x W K hi hK
      have hzr := Lib.hid hK
      clear hK
      unfold encPl cellsPl
      gi_wp2
      exact hzr.out _ _ ((KeepsOthers.alloc _ _).from _) (KeepP.alloc _ _) ((subI_own w t BL W0.heap.size hw0 hBL2).alloc _ hi) ⟨W.heap.size, hi.1.2.2.size, World.alloc_heap_new _ _, rfl⟩
    case body =>
      rintro m l pre x a' W hl hi ⟨b, hb, hbx, rfl⟩ hpre
      have hx0 := (place_cells hbx).1
      have hok := (vis_any t x pre hpre).1
      rw [bl_length] at hok
      have hle := hcnt _ hpre
      rw [List.length_append, List.length_singleton] at hle
      have hlp := subL_len t pre
      have HC := Lib.hid (fun V => termat_any t x.at_ hok ht V)
      rw [show t.extract x.at_ (x.at_ + (frontP ((bl t).drop x.at_)).1) = ptT t x from rfl] at HC
      have hkey : keyOf Tryd.prog 9 (.string (ptT t x)) = some (.string (ptT t x).data.toList) := key9 _ (Nat.le_trans (ptT_size t x) ht)
      have HN : Hid (subL t (pre ++ [x]) = onceF (subL t pre) (ptT t x)) := Lib.hid (subL_snoc t pre x)
      generalize ptT t x = y at *
      have cT := hi.1.2.1.cell
      have HI := Lib.hid hi
      have HX := Lib.hid hbx
      obtain ⟨i0, hi0, hz0, hz1, hz2⟩ := info_parts infoStr6
      clear hi hbx hpre
      by_cases hm : y ∈ subL t pre
      · have hh : Maps.has (setD (subL t pre)) (.string y.data.toList) = true := (has_setD _ _).2 hm
        have HM := Lib.hid hm
        clear hm
        gi_wp2_with (first | (refine ⟨trivial, hdd _, ?_⟩; gi_at_call 51; refine (callsIn_wide.2 (HC.out _)).mono ?_; rintro e w2 ⟨rfl, b2⟩; have cM2 := (boxed_below HI.out.2.1 b2).cell; have hown2 := HI.out.2.2.kept (row := none) ⟨b2.os, b2.tape, b2.output, b2.size, fun k hk _ => b2.block k hk⟩ (by simp)) | (gi_at_lookup; refine wpListIn_lookup_own_unit _ rfl _ _ 76 rfl 9 41 keyed9 Tryd.underlying76 (zero85 _) (BL + 1) (subL t pre).length (setD (subL t pre)) rfl hown2 _ _ rfl hkey ?_; rw [hh]))
        have h2 := subI_own w t BL W0.heap.size hw0 hBL2 pre W w2 none HI.out ⟨b2.os, b2.tape, b2.output, b2.size, fun k hk _ => b2.block k hk⟩ (fun r e => by cases e)
        have h3 := (subI_own w t BL W0.heap.size hw0 hBL2).alloc (.cells #[] 41) h2
        refine ⟨((keepsOthers_below b2).trans (KeepsOthers.alloc _ _)).from _, (KeepP.of_below b2).trans (KeepP.alloc _ _), ?_⟩
        have he : subL t (pre ++ [x]) = subL t pre := HN.out.trans (onceF_yes HM.out)
        unfold SubI LstI at h3 ⊢
        rw [he]
        exact h3
      · have hh : Maps.has (setD (subL t pre)) (.string y.data.toList) = false := by
          cases e : Maps.has (setD (subL t pre)) (.string y.data.toList) with
          | false => rfl
          | true => exact absurd ((has_setD _ _).1 e) hm
        have HM := Lib.hid hm
        obtain ⟨⟨⟨v, hbv, hrow, _⟩, hbt, hbw⟩, hbm, hown⟩ := HI.out
        have HH := Lib.hid (And.intro hbv (And.intro hrow (And.intro hbt (And.intro hbw (And.intro hbm hown)))))
        clear hm hbv hrow hbt hbw hbm hown
        gi_wp2_with (first | (refine ⟨trivial, hdd _, ?_⟩; gi_at_call 51; refine (callsIn_wide.2 (HC.out _)).mono ?_; rintro e w2 ⟨rfl, b2⟩; have cM2 := (boxed_below HI.out.2.1 b2).cell; have cM3 := ((boxed_below HI.out.2.1 b2).alloc (.cells #[] 41)).cell; have hown2 := HI.out.2.2.kept (row := none) ⟨b2.os, b2.tape, b2.output, b2.size, fun k hk _ => b2.block k hk⟩ (by simp)) | (gi_at_lookup; refine wpListIn_lookup_own_unit _ rfl _ _ 76 rfl 9 41 keyed9 Tryd.underlying76 (zero85 _) (BL + 1) (subL t pre).length (setD (subL t pre)) rfl hown2 _ _ rfl hkey ?_; rw [hh]) | (gi_at_mapUpdate; refine wpListIn_mapUpdate_own _ rfl _ _ _ 76 rfl 9 41 keyed9 Tryd.underlying76 unitElem (BL + 1) (subL t pre).length (setD (subL t pre)) rfl (hown2.alloc _) (by unfold maxLen; omega) _ _ _ rfl rfl hkey (.agg []) [] unitElem_mk ?_; intro w4 hown4 hg4; have hU := (sub_updated (t := t) (hown2.alloc (.cells #[] 41)) ((boxed_below HH.out.1 b2).alloc _) (World.ownsRow.alloc (ownT_below HH.out.2.1 b2) _) ((boxed_below HH.out.2.2.1 b2).alloc _) ((below_step HH.out.2.2.2.1 b2).alloc (Nat.le_trans HH.out.2.2.2.1.size b2.size) _) ((boxed_below HH.out.2.2.2.2.1 b2).alloc _) hg4 hBL); have cV4 := hU.1.cell; have HU := Lib.hid hU; clear hU) | (gi_at_builtin; refine wpListIn_append_own _ rfl _ _ 31 rfl (w.heap.size + 1) 9 i0 (.string ⟨#[]⟩) 1 16 Tryd.underlying31 hi0 hz0 hz1 hz2 rfl (by decide) v (subL t pre).length (txts (subL t pre)) rfl (World.ownsRow.alloc HU.out.2.1 _) ⟨w4.heap.size, 0, none⟩ 1 1 [.string y] rfl rfl (one_row w4 y) (one_cell y) (by unfold maxLen; omega) (by omega) ?_ ?_))
        · rw [World.size_alloc]; have := HU.out.1.lt; omega
        intro v' w5 hown5 hgrow5 _
        obtain ⟨g, cap', rfl⟩ := ownsRow_succ hown5
        obtain ⟨u1, u2, u3, u4, u5, u6⟩ := HU.out
        have hown5' : OwnT w5 (w.heap.size + 1) (.slice (some ⟨g, 0, none⟩) ((subL t pre).length + 1) cap') (subL t pre ++ [y]) := by
          unfold OwnT
          rw [List.length_append, List.length_singleton, show txts (subL t pre ++ [y]) = txts (subL t pre) ++ [.string y] by simp [txts]]
          exact hown5
        obtain ⟨a1, a2, a3, a4, a5, a6⟩ := append_stored u1 u2 (Nat.le_of_lt (Nat.lt_of_le_of_lt hBL (u1.lt))) hBL hown5' hgrow5
        have cA := a1.cell
        have fA := a1.frozen
        have HA5 := Lib.hid (And.intro a2 (And.intro a3 (And.intro a4 (And.intro a5 a6))))
        have HU5 := Lib.hid (And.intro u3 (And.intro u4 (And.intro u5 u6)))
        have HM4 := Lib.hid hown4
        have HG4 := Lib.hid hg4
        have HG5 := Lib.hid hgrow5
        clear hown5 hown5' a1 a2 a3 a4 a5 a6 u1 u2 u3 u4 u5 u6 hown4 hg4 hgrow5
        gi_wp2
        obtain ⟨a2, a3, a4, a5, a6⟩ := HA5.out
        obtain ⟨u3, u4, u5, u6⟩ := HU5.out
        have hne : some (BL + 1) ≠ v.ownBlock := own_ne_map HU.out.2.1 HM4.out
        have h5 : Boxed w5 (BL + 1 + 1) 76 (.map (some (BL + 1))) := (u5.alloc _).kept HG5.out (u5.not_row (by decide) HU.out.2.1)
        have he : subL t (pre ++ [x]) = subL t pre ++ [y] := HN.out.trans (onceF_no HM.out)
        refine ⟨((((keepsOthers_below b2).trans (KeepsOthers.alloc _ _)).from _).trans (KeepsFrom.of_grownBy HG4.out (fun j e => by cases e; exact hBL2))).trans (a4.from _), (((KeepP.of_below b2).trans (KeepP.alloc _ _)).trans u6).trans a6, ?_⟩
        unfold SubI LstI
        rw [he, setD_snoc]
        refine ⟨⟨⟨_, a2, a3, trivial⟩, (a5.block _ (Nat.lt_succ_self _)).trans u3, u4.trans (a5.mono (Nat.le_succ _))⟩, h5.other (by omega) _, ?_⟩
        rw [List.length_append, List.length_singleton]
        exact World.ownsMap.setCell ((HM4.out.alloc _).kept HG5.out hne) (by simp) _
    case done =>
      rintro D W hD _ ⟨⟨⟨v, hb, hrow, _⟩, hbt, hbw⟩, _⟩ hK
      have hc := hb.cell
      obtain ⟨ao, cap, rfl, _⟩ := ownT_row (show OwnT W (w.heap.size + 1) v (subL t (vis t).1) from hrow)
      have HR := Lib.hid hrow
      clear hb hbt hrow
      gi_wp2
      exact leave_mark hK (results_tmp rfl _ _ _) ⟨.slice ao (subL t (vis t).1).length cap, subL t (vis t).1, rfl, ownT_low (ownsRow_putObj HR.out _ hK rfl) (Nat.le_succ _), HV.out, below_mark hbw (by omega) hK _⟩
    case stop =>
      rintro D c pre W hD hq h hK
      exact h.elim
    case throw =>
      rintro D W hD hz hi hK
      exact absurd HZ.out hz
  · rw [may_no hc] at HA
    have H1 : Hid (onceL (placesP (bl t)) = []) := Lib.hid (by unfold placesP; rw [treeOf_none hc]; rfl)
    rw [H1.out]
    clear hc
    refine callsIn_of_wp_marks Tryd.func27 rfl trivial ?_ rfl
    have hmm := @run_makeMap Tryd.prog
    simp only [Tryd.ntmps27, List.size_toArray, List.length_cons, List.length_nil, Nat.reduceAdd, Nat.reduceSub, Array.replicate_succ, Array.replicate_zero, List.push_toArray, List.append_toArray, List.nil_append, List.cons_append]
    gi_wp2_with (refine ⟨trivial, ?_⟩; gi_at_call 30; refine (callsIn_wide.2 HA.out).mono ?_; rintro e w1 ⟨rfl, b1⟩)
    exact ⟨_, results_tmp rfl _ _ _, _, [], rfl, ownT_nil _ _, rfl, ((Below.refl _ w).alloc (Nat.le_refl _) _).trans (b1.mono (Nat.le_succ _))⟩
end Go.Proofs.YtiehhlolhhjgpaaDoor.Pl

namespace Go.Proofs.YtiehhlolhhjgpaaDoor.Pl
open Go.RowKit Go.ChangeShapes Go.WideShapes

/-- Each of these types can be read, and is a row of the table. -/
def typesRowed (P : Program) (ts : List TypeId) : Bool := ts.all fun t => P.readableRec t && decide (t < P.types.size)

theorem trodAll_later {H : Type} {enc : TypeId × Value → H} {P : Program} (hl : laidOutB P = true) {W W' : World} (hb : Below W.heap.size W W') :
    ∀ {ts : List TypeId} {vs : List Value} {ds : List (DataW H)} {ps : List MemPlace}, typesRowed P ts = true →
      DataW.TrodAll enc P W 0 (fun _ => true) true ts vs ds ps → DataW.TrodAll enc P W' 0 (fun b => decide (b < W.heap.size)) true ts vs ds ps
  | [], [], [], _, _, h => h
  | t :: ts, v :: vs, d :: ds, ps, ht, h => by
    have hlt := h.lt
    obtain ⟨p, q, h1, h2, e⟩ := h
    simp only [typesRowed, List.all_cons, Bool.and_eq_true, decide_eq_true_eq] at ht
    exact ⟨p, q, Below.trod hl ht.1.1 ht.1.2 h1 hb (fun x hx => hlt x (by rw [e]; simp [hx])), trodAll_later hl hb ht.2 h2, e⟩
  | [], [], _ :: _, _, _, h => h.elim
  | [], _ :: _, _, _, _, h => h.elim
  | _ :: _, [], _, _, _, h => h.elim
  | _ :: _, _ :: _, [], _, _, h => h.elim

/-- The law's post: the result is true, the arguments read as they did. -/
theorem law_post {H : Type} {enc : TypeId × Value → H} {P : Program} {f : Func} {s : ChangeSpec} {W W' : World} {args : Array Value} {ds gs : List (DataW H)} {before : List MemPlace} {T : TypeId}
    (hl : laidOutB P = true) (ht : typesRowed P f.params.toList = true) (hT : P.underlying T = some .bool) (hr : f.resultTypes = #[T]) (hv : s.vars = [])
    (hW : DataW.Whole enc P f.params.toList s.vars false W args.toList ds gs before) (hb : Below W.heap.size W W')
    (h1 : (s.fn H (ds ++ gs)).results = [.lit (.bool true)]) (h2 : (s.fn H (ds ++ gs)).args = ds) (h3 : (s.fn H (ds ++ gs)).vars = []) :
    s.post enc P f false true false false W args (.bool true) W' := by
  have hW' := hW
  obtain ⟨p, q, hA, hV, hps, _, _⟩ := hW'
  rw [hv] at hV
  obtain ⟨rfl, rfl⟩ := trodVars_none hV
  refine ⟨ds, [], before, [], p, [], hW, ?_, ?_, ?_, World.keptBut_mono (fun x hx => hx.elim) (hb.frame (fun _ => False)), fun h => by cases h⟩
  · rw [h1, hr]
    exact trodAll_mk1 (shut_bool hT true)
  · rw [h2]
    exact trodAll_later hl hb ht hA
  · rw [h3, hv]
    rfl
end Go.Proofs.YtiehhlolhhjgpaaDoor.Pl
