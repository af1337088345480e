/- The images of a term's parts, one by one, each in its part's place. -/
import Derived.Test.YtedidoeoomijjaaDoorSuiteCon
import Derived.Test.YtedidoeoomijjaaDoorSuiteImgP
import Derived.Test.YtedidoeoomijjaaDoorSuiteD6
import Derived.Test.YtedidoeoomijjaaDoorTermPieces
namespace Go.Proofs.YtedidoeoomijjaaDoor.Pl
open Go.RowKit

/-- Block g is a row of these texts, and perhaps more. -/
def Row8 (w : World) (g : Nat) (L : List ByteArray) : Prop := ∃ cur : Array Value, w.heap[g]? = some (.cells cur 9 (0, 0)) ∧ L.length ≤ cur.size ∧ ∀ j, j < L.length → cur[j]? = some (.string (L.getD j ByteArray.empty))
theorem Row8.lt {w : World} {g : Nat} {L : List ByteArray} (h : Row8 w g L) : g < w.heap.size := by obtain ⟨cur, h1, _⟩ := h; exact (Array.getElem?_eq_some_iff.1 h1).1
theorem Row8.cell {w : World} {g : Nat} {L : List ByteArray} (h : Row8 w g L) (j : Nat) (hj : j < L.length) : w.cell? ⟨g, j, none⟩ = some (.string (L.getD j ByteArray.empty)) := by
  obtain ⟨cur, h1, h2, h3⟩ := h
  have h4 := h3 j hj
  simp [World.cell?, h1, h4]
theorem Row8.frozen {w : World} {g : Nat} {L : List ByteArray} (h : Row8 w g L) (j : Nat) : w.frozen? ⟨g, j, none⟩ = false := by
  obtain ⟨cur, h1, _⟩ := h
  exact Lib.frozen_of_heap h1 j
theorem Row8.below {w w' : World} {g : Nat} {L : List ByteArray} (h : Row8 w g L) (b : Below w.heap.size w w') : Row8 w' g L := by
  obtain ⟨cur, h1, h2⟩ := h
  exact ⟨cur, heap_below b h1, h2⟩
theorem Row8.set {w : World} {g : Nat} {L : List ByteArray} (h : Row8 w g L) (k : Nat) (x : ByteArray) : Row8 (w.setCell ⟨g, k, none⟩ (.string x)) g (L.set k x) := by
  obtain ⟨cur, h1, h2, h3⟩ := h
  refine ⟨cur.setIfInBounds k (.string x), by simp [World.setCell, Array.getElem?_modify, h1], by simpa using h2, fun j hj => ?_⟩
  rw [List.length_set] at hj
  have hjc : j < cur.size := by omega
  rw [Array.getElem?_setIfInBounds, List.getD_eq_getElem?_getD, List.getElem?_set]
  by_cases e : k = j
  · subst e; simp [hjc, hj]
  · rw [if_neg e, if_neg e, h3 j hj, List.getD_eq_getElem?_getD]
/-- A row of these texts at ao, in a block from B on; or none, where there are none. -/
def RowO (W : World) (B : Nat) (ao : Option Addr) (L : List ByteArray) : Prop := L = [] ∨ ∃ g, ao = some ⟨g, 0, none⟩ ∧ B ≤ g ∧ Row8 W g L
theorem RowO.below {w w' : World} {B : Nat} {ao : Option Addr} {L : List ByteArray} (h : RowO w B ao L) (b : Below w.heap.size w w') : RowO w' B ao L :=
  h.elim .inl fun ⟨g, h1, h2, h3⟩ => .inr ⟨g, h1, h2, h3.below b⟩
theorem RowO.txt {w : World} {B : Nat} {ao : Option Addr} {L : List ByteArray} (h : RowO w B ao L) : TxtRow w ao L :=
  h.elim .inl fun ⟨g, h1, _, h3⟩ => .inr ⟨g, 0, h1, h3.lt, fun j hj => by rw [Nat.zero_add]; exact h3.cell j hj⟩
theorem own_rowO {w : World} {B : Nat} {v : Value} {l : List ByteArray} (h : OwnT w B v l) : ∃ ao cap, v = .slice ao l.length cap ∧ l.length ≤ cap ∧ RowO w B ao l := by
  rcases h.2 with ⟨hv, h0⟩ | ⟨g, cap, cur, rfl, hg, hh, hc, _, hs, ht⟩
  · exact ⟨none, 0, by rw [hv, h0], by omega, .inl (List.length_eq_zero_iff.1 h0)⟩
  · refine ⟨_, cap, rfl, hc, .inr ⟨g, rfl, hg, cur, hh, by omega, fun j hj => ?_⟩⟩
    have e : cur.toList[j]? = (txts l)[j]? := by rw [← ht, List.getElem?_take_of_lt (by omega)]
    rw [← Array.getElem?_toList, e]
    unfold txts
    rw [List.getElem?_map, List.getElem?_eq_getElem hj, List.getD_eq_getElem?_getD, List.getElem?_eq_getElem hj]; rfl
theorem heap_set8 (w : World) (g k : Nat) (v : Value) (b : Nat) (h : b ≠ g) : (w.setCell ⟨g, k, none⟩ v).heap[b]? = w.heap[b]? := by
  have h' : ¬ g = b := fun e => h e.symm
  simp [World.setCell, Array.getElem?_modify, h']
theorem con_info (q : Nat) : (Tryd.prog.info? 56).map (·.size) = some (#[Value.pointer (some ⟨q, 0, none⟩)].size) := by kernel_rfl
theorem row_step8 (P D : List ByteArray) (y : ByteArray) (k : Nat) (hD : D.length = k) (hk : k < P.length) : (D ++ P.drop k).set k y = (D ++ [y]) ++ P.drop (k + 1) := by
  rw [List.drop_eq_getElem_cons hk, List.set_append_right _ _ (by omega), hD, Nat.sub_self, List.set_cons_zero, List.append_assoc]
  rfl
theorem row_at8 (P D : List ByteArray) (k : Nat) (hD : D.length = k) : (D ++ P.drop k).getD k ByteArray.empty = P.getD k ByteArray.empty := by
  rw [List.getD_eq_getElem?_getD, List.getElem?_append_right (by omega), hD, Nat.sub_self, List.getD_eq_getElem?_getD, List.getElem?_drop]
  rfl
set_option maxHeartbeats 4000000 in
set_option maxRecDepth 100000 in
theorem images8_by (q : Nat) (m : ByteArray) (h : List UInt8) (l : List Tm) (hv : (Tm.node h l).valid)
    (IH : ∀ T ∈ l, ∀ V : World, Keyed V q m → Calls Tryd.prog 31 #[conV q, .string (tx T)] V fun e w' => e = .returned (st2 (imgT cryP (bl m) T)) ∧ Below V.heap.size V w')
    (s : ByteArray) (hs : bl s = (Tm.node h l).enc) (w : World) (hT : Keyed w q m) :
    Calls Tryd.prog 41 #[conV q, .string s] w fun e w' =>
      (∃ v, e = .returned (.tuple #[v, .int .i64 ((imgsT cryP (bl m) l).2 : Nat)]) ∧ ((imgsT cryP (bl m) l).2 = 0 → ∃ ao cap D, v = .slice ao D.length cap ∧ D.length ≤ cap ∧ D.map bl = (imgsT cryP (bl m) l).1 ∧ RowO w' w.heap.size ao D)) ∧ Below w.heap.size w w' := by
  have HT := Lib.hid hT
  have hz2 : s.size ≤ 16384 := by rw [← bl_length, hs]; exact hv.2.2
  have hp : partsP (bl s) = ((l.map tx).map bl, true) := by unfold partsP; rw [hs, treeOf_enc hv, map_bl_tx]
  have HP := Lib.hid (fun V => parts_of8 s (by omega) (l.map tx) hp V)
  have IH' : Hid (∀ k, (hk : k < l.length) → ∀ V : World, Keyed V q m → Calls Tryd.prog 31 #[conV q, .string (tx l[k])] V fun e w' => e = .returned (st2 (imgT cryP (bl m) l[k])) ∧ Below V.heap.size V w') := Lib.hid (fun k hk V => IH _ (List.getElem_mem hk) V)
  have hl32 : l.length ≤ 32 := by
    have hg := hv.1
    simp only [Tm.good] at hg
    obtain ⟨c, hkd⟩ := head_kind hg.1
    cases hkd <;> omega
  have HSH : Hid (∀ k, (hk : k < l.length) → (imgT cryP (bl m) l[k]).1.length ≤ 16384) := Lib.hid (fun k hk => img_short _ _ (node_valid_parts hv _ (List.getElem_mem hk)))
  obtain ⟨I, hI⟩ : ∃ I, I = imgsT cryP (bl m) l := ⟨_, rfl⟩
  rw [← hI]
  have HI := Lib.hid hI
  obtain ⟨P, hP⟩ : ∃ P, P = l.map tx := ⟨_, rfl⟩
  have hPl : P.length = l.length := by rw [hP, List.length_map]
  have HPE : Hid (∀ k, (hk : k < l.length) → P.getD k ByteArray.empty = tx l[k]) := Lib.hid (fun k hk => by rw [hP]; simp [List.getD_eq_getElem?_getD, hk])
  rw [← hP] at HP
  obtain ⟨n, hn⟩ : ∃ n, n = l.length := ⟨_, rfl⟩
  rw [← hn] at hl32 hPl
  have HN := Lib.hid hn
  have A0 := (Below.refl w.heap.size w).alloc (Nat.le_refl _) (.cells #[.pointer (some ⟨q, 0, none⟩)] 56)
  have B0 := Lib.hid A0
  have C0 := Lib.hid (Go.heap_alloc_new w (.cells #[.pointer (some ⟨q, 0, none⟩)] 56))
  clear hT hz2 hp hs hv IH hI hP hn A0
  unfold conV at IH' ⊢
  go_enter Tryd.func41, Tryd.ntmps41
  go_wp2_with fail
  refine (HP.out _).mono ?_; rintro e w1 ⟨v, rfl, ho, b1⟩
  have B1 := Lib.hid (below_step B0.out b1)
  have C1 := Lib.hid (heap_below b1 C0.out)
  obtain ⟨ao, cap, rfl, hcap, hrow⟩ := own_rowO ho
  rw [show (w.alloc (.cells #[.pointer (some ⟨q, 0, none⟩)] 56)).heap.size = w.heap.size + 1 by simp] at hrow
  have R1 := Lib.hid hrow
  have HC := Lib.hid hcap
  rw [hPl]
  clear b1 ho hrow hcap
  go_wp2_with fail
  go_loopw [19] (fun iv wr => ∃ (k : Nat) (D : List ByteArray), iv = .int .i64 k ∧ k ≤ n ∧ Hid (D.length = k) ∧ Hid (imgsT cryP (bl m) (l.take k) = (D.map bl, 0)) ∧ Hid (RowO wr (w.heap.size + 1) ao (D ++ P.drop k)) ∧ Hid (wr.heap[w.heap.size]? = some (.cells #[.pointer (some ⟨q, 0, none⟩)] 56 (0, 0))) ∧ Hid (Below w.heap.size w wr)) (fun iv _ => n - (intOf iv).toNat)
  case atStart => exact ⟨0, [], rfl, Nat.zero_le _, Lib.hid rfl, Lib.hid (by simp [imgsT]), Lib.hid (by simpa using R1.out), C1, B1⟩
  case round =>
    obtain ⟨k, D, rfl, hkn, hD, hi, hrow, hC, hb⟩ := hrel
    by_cases hk : k < n
    · have hk' : (k : Int) < (n : Int) := by omega
      have hkl : k < l.length := by rw [← HN.out]; exact hk
      have hkP : k < P.length := by rw [hPl]; exact hk
      rcases hrow.out with e | ⟨g, rfl, hg, hr⟩
      · exfalso
        have := congrArg List.length e
        simp only [List.length_append, List.length_drop, List.length_nil] at this
        have := hD.out
        omega
      have ck := hr.cell k (by simp only [List.length_append, List.length_drop]; have := hD.out; omega)
      rw [row_at8 P D k hD.out, HPE.out k hkl] at ck
      have HR := Lib.hid hr
      have KR := Lib.hid (HT.out.below hb.out)
      have HQ := Lib.hid (IH'.out k hkl wr KR.out)
      have hsh := HSH.out k hkl
      have HSTOP : Hid (∀ x, x ≠ 0 → (imgT cryP (bl m) l[k]).2 = x → I = ([], x)) := Lib.hid (fun x hx e => by rw [HI.out]; exact imgs_stop hkl hi.out (Prod.ext rfl e) hx)
      have HMORE : Hid ((imgT cryP (bl m) l[k]).2 = 0 → ∀ y : ByteArray, bl y = (imgT cryP (bl m) l[k]).1 → imgsT cryP (bl m) (l.take (k + 1)) = ((D ++ [y]).map bl, 0)) := Lib.hid (fun e y hy => by
        rw [List.map_append]
        exact imgs_more hkl hi.out (Prod.ext hy.symm e))
      generalize imgT cryP (bl m) l[k] = Y at *
      obtain ⟨y, x⟩ := Y
      dsimp only at hsh HSTOP HMORE
      obtain ⟨z, hz⟩ : ∃ z : ByteArray, z = ⟨y.toArray⟩ := ⟨_, rfl⟩
      have hbz : Hid (bl z = y) := Lib.hid (by rw [hz]; exact bl_mk _)
      unfold st2 at HQ
      dsimp only at HQ
      rw [← hz] at HQ
      clear hz
      generalize tx l[k] = t at *
      clear hr hrow
      go_wp2_with (first | (refine wpList_load_row rfl 56 _ rfl w.heap.size rfl 56 _ _ _ hC.out Tryd.underlying56 rfl (con_info q) ?_))
      refine HQ.out.mono ?_; rintro e w2 ⟨rfl, b2⟩
      have B2 := Lib.hid (below_step hb.out b2)
      have C2 := Lib.hid (heap_below b2 hC.out)
      have R2 := Lib.hid (HR.out.below b2)
      have hlt : k < (D ++ P.drop k).length := by simp only [List.length_append, List.length_drop]; have := hD.out; omega
      have c2 := R2.out.cell k hlt
      have f2 := R2.out.frozen k
      clear b2 hlt
      by_cases hx : x = 0
      · subst hx
        have HM := Lib.hid (HMORE.out rfl z hbz.out)
        have R3 : Hid (RowO (w2.setCell ⟨g, k, none⟩ (.string z)) (w.heap.size + 1) (some ⟨g, 0, none⟩) ((D ++ [z]) ++ P.drop (k + 1))) := Lib.hid (.inr ⟨g, rfl, hg, by
          have := R2.out.set k z
          rwa [row_step8 P D z k hD.out hkP] at this⟩)
        have C3 : Hid ((w2.setCell ⟨g, k, none⟩ (.string z)).heap[w.heap.size]? = some (.cells #[.pointer (some ⟨q, 0, none⟩)] 56 (0, 0))) := Lib.hid (by rw [heap_set8 _ _ _ _ _ (by omega)]; exact C2.out)
        have B3 : Hid (Below w.heap.size w (w2.setCell ⟨g, k, none⟩ (.string z))) := Lib.hid (B2.out.setCell (by simp; omega) _)
        have HD3 : Hid ((D ++ [z]).length = k + 1) := Lib.hid (by simp [hD.out])
        clear HSTOP HMORE
        go_wp2_with fail
        go_roundw
        case rel => exact ⟨k + 1, D ++ [z], by go_num, by omega, HD3, HM, R3, C3, B3⟩
        case measure => simp [intOf]; omega
      · have q2 := neq0_no hx
        have HS := Lib.hid (HSTOP.out x hx rfl)
        clear HSTOP HMORE
        go_wp2_with fail
        go_ret2
        rw [HS.out]
        exact ⟨⟨_, rfl, fun e => absurd e hx⟩, B2.out⟩
    · obtain rfl : k = n := by omega
      have hE : I = (D.map bl, 0) := by rw [HI.out, ← hi.out, List.take_of_length_le (by have := HN.out; omega)]
      have hE2 : D ++ P.drop k = D := by rw [List.drop_eq_nil_of_le (by omega), List.append_nil]
      rw [hE2] at hrow
      have HE := Lib.hid hE
      clear hk hkn hE hE2
      go_wp2_with fail
      go_ret2
      rw [HE.out]
      refine ⟨⟨.slice ao k cap, rfl, fun _ => ⟨ao, cap, D, by rw [hD.out], by rw [hD.out]; have := HC.out; omega, rfl, ?_⟩⟩, hb.out⟩
      exact hrow.out.elim .inl fun ⟨g, h1, h2, h3⟩ => .inr ⟨g, h1, by omega, h3⟩
end Go.Proofs.YtedidoeoomijjaaDoor.Pl
