/- The image of a term, in a suite of bytes, by its own method. -/
import Derived.Test.YtedidoeoomijjaaDoorSuiteImgL
import Derived.Test.YtedidoeoomijjaaDoorReadText
import Derived.Deep.RegionHeld3
namespace Go.Proofs.YtedidoeoomijjaaDoor.Pl
open Go.RowKit

theorem img_leaf {c : Cry} {m h : List UInt8} {x : Nat} (hk : Kd h 0 x) (hx : x = 1) : imgT c m (.node h []) = (h, 0) := by
  subst hx
  cases hk with
  | data t e1 _ _ => rw [imgT, e1]; simp [imgsT, encs]
theorem img_atom {c : Cry} {m h : List UInt8} (hk : Kd h 0 2) (hv : (Tm.node h []).valid) : imgT c m (.node h []) = keyP c false m (textP (Tm.node h []).enc).1 := by
  cases hk with
  | atom t e1 _ _ _ =>
    have hc := check_enc hv
    rw [Tm.enc_node] at hc
    have ht : textP (h ++ encs []) = ((rdt ((h ++ encs []).drop 1) 1024).1, true) := by
      unfold textP
      rw [if_pos ⟨hc, .inr (by rw [e1]; rfl)⟩]
    rw [Tm.enc_node, ht, imgT, e1]
    simp [imgsT]
theorem img_row {c : Cry} {m h : List UInt8} {l : List Tm} {D : List (List UInt8)} (hk : Kd h l.length 3) (hi : imgsT c m l = (D, 0)) : imgT c m (.node h l) = rowP D := by
  cases hk with
  | row v e1 _ _ => rw [imgT, hi, e1]; simp
theorem img_hash {c : Cry} {m h : List UInt8} {l : List Tm} {a : List UInt8} (hk : Kd h l.length 4) (hi : imgsT c m l = ([a], 0)) : imgT c m (.node h l) = hash8P c false a := by
  cases hk with
  | hash e1 _ => rw [imgT, hi, e1]; simp
theorem img_mac {c : Cry} {m h : List UInt8} {l : List Tm} {a b : List UInt8} (hk : Kd h l.length 5) (hi : imgsT c m l = ([a, b], 0)) : imgT c m (.node h l) = mac8P c false a b := by
  cases hk with
  | mac e1 _ => rw [imgT, hi, e1]; simp
theorem img_seal {c : Cry} {m h : List UInt8} {l : List Tm} {a b d : List UInt8} (hk : Kd h l.length 6) (hi : imgsT c m l = ([a, b, d], 0)) : imgT c m (.node h l) = seal8P c false a b d := by
  cases hk with
  | seal_ e1 _ => rw [imgT, hi, e1]; simp
theorem imgs_short {c : Cry} {m : List UInt8} : ∀ {l : List Tm}, (∀ T ∈ l, T.valid) → ∀ {D : List (List UInt8)}, imgsT c m l = (D, 0) → ∀ x ∈ D, x.length ≤ 16384
  | [], _, D, h, x, hx => by rw [imgsT] at h; cases h; cases hx
  | T :: l, hv, D, h, x, hx => by
    rw [imgsT] at h
    by_cases h1 : (imgT c m T).2 = 0
    · by_cases h2 : (imgsT c m l).2 = 0
      · simp only [h1, h2, ne_eq, not_true_eq_false, if_false, Prod.mk.injEq, and_true] at h
        rw [← h] at hx
        rcases List.mem_cons.1 hx with e | e
        · rw [e]; exact img_short _ _ (hv T (by simp))
        · exact imgs_short (fun S hS => hv S (by simp [hS])) (Prod.ext rfl h2) x e
      · simp [h1, h2] at h
    · simp [h1] at h
theorem img_keep1 {w W V : World} {q b g : Nat} {m x : ByteArray}
    (h : W.cell? ⟨b, 0, none⟩ = some (.pointer (some ⟨q, 0, none⟩)) ∧ W.cell? ⟨g, 0, none⟩ = some (.string x) ∧ Hid (Keyed W q m) ∧ Hid (Below w.heap.size w W)) (hb : Below W.heap.size W V) :
    V.cell? ⟨b, 0, none⟩ = some (.pointer (some ⟨q, 0, none⟩)) ∧ V.cell? ⟨g, 0, none⟩ = some (.string x) ∧ Hid (Keyed V q m) ∧ Hid (Below w.heap.size w V) := by
  obtain ⟨h0, h1, h2, h3⟩ := h
  exact ⟨(hb.cell (p := ⟨b, 0, none⟩) (World.block_lt_of_cell? _ _ h0)).trans h0, (hb.cell (p := ⟨g, 0, none⟩) (World.block_lt_of_cell? _ _ h1)).trans h1, Lib.hid (h2.out.below hb), Lib.hid (below_step h3.out hb)⟩
theorem img_keep2 {w W V : World} {q b g : Nat} {m x y : ByteArray}
    (h : W.cell? ⟨b, 0, none⟩ = some (.pointer (some ⟨q, 0, none⟩)) ∧ W.cell? ⟨g, 0, none⟩ = some (.string x) ∧ W.cell? ⟨g, 1, none⟩ = some (.string y) ∧ Hid (Keyed W q m) ∧ Hid (Below w.heap.size w W)) (hb : Below W.heap.size W V) :
    V.cell? ⟨b, 0, none⟩ = some (.pointer (some ⟨q, 0, none⟩)) ∧ V.cell? ⟨g, 0, none⟩ = some (.string x) ∧ V.cell? ⟨g, 1, none⟩ = some (.string y) ∧ Hid (Keyed V q m) ∧ Hid (Below w.heap.size w V) := by
  obtain ⟨h0, h1, h1', h2, h3⟩ := h
  exact ⟨(hb.cell (p := ⟨b, 0, none⟩) (World.block_lt_of_cell? _ _ h0)).trans h0, (hb.cell (p := ⟨g, 0, none⟩) (World.block_lt_of_cell? _ _ h1)).trans h1, (hb.cell (p := ⟨g, 1, none⟩) (World.block_lt_of_cell? _ _ h1')).trans h1', Lib.hid (h2.out.below hb), Lib.hid (below_step h3.out hb)⟩
theorem img_keep3 {w W V : World} {q b g : Nat} {m x y z : ByteArray}
    (h : W.cell? ⟨b, 0, none⟩ = some (.pointer (some ⟨q, 0, none⟩)) ∧ W.cell? ⟨g, 0, none⟩ = some (.string x) ∧ W.cell? ⟨g, 1, none⟩ = some (.string y) ∧ W.cell? ⟨g, 2, none⟩ = some (.string z) ∧ Hid (Keyed W q m) ∧ Hid (Below w.heap.size w W)) (hb : Below W.heap.size W V) :
    V.cell? ⟨b, 0, none⟩ = some (.pointer (some ⟨q, 0, none⟩)) ∧ V.cell? ⟨g, 0, none⟩ = some (.string x) ∧ V.cell? ⟨g, 1, none⟩ = some (.string y) ∧ V.cell? ⟨g, 2, none⟩ = some (.string z) ∧ Hid (Keyed V q m) ∧ Hid (Below w.heap.size w V) := by
  obtain ⟨h0, h1, h1', h1'', h2, h3⟩ := h
  exact ⟨(hb.cell (p := ⟨b, 0, none⟩) (World.block_lt_of_cell? _ _ h0)).trans h0, (hb.cell (p := ⟨g, 0, none⟩) (World.block_lt_of_cell? _ _ h1)).trans h1, (hb.cell (p := ⟨g, 1, none⟩) (World.block_lt_of_cell? _ _ h1')).trans h1', (hb.cell (p := ⟨g, 2, none⟩) (World.block_lt_of_cell? _ _ h1'')).trans h1'', Lib.hid (h2.out.below hb), Lib.hid (below_step h3.out hb)⟩

set_option maxHeartbeats 4000000 in
set_option maxRecDepth 100000 in
theorem image8_any (q : Nat) (m : ByteArray) : ∀ T : Tm, T.valid → ∀ (s : ByteArray), bl s = T.enc → ∀ w : World, Keyed w q m →
    Calls Tryd.prog 31 #[conV q, .string s] w fun e w' => e = .returned (st2 (imgT cryP (bl m) T)) ∧ Below w.heap.size w w' := by
  refine Tm.ind ?_
  intro h l ih hv s hs w hT
  have HT := Lib.hid hT
  have hz2 : s.size ≤ 16384 := by rw [← bl_length, hs]; exact hv.2.2
  have hcs : checkP (bl s) = 0 := by rw [hs]; exact check_enc hv
  obtain ⟨c, hkd⟩ : ∃ c, Kd h l.length c := by
    have hg := hv.1
    simp only [Tm.good] at hg
    exact head_kind hg.1
  have hkind : kindP (bl s) = c := by
    unfold kindP
    rw [if_pos hcs, hs, Tm.enc_node]
    cases hkd with
    | data t e1 _ _ => rw [e1]; rfl
    | atom t e1 _ _ _ => rw [e1]; rfl
    | hash e1 _ => rw [e1]; rfl
    | mac e1 _ => rw [e1]; rfl
    | seal_ e1 _ => rw [e1]; rfl
    | row v e1 hv _ => rw [e1]; rfl
  have hshort := fun D (hD : imgsT cryP (bl m) l = (D, 0)) => imgs_short (node_valid_parts hv) hD
  have hlen := fun (hD : (imgsT cryP (bl m) l).2 = 0) => imgs_length hD
  have HI := Lib.hid (fun V (hV : Keyed V q m) => images8_by q m h l hv (fun T hT' V' hV' => ih T hT' (node_valid_parts hv T hT') (tx T) (bl_tx T) V' hV') s hs V hV)
  have HK := Lib.hid (fun V => tkind_any s (by omega) V)
  rw [hkind] at HK
  have A0 := (Below.refl w.heap.size w).alloc (Nat.le_refl _) (.cells #[.pointer (some ⟨q, 0, none⟩)] 56)
  have B0 := Lib.hid A0
  have T0 := Lib.hid (HT.out.below A0)
  have C0 := Lib.hid (Go.heap_alloc_new w (.cells #[.pointer (some ⟨q, 0, none⟩)] 56))
  clear hT A0 ih
  obtain ⟨I, hI⟩ : ∃ I, I = imgsT cryP (bl m) l := ⟨_, rfl⟩
  rw [← hI] at HI hlen
  unfold conV at HI ⊢
  obtain ⟨Z, hZ⟩ : ∃ Z, Z = imgT cryP (bl m) (.node h l) := ⟨_, rfl⟩
  rw [← hZ]
  obtain ⟨D0, x⟩ := I
  dsimp only at HI
  by_cases hx : x = 0
  · subst hx
    cases hkd with
    | data t e1 e2 e3 =>
      have hl : l = [] := List.length_eq_zero_iff.1 e3
      subst hl
      have hZ2 : st2 Z = .tuple #[.string s, .int .i64 0] := by
        rw [hZ, img_leaf (.data t e1 e2 rfl) rfl]
        have : s = ⟨h.toArray⟩ := bl_inj (by rw [hs, Tm.enc_node]; simp [encs, bl_mk])
        rw [this]; rfl
      rw [hZ2]
      have HC := Lib.hid (fun V => clone_any s V (by omega))
      clear hkind hcs hs hv hshort hlen
      clear hZ hZ2 hI e1
      go_enter Tryd.func31, Tryd.ntmps31
      go_wp2_with (first | (refine wpList_load_row rfl 56 _ rfl w.heap.size rfl 56 _ _ _ C0.out Tryd.underlying56 rfl (con_info q) ?_))
      refine (HI.out _ T0.out).mono ?_; rintro e w1 ⟨⟨v, rfl, hv⟩, b1⟩
      obtain ⟨ao, cap, D, rfl, hcap, hD, hrow⟩ := hv trivial
      have B1 := Lib.hid (below_step B0.out b1)
      have T1 := Lib.hid (T0.out.below b1)
      have C1 := Lib.hid (heap_below b1 C0.out)
      have R1 := Lib.hid hrow
      have HD := Lib.hid hD
      have HCAP := Lib.hid hcap
      clear b1 hrow hD hcap hv
      go_wp2_with fail
      refine (HK.out w1).mono ?_; rintro e w2 ⟨rfl, b2⟩
      have B2 := Lib.hid (below_step B1.out b2)
      have T2 := Lib.hid (T1.out.below b2)
      have C2 := Lib.hid (heap_below b2 C1.out)
      have R2 := Lib.hid (R1.out.below b2)
      clear b2
      go_wp2_with fail
      refine (HC.out w2).mono ?_; rintro e w3 ⟨rfl, b3⟩
      have B3 := Lib.hid (below_step B2.out b3)
      clear b3
      go_wp2_with fail
      go_ret2
      exact ⟨rfl, B3.out⟩
    | atom t e1 e2 e3 e4 =>
      have hl : l = [] := List.length_eq_zero_iff.1 e4
      subst hl
      have hZ2 : Z = keyP cryP false (bl m) (textP (bl s)).1 := by rw [hZ, img_atom (.atom t e1 e2 e3 rfl) hv, hs]
      have HX := Lib.hid (fun V => text6_any s (by omega) V)
      have htl := textP_len (bl s)
      rw [bl_length] at htl
      have HY := Lib.hid (fun V (hV : Keyed V q m) => ckey8_any q m ⟨(textP (bl s)).1.toArray⟩ (by rw [size_lit]; omega) V hV)
      rw [bl_mk (textP (bl s)).1, ← hZ2] at HY
      unfold conV at HY
      generalize textP (bl s) = tp at *
      obtain ⟨y, z⟩ := tp
      unfold tb2 at HX
      dsimp only at HX HY
      generalize (⟨y.toArray⟩ : ByteArray) = Y at *
      obtain ⟨r, o⟩ := Z
      unfold st2 at HY ⊢
      dsimp only at HY ⊢
      clear hkind hcs hs hv hshort hlen
      clear hZ hZ2 hI e1 e3 htl
      go_enter Tryd.func31, Tryd.ntmps31
      go_wp2_with (first | (refine wpList_load_row rfl 56 _ rfl w.heap.size rfl 56 _ _ _ C0.out Tryd.underlying56 rfl (con_info q) ?_))
      refine (HI.out _ T0.out).mono ?_; rintro e w1 ⟨⟨v, rfl, hv⟩, b1⟩
      obtain ⟨ao, cap, D, rfl, hcap, hD, hrow⟩ := hv trivial
      have B1 := Lib.hid (below_step B0.out b1)
      have T1 := Lib.hid (T0.out.below b1)
      have C1 := Lib.hid (heap_below b1 C0.out)
      have R1 := Lib.hid hrow
      have HD := Lib.hid hD
      have HCAP := Lib.hid hcap
      clear b1 hrow hD hcap hv
      go_wp2_with fail
      refine (HK.out w1).mono ?_; rintro e w2 ⟨rfl, b2⟩
      have B2 := Lib.hid (below_step B1.out b2)
      have T2 := Lib.hid (T1.out.below b2)
      have C2 := Lib.hid (heap_below b2 C1.out)
      have R2 := Lib.hid (R1.out.below b2)
      clear b2
      go_wp2_with fail
      refine (HX.out w2).mono ?_; rintro e w3 ⟨rfl, b3⟩
      have B3 := Lib.hid (below_step B2.out b3)
      have T3 := Lib.hid (T2.out.below b3)
      have C3 := Lib.hid (heap_below b3 C2.out)
      clear b3
      go_wp2_with (first | (refine wpList_load_row rfl 56 _ rfl w.heap.size rfl 56 _ _ _ C3.out Tryd.underlying56 rfl (con_info q) ?_))
      refine (HY.out w3 T3.out).mono ?_; rintro e w4 ⟨rfl, b4⟩
      have B4 := Lib.hid (below_step B3.out b4)
      clear b4
      go_wp2_with fail
      go_ret2
      exact ⟨rfl, B4.out⟩
    | row v e1 e2 e3 =>
      have hZ2 : Z = rowP D0 := by rw [hZ, img_row (.row v e1 e2 e3) hI.symm]
      have hln : D0.length ≤ 1000 := by have := hlen rfl; dsimp only at this; omega
      have hsh := hshort D0 hI.symm
      clear hkind hcs hs hv hshort hlen
      clear hZ hI e1 e2 e3
      obtain ⟨r, o⟩ := Z
      unfold st2
      dsimp only
      go_enter Tryd.func31, Tryd.ntmps31
      go_wp2_with (first | (refine wpList_load_row rfl 56 _ rfl w.heap.size rfl 56 _ _ _ C0.out Tryd.underlying56 rfl (con_info q) ?_))
      refine (HI.out _ T0.out).mono ?_; rintro e w1 ⟨⟨v, rfl, hv⟩, b1⟩
      obtain ⟨ao, cap, D, rfl, hcap, hD, hrow⟩ := hv trivial
      have B1 := Lib.hid (below_step B0.out b1)
      have T1 := Lib.hid (T0.out.below b1)
      have C1 := Lib.hid (heap_below b1 C0.out)
      have R1 := Lib.hid hrow
      have HD := Lib.hid hD
      have HCAP := Lib.hid hcap
      clear b1 hrow hD hcap hv
      have HY : Hid (∀ V : World, TxtRow V ao D → Calls Tryd.prog 43 #[.slice ao D.length cap] V fun e w' => e = .returned (st2 (r, o)) ∧ Below V.heap.size V w') := Lib.hid (fun V hV => by
        have := row6_any D ao cap HCAP.out (by have := congrArg List.length HD.out; rw [List.length_map] at this; omega) (fun x hx => by
          have := hsh (bl x) (by rw [← HD.out]; exact List.mem_map_of_mem hx)
          rw [bl_length] at this; omega) V hV
        rwa [HD.out, ← hZ2] at this)
      clear hsh hln hZ2
      unfold st2 at HY
      dsimp only at HY
      go_wp2_with fail
      refine (HK.out w1).mono ?_; rintro e w2 ⟨rfl, b2⟩
      have B2 := Lib.hid (below_step B1.out b2)
      have T2 := Lib.hid (T1.out.below b2)
      have C2 := Lib.hid (heap_below b2 C1.out)
      have R2 := Lib.hid (R1.out.below b2)
      clear b2
      go_wp2_with fail
      refine (HY.out w2 R2.out.txt).mono ?_; rintro e w3 ⟨rfl, b3⟩
      have B3 := Lib.hid (below_step B2.out b3)
      clear b3
      go_wp2_with fail
      go_ret2
      exact ⟨rfl, B3.out⟩
    | hash e1 e3 =>
      have hln := hlen rfl
      dsimp only at hln
      obtain ⟨a, rfl⟩ : ∃ a, D0 = [a] := by
        match D0, (hln.trans e3 : D0.length = 1) with
        | [a], _ => exact ⟨a, rfl⟩
      have hZ2 : Z = hash8P cryP false a := by rw [hZ, img_hash (.hash e1 e3) hI.symm]
      have hsh := hshort [a] hI.symm
      clear hkind hcs hs hv hshort hlen
      clear hZ hI e1 e3 hln
      obtain ⟨r, o⟩ := Z
      unfold st2
      dsimp only
      go_enter Tryd.func31, Tryd.ntmps31
      go_wp2_with (first | (refine wpList_load_row rfl 56 _ rfl w.heap.size rfl 56 _ _ _ C0.out Tryd.underlying56 rfl (con_info q) ?_))
      refine (HI.out _ T0.out).mono ?_; rintro e w1 ⟨⟨v, rfl, hv⟩, b1⟩
      obtain ⟨ao, cap, D, rfl, hcap, hD, hrow⟩ := hv trivial
      have B1 := Lib.hid (below_step B0.out b1)
      have T1 := Lib.hid (T0.out.below b1)
      have C1 := Lib.hid (heap_below b1 C0.out)
      have R1 := Lib.hid hrow
      have HD := Lib.hid hD
      have HCAP := Lib.hid hcap
      clear b1 hrow hD hcap hv
      obtain ⟨A, rfl⟩ : ∃ A, D = [A] := by
        have hl := congrArg List.length HD.out
        rw [List.length_map] at hl
        match D, (hl : D.length = 1) with
        | [A], _ => exact ⟨A, rfl⟩
      have hd := HD.out
      simp only [List.map_cons, List.map_nil, List.cons.injEq, and_true] at hd
      subst hd
      have s0 : A.size ≤ 20000 := by have := hsh (bl A) (by simp); rw [bl_length] at this; omega
      have HY := Lib.hid (fun V (hV : Keyed V q m) => chash8_any q m A s0 V hV)
      rw [← hZ2] at HY
      unfold conV at HY
      clear hsh hZ2 HD s0
      unfold st2 at HY
      dsimp only at HY
      go_wp2_with fail
      refine (HK.out w1).mono ?_; rintro e w2 ⟨rfl, b2⟩
      have B2 := Lib.hid (below_step B1.out b2)
      have T2 := Lib.hid (T1.out.below b2)
      have C2 := Lib.hid (heap_below b2 C1.out)
      have R2 := Lib.hid (R1.out.below b2)
      clear b2
      obtain ⟨g, rfl, _, hr⟩ := R2.out.resolve_left (by simp)
      have cb : w2.cell? ⟨w.heap.size, 0, none⟩ = some (.pointer (some ⟨q, 0, none⟩)) := cell_of_row _ _ _ _ _ _ C2.out
      have c0 := hr.cell 0 (by simp)
      simp only [List.getD_cons_zero] at c0
      clear hr
      go_wp2_with fail
      have KS := img_keep1 (w := w) (W := w2) (q := q) (b := w.heap.size) (g := g) (m := m) ⟨cb, c0, T2, B2⟩ (drew_below w2)
      go_region_held3 (fun W => W.cell? ⟨w.heap.size, 0, none⟩ = some (.pointer (some ⟨q, 0, none⟩)) ∧ W.cell? ⟨g, 0, none⟩ = some (.string A) ∧ Hid (Keyed W q m) ∧ Hid (Below w.heap.size w W)) (first | assumption | with_reducible exact img_keep1 ‹_› ‹_›) (first | (go_at_call 44; refine (HY.out _ (by assumption)).mono ?_; rintro e w3 ⟨rfl, b3⟩))
      go_wp2_with fail
      go_ret2
      exact ⟨rfl, below_step KS.2.2.2.out b3⟩
    | mac e1 e3 =>
      have hln := hlen rfl
      dsimp only at hln
      obtain ⟨a, b, rfl⟩ : ∃ a b, D0 = [a, b] := by
        match D0, (hln.trans e3 : D0.length = 2) with
        | [a, b], _ => exact ⟨a, b, rfl⟩
      have hZ2 : Z = mac8P cryP false a b := by rw [hZ, img_mac (.mac e1 e3) hI.symm]
      have hsh := hshort [a, b] hI.symm
      clear hkind hcs hs hv hshort hlen
      clear hZ hI e1 e3 hln
      obtain ⟨r, o⟩ := Z
      unfold st2
      dsimp only
      go_enter Tryd.func31, Tryd.ntmps31
      go_wp2_with (first | (refine wpList_load_row rfl 56 _ rfl w.heap.size rfl 56 _ _ _ C0.out Tryd.underlying56 rfl (con_info q) ?_))
      refine (HI.out _ T0.out).mono ?_; rintro e w1 ⟨⟨v, rfl, hv⟩, b1⟩
      obtain ⟨ao, cap, D, rfl, hcap, hD, hrow⟩ := hv trivial
      have B1 := Lib.hid (below_step B0.out b1)
      have T1 := Lib.hid (T0.out.below b1)
      have C1 := Lib.hid (heap_below b1 C0.out)
      have R1 := Lib.hid hrow
      have HD := Lib.hid hD
      have HCAP := Lib.hid hcap
      clear b1 hrow hD hcap hv
      obtain ⟨A, B, rfl⟩ : ∃ A B, D = [A, B] := by
        have hl := congrArg List.length HD.out
        rw [List.length_map] at hl
        match D, (hl : D.length = 2) with
        | [A, B], _ => exact ⟨A, B, rfl⟩
      have hd := HD.out
      simp only [List.map_cons, List.map_nil, List.cons.injEq, and_true] at hd
      obtain ⟨rfl, rfl⟩ := hd
      have s0 : A.size ≤ 20000 := by have := hsh (bl A) (by simp); rw [bl_length] at this; omega
      have s1 : B.size ≤ 20000 := by have := hsh (bl B) (by simp); rw [bl_length] at this; omega
      have HY := Lib.hid (fun V (hV : Keyed V q m) => cmac8_any q m A B s0 s1 V hV)
      rw [← hZ2] at HY
      unfold conV at HY
      clear hsh hZ2 HD s0 s1
      unfold st2 at HY
      dsimp only at HY
      go_wp2_with fail
      refine (HK.out w1).mono ?_; rintro e w2 ⟨rfl, b2⟩
      have B2 := Lib.hid (below_step B1.out b2)
      have T2 := Lib.hid (T1.out.below b2)
      have C2 := Lib.hid (heap_below b2 C1.out)
      have R2 := Lib.hid (R1.out.below b2)
      clear b2
      obtain ⟨g, rfl, _, hr⟩ := R2.out.resolve_left (by simp)
      have cb : w2.cell? ⟨w.heap.size, 0, none⟩ = some (.pointer (some ⟨q, 0, none⟩)) := cell_of_row _ _ _ _ _ _ C2.out
      have c0 := hr.cell 0 (by simp)
      have c1 := hr.cell 1 (by simp)
      simp only [List.getD_cons_zero, List.getD_cons_succ] at c0 c1
      clear hr
      go_wp2_with fail
      have KS := img_keep2 (w := w) (W := w2) (q := q) (b := w.heap.size) (g := g) (m := m) ⟨cb, c0, c1, T2, B2⟩ (drew_below w2)
      go_region_held3 (fun W => W.cell? ⟨w.heap.size, 0, none⟩ = some (.pointer (some ⟨q, 0, none⟩)) ∧ W.cell? ⟨g, 0, none⟩ = some (.string A) ∧ W.cell? ⟨g, 1, none⟩ = some (.string B) ∧ Hid (Keyed W q m) ∧ Hid (Below w.heap.size w W)) (first | assumption | with_reducible exact img_keep2 ‹_› ‹_›) (first | (go_at_call 45; refine (HY.out _ (by assumption)).mono ?_; rintro e w3 ⟨rfl, b3⟩))
      go_wp2_with fail
      go_ret2
      exact ⟨rfl, below_step KS.2.2.2.2.out b3⟩
    | seal_ e1 e3 =>
      have hln := hlen rfl
      dsimp only at hln
      obtain ⟨a, b, d, rfl⟩ : ∃ a b d, D0 = [a, b, d] := by
        match D0, (hln.trans e3 : D0.length = 3) with
        | [a, b, d], _ => exact ⟨a, b, d, rfl⟩
      have hZ2 : Z = seal8P cryP false a b d := by rw [hZ, img_seal (.seal_ e1 e3) hI.symm]
      have hsh := hshort [a, b, d] hI.symm
      clear hkind hcs hs hv hshort hlen
      clear hZ hI e1 e3 hln
      obtain ⟨r, o⟩ := Z
      unfold st2
      dsimp only
      go_enter Tryd.func31, Tryd.ntmps31
      go_wp2_with (first | (refine wpList_load_row rfl 56 _ rfl w.heap.size rfl 56 _ _ _ C0.out Tryd.underlying56 rfl (con_info q) ?_))
      refine (HI.out _ T0.out).mono ?_; rintro e w1 ⟨⟨v, rfl, hv⟩, b1⟩
      obtain ⟨ao, cap, D, rfl, hcap, hD, hrow⟩ := hv trivial
      have B1 := Lib.hid (below_step B0.out b1)
      have T1 := Lib.hid (T0.out.below b1)
      have C1 := Lib.hid (heap_below b1 C0.out)
      have R1 := Lib.hid hrow
      have HD := Lib.hid hD
      have HCAP := Lib.hid hcap
      clear b1 hrow hD hcap hv
      obtain ⟨A, B, E, rfl⟩ : ∃ A B E, D = [A, B, E] := by
        have hl := congrArg List.length HD.out
        rw [List.length_map] at hl
        match D, (hl : D.length = 3) with
        | [A, B, E], _ => exact ⟨A, B, E, rfl⟩
      have hd := HD.out
      simp only [List.map_cons, List.map_nil, List.cons.injEq, and_true] at hd
      obtain ⟨rfl, rfl, rfl⟩ := hd
      have s0 : A.size ≤ 20000 := by have := hsh (bl A) (by simp); rw [bl_length] at this; omega
      have s1 : B.size ≤ 20000 := by have := hsh (bl B) (by simp); rw [bl_length] at this; omega
      have s2 : E.size ≤ 20000 := by have := hsh (bl E) (by simp); rw [bl_length] at this; omega
      have HY := Lib.hid (fun V (hV : Keyed V q m) => cseal8_any q m A B E s0 s1 s2 V hV)
      rw [← hZ2] at HY
      unfold conV at HY
      clear hsh hZ2 HD s0 s1 s2
      unfold st2 at HY
      dsimp only at HY
      go_wp2_with fail
      refine (HK.out w1).mono ?_; rintro e w2 ⟨rfl, b2⟩
      have B2 := Lib.hid (below_step B1.out b2)
      have T2 := Lib.hid (T1.out.below b2)
      have C2 := Lib.hid (heap_below b2 C1.out)
      have R2 := Lib.hid (R1.out.below b2)
      clear b2
      obtain ⟨g, rfl, _, hr⟩ := R2.out.resolve_left (by simp)
      have cb : w2.cell? ⟨w.heap.size, 0, none⟩ = some (.pointer (some ⟨q, 0, none⟩)) := cell_of_row _ _ _ _ _ _ C2.out
      have c0 := hr.cell 0 (by simp)
      have c1 := hr.cell 1 (by simp)
      have c2 := hr.cell 2 (by simp)
      simp only [List.getD_cons_zero, List.getD_cons_succ] at c0 c1 c2
      clear hr
      go_wp2_with fail
      have KS := img_keep3 (w := w) (W := w2) (q := q) (b := w.heap.size) (g := g) (m := m) ⟨cb, c0, c1, c2, T2, B2⟩ (drew_below w2)
      go_region_held3 (fun W => W.cell? ⟨w.heap.size, 0, none⟩ = some (.pointer (some ⟨q, 0, none⟩)) ∧ W.cell? ⟨g, 0, none⟩ = some (.string A) ∧ W.cell? ⟨g, 1, none⟩ = some (.string B) ∧ W.cell? ⟨g, 2, none⟩ = some (.string E) ∧ Hid (Keyed W q m) ∧ Hid (Below w.heap.size w W)) (first | assumption | with_reducible exact img_keep3 ‹_› ‹_›) (first | (go_at_call 46; refine (HY.out _ (by assumption)).mono ?_; rintro e w3 ⟨rfl, b3⟩))
      go_wp2_with fail
      go_ret2
      exact ⟨rfl, below_step KS.2.2.2.2.2.out b3⟩
  · have hZ2 : Z = ([], x) := by rw [hZ]; exact img_err hI.symm hx
    subst hZ2
    have q2 := neq0_no hx
    clear hZ hI hlen hshort hkind hkd hcs hz2 hs hv
    go_enter Tryd.func31, Tryd.ntmps31
    go_wp2_with (first | (refine wpList_load_row rfl 56 _ rfl w.heap.size rfl 56 _ _ _ C0.out Tryd.underlying56 rfl (con_info q) ?_))
    refine (HI.out _ T0.out).mono ?_; rintro e w1 ⟨⟨v, rfl, hv⟩, b1⟩
    have B1 := Lib.hid (below_step B0.out b1)
    clear b1 hv hx
    go_wp2_with fail
    go_ret2
    exact ⟨rfl, B1.out⟩
end Go.Proofs.YtedidoeoomijjaaDoor.Pl
