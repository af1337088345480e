/- The document's Encode of layer 12. -/
import Derived.Test.YthemopejebioaaaGreatWireY22
import Derived.Test.YthemopejebioaaaGreatWireY21
import Derived.Test.YthemopejebioaaaGreatWireY17
namespace Go.Proofs.YthemopejebioaaaGreat.Pl
open Go.RowKit

theorem enc_row12 {m : Ms} (hm : mayP m = true) (h : ¬ (m.kind = 1 ∧ (membersT m.mem).2 ≠ 0)) : encP m = rowP ((dataP (wordP m.kind)).1 :: fieldsP m) := by
  unfold encP
  rw [if_neg (by rw [hm]; simp), if_neg h]
theorem enc_five12 {m : Ms} (hm : mayP m = true) (h : m.kind = 1 ∧ (membersT m.mem).2 ≠ 0) : encP m = ([], 5) := by
  unfold encP
  rw [if_neg (by rw [hm]; simp), if_pos h]
/-- What Encode holds as it goes on: its message, its row. -/
def EncAt (w : World) (m : Ms) (u : Value) (v : Value) (L : List ByteArray) (V : World) : Prop := GAt V w.heap.size m u ∧ OwnT V (w.heap.size + 1) v L ∧ Below w.heap.size w V
theorem EncAt.below {w : World} {m : Ms} {u v : Value} {L : List ByteArray} {V V' : World} (h : EncAt w m u v L V) (hb : Below V.heap.size V V') : EncAt w m u v L V' := ⟨h.1.below hb, ownT_below h.2.1 hb, below_step h.2.2 hb⟩
theorem EncAt.lt {w : World} {m : Ms} {u v : Value} {L : List ByteArray} {V : World} (h : EncAt w m u v L V) : w.heap.size + 1 ≤ V.heap.size := h.1.lt
theorem EncAt.app {w : World} {m : Ms} {u v v' : Value} {L l : List ByteArray} {V w' : World} {o : Obj} (h : EncAt w m u v L V) (ho : OwnT w' (w.heap.size + 1) v' (L ++ l)) (hg : (V.alloc o).grownBy w' v.ownBlock) : EncAt w m u v' (L ++ l) w' :=
  ⟨GAt.grown (h.1.below ((Below.refl V.heap.size V).alloc (Nat.le_refl _) o)) (ownT_below h.2.1 ((Below.refl V.heap.size V).alloc (Nat.le_refl _) o)) (by omega) hg, ho, app_grown12 h.2.2 (by have := h.lt; omega) (ownT_low h.2.1 (by omega)) hg⟩
theorem EncAt.row {w : World} {m : Ms} {u v : Value} {L : List ByteArray} {V : World} (h : EncAt w m u v L V) : ∃ oo oc, v = .slice oo L.length oc ∧ TxtRow V oo L := by
  obtain ⟨oo, oc, e, _, r, _⟩ := own_shape12 h.2.1
  exact ⟨oo, oc, e, r⟩
/-- What is asked of the parts of a message that may be. -/
theorem may_x12 {m : Ms} (h : mayP m = true) (h6 : m.kind ≠ 6) : mayX m.c m.e m.q = true := by
  have k := (may_want (may_kind h) (may_bare h)).symm.trans h
  unfold wantP at k
  rw [if_neg h6] at k
  exact (Bool.and_eq_true _ _ ▸ k).1
theorem may_112 {m : Ms} (h : mayP m = true) (h1 : m.kind = 1) : orgP m.aud = true ∧ mayL m.c m.mem = true ∧ termP m.body = true := by
  have k := (may_want (may_kind h) (may_bare h)).symm.trans h
  unfold wantP at k
  rw [if_neg (by omega), if_pos h1] at k
  simp only [Bool.and_eq_true] at k
  exact ⟨k.2.1, k.2.2.1, k.2.2.2⟩
theorem may_212 {m : Ms} (h : mayP m = true) (h2 : m.kind = 2) (hy : m.yes = true) : termP m.tag = true := by
  have k := (may_want (may_kind h) (may_bare h)).symm.trans h
  unfold wantP at k
  rw [if_neg (by omega), if_neg (by omega), if_pos h2, hy] at k
  simp only [Bool.and_eq_true, Bool.not_true, Bool.false_or] at k
  exact k.2
theorem termP_size {s : ByteArray} (h : termP s = true) : s.size ≤ 16384 := by
  have k : checkP (bl s) = 0 := by unfold termP at h; exact eq_of_beq h
  have := check_len k
  rwa [bl_length] at this

set_option maxHeartbeats 8000000 in
set_option maxRecDepth 100000 in
theorem rencode12_any (m : Ms) (ao : Option Addr) (cap : Nat) (hb : m.body.size ≤ 281474976710656) (ht : m.tag.size ≤ 281474976710656) (hms : ∀ x ∈ m.mem, x.2.size ≤ 30000) (hml : m.mem.length ≤ 1000000) (w : World) (hrow : MemRow w ao m.mem) :
    Calls Tryz.prog 10 #[.agg (msC m (.slice ao m.mem.length cap))] w fun x w' => x = .returned (st2 (encP m)) ∧ Below w.heap.size w w' := by
  have HM := fun V (hV : Below w.heap.size w V) => rmay12_any m ao cap hb ht (fun x hx => by have := hms x hx; omega) hml V (hrow.below hV)
  have HW := Lib.hid (fun V => rword_any m.kind V)
  have HD := fun V => rdata_any (tb (wordP m.kind)) (by have := word_len m.kind; unfold tb; rw [size_lit]; omega) V
  rw [bl_tb] at HD
  have HX := fun V => rtxn12_any m.c m.e m.q V
  have HL := fun V (hV : Below w.heap.size w V) => rmembers12_any m.c m.e m.q m.mem ao cap hms (by omega) V (hrow.below hV)
  have HF := Lib.hid (fun V => rflag_any m.yes V)
  have HMK := @may_kind m
  have HMX := @may_x12 m
  have HM1 := @may_112 m
  have HM2 := @may_212 m
  have HER := @enc_row12 m
  have HE5 := @enc_five12 m
  obtain ⟨W0, hW0⟩ : ∃ V, V = w.alloc (.cells (msC m (.slice ao m.mem.length cap)) 26) := ⟨_, rfl⟩
  have g0 : GAt W0 w.heap.size m (.slice ao m.mem.length cap) := by rw [hW0]; exact gat_new _ _ _
  have b0 : Below w.heap.size w W0 := by rw [hW0]; exact (Below.refl _ _).alloc (Nat.le_refl _) _
  have hdw : dataP (wordP m.kind) = ((dataP (wordP m.kind)).1, 0) := by unfold dataP; rw [if_neg (by have := word_len m.kind; omega)]
  have hds : (dataP (wordP m.kind)).1.length ≤ 16384 := by rw [show dataP (wordP m.kind) = (100 :: txt (wordP m.kind), 0) from if_neg (by have := word_len m.kind; omega)]; rw [List.length_cons, txt_len]; have := word_len m.kind; have := enc_len (wordP m.kind).length; omega
  rw [hdw, show st2 ((dataP (wordP m.kind)).1, 0) = .tuple #[.string (tb (dataP (wordP m.kind)).1), .int .i64 0] from rfl] at HD
  have HD := Lib.hid HD
  obtain ⟨k, c, e, q, aud, mem, body, yes, tag⟩ := m
  dsimp only at *
  obtain ⟨n, hn⟩ : ∃ n, n = mem.length := ⟨_, rfl⟩
  rw [← hn] at HM HL g0 hW0 hml
  rw [← hn]
  clear hn hrow hms hb ht hdw
  generalize htd : tb (wordP k) = wd at *
  clear htd
  have GG := Lib.hid g0
  have BB := Lib.hid b0
  have HCE : Hid (∀ V, GAt V w.heap.size ⟨k, c, e, q, aud, mem, body, yes, tag⟩ (.slice ao n cap) → V.cell? ⟨w.heap.size, 0, none⟩ = some (.int .u8 k) ∧ V.cell? ⟨w.heap.size, 1, none⟩ = some (.int .i64 c) ∧ V.cell? ⟨w.heap.size, 2, none⟩ = some (.int .i64 e) ∧ V.cell? ⟨w.heap.size, 3, none⟩ = some (.int .i64 q) ∧ V.cell? ⟨w.heap.size, 4, none⟩ = some (.int .i64 aud) ∧ V.cell? ⟨w.heap.size, 5, none⟩ = some (.slice ao n cap) ∧ V.cell? ⟨w.heap.size, 6, none⟩ = some (.string body) ∧ V.cell? ⟨w.heap.size, 7, none⟩ = some (.bool yes) ∧ V.cell? ⟨w.heap.size, 8, none⟩ = some (.string tag)) := Lib.hid (fun V h => h.cells)
  obtain ⟨x0, x1, x2, x3, x4, x5, x6, x7, x8⟩ := HCE.out _ GG.out
  rw [hW0] at x0 x1 x2 x3 x4 x5 x6 x7 x8
  have HW0 := Lib.hid hW0
  clear hW0 g0 b0
  cases hm : mayP ⟨k, c, e, q, aud, mem, body, yes, tag⟩ with
  | false =>
    rw [hm] at HM
    have he : encP ⟨k, c, e, q, aud, mem, body, yes, tag⟩ = ([], 2) := by unfold encP; rw [if_pos hm]
    rw [he, show st2 (([] : List UInt8), 2) = .tuple #[.string ⟨#[]⟩, .int .i64 2] from rfl]
    have HM := Lib.hid HM
    clear HL HX HMK HMX HM1 HM2 HER HE5 hm he
    go_enter Tryz.func10, Tryz.ntmps10
    go_wp2_with fail
    rw [← HW0.out]
    refine (HM.out _ BB.out).mono ?_; rintro e1 w1 ⟨rfl, b1⟩
    have BB := Lib.hid (below_step BB.out b1)
    clear b1 x0 x1 x2 x3 x4 x5 x6 x7 x8
    go_wp2_with fail
    go_ret2
    exact ⟨rfl, BB.out⟩
  | true =>
    rw [hm] at HM
    have HM := Lib.hid HM
    have hkk := HMK hm
    have HMX := HMX hm
    have HM1 := HM1 hm
    have HM2 := HM2 hm
    have HER := HER hm
    have HE5 := HE5 hm
    generalize hRES : encP ⟨k, c, e, q, aud, mem, body, yes, tag⟩ = RES at *
    obtain ⟨rs, re⟩ := RES
    rw [show st2 (rs, re) = .tuple #[.string (tb rs), .int .i64 (re : Nat)] from rfl]
    generalize hwt : tb (dataP (wordP k)).1 = wT at *
    have hws : wT.size ≤ 100000 := by rw [← hwt]; unfold tb; rw [size_lit]; omega
    clear hm HMK hds hRES
    go_enter Tryz.func10, Tryz.ntmps10
    go_wp2_with fail
    rw [← HW0.out]
    refine (HM.out _ BB.out).mono ?_; rintro e1 w1 ⟨rfl, b1⟩
    have GG := Lib.hid (GG.out.below b1)
    have BB := Lib.hid (below_step BB.out b1)
    clear b1 x0 x1 x2 x3 x4 x5 x6 x7 x8 HM HW0
    obtain ⟨z0, z1, z2, z3, z4, z5, z6, z7, z8⟩ := HCE.out _ GG.out
    go_wp2_with fail
    refine (HW.out _).mono ?_; rintro e2 w2 ⟨rfl, hw⟩; rw [hw]; clear hw w2
    go_wp2_with fail
    refine (HD.out _).mono ?_; rintro e3 w3 ⟨rfl, b3⟩
    have GG := Lib.hid (GG.out.below b3)
    have BB := Lib.hid (below_step BB.out b3)
    clear b3 z0 z1 z2 z3 z4 z5 z6 z7 z8 HW HD
    obtain ⟨W4, hW4⟩ : ∃ V, V = w3.alloc (.cells #[.string wT] 9) := ⟨_, rfl⟩
    have ba : Below w3.heap.size w3 W4 := by rw [hW4]; exact (Below.refl _ _).alloc (Nat.le_refl _) _
    have EE : Hid (EncAt w ⟨k, c, e, q, aud, mem, body, yes, tag⟩ (.slice ao n cap) (.slice (some ⟨w3.heap.size, 0, none⟩) 1 1) [wT] W4) := Lib.hid ⟨GG.out.below ba, by rw [hW4]; exact ownT_low (ownT_one w3 wT) GG.out.lt, below_step BB.out ba⟩
    obtain ⟨z0, z1, z2, z3, z4, z5, z6, z7, z8⟩ := HCE.out _ EE.out.1
    rw [hW4] at z0 z1 z2 z3 z4 z5 z6 z7 z8
    have HW4 := Lib.hid hW4
    clear hW4 ba GG BB
    have hc : k = 1 ∨ k = 2 ∨ k = 3 ∨ k = 4 ∨ k = 5 ∨ k = 6 := by omega
    rcases hc with rfl | rfl | rfl | rfl | rfl | rfl
    · have hx := HMX (by decide)
      rw [show txP c e q = (txnT c e q, 0) from if_pos hx, show st2 (txnT c e q, 0) = .tuple #[.string (tb (txnT c e q)), .int .i64 0] from rfl] at HX
      obtain ⟨ho1, hl1, ht1⟩ := HM1 rfl
      have hbs := termP_size ht1
      have hio := orgP_iff.1 ho1
      have HN := Lib.hid (fun V => rnum12_any aud (by omega) (by omega) V)
      have hns := numT_size (v := aud) hio.1 (by omega)
      rw [show mtP c mem = if (membersT mem).2 = 0 then ((membersT mem).1, 0) else ([], 5) by unfold mtP; rw [if_pos hl1]] at HL
      have hxs : (tb (txnT c e q)).size ≤ 16384 := by have := rowP_size (txnL c e q); unfold tb; rw [size_lit]; exact this
      have hmz : (tb (membersT mem).1).size ≤ 16384 := by
        unfold tb; rw [size_lit]
        by_cases k : ∀ m ∈ mem, (memT m).2 = 0
        · rw [show membersT mem = rowP (mem.map fun m => (memT m).1) from if_pos k]; exact rowP_size _
        · rw [show membersT mem = ([], 5) from if_neg k]; simp
      by_cases h0 : (membersT mem).2 = 0
      · rw [if_pos h0, show st2 ((membersT mem).1, 0) = .tuple #[.string (tb (membersT mem).1), .int .i64 0] from rfl] at HL
        have HR : ∀ oo oc V, TxtRow V oo [wT, tb (txnT c e q), numT aud, tb (membersT mem).1, body] → Calls Tryz.prog 40 #[.slice oo 5 oc] V fun x w2 => x = .returned (.tuple #[.string (tb rs), .int .i64 (re : Nat)]) ∧ Below V.heap.size V w2 := fun oo oc V hV => by
          have h := rrow6_any [wT, tb (txnT c e q), numT aud, tb (membersT mem).1, body] oo oc (by simp) (fun x hx => by
            simp only [List.mem_cons, List.not_mem_nil, or_false] at hx
            rcases hx with rfl | rfl | rfl | rfl | rfl
            · exact hws
            · omega
            · omega
            · omega
            · omega) V hV
          rw [show ([wT, tb (txnT c e q), numT aud, tb (membersT mem).1, body] : List ByteArray).map bl = bl wT :: fieldsP ⟨1, c, e, q, aud, mem, body, yes, tag⟩ from rfl] at h
          have hE := HER (fun h => h.2 h0)
          rw [show (dataP (wordP 1)).1 = bl wT from by rw [← hwt]; rfl] at hE
          rw [← hE] at h
          exact h
        have HR := Lib.hid HR
        clear HER HE5 HMX HM1 HM2 hkk hwt hws hx ho1 hl1 ht1 hbs hio hns hxs hmz h0
        generalize tb (txnT c e q) = tx at *
        generalize numT aud = na at *
        generalize tb (membersT mem).1 = mt at *
        have HX := Lib.hid HX
        have HL := Lib.hid HL
        go_wp2_with fail
        rw [← HW4.out]
        refine (HX.out _).mono ?_; rintro e5 w5 ⟨rfl, b5⟩
        have EE := Lib.hid (EE.out.below b5)
        clear b5 z0 z1 z2 z3 z4 z5 z6 z7 z8
        go_wp2_with (at_builtin; refine wpList_appT (B := w.heap.size + 1) (v := (.slice (some ⟨w3.heap.size, 0, none⟩) 1 1)) (l := [wT]) (m := [tx]) (ao := some ⟨w5.heap.size, 0, none⟩) (cap := 1) rfl (.tmp 32) (.tmp 34) rfl rfl rfl rfl (ownT_below EE.out.2.1 ((Below.refl w5.heap.size w5).alloc (Nat.le_refl _) _)) (by have := EE.out.lt; rw [World.size_alloc]; omega) (txt_one w5 tx) (by intro e; cases e) (by simp) ?_; intro v6 w6 ho hg; have EE := Lib.hid (EE.out.app ho hg); clear ho hg; obtain ⟨z0, z1, z2, z3, z4, z5, z6, z7, z8⟩ := HCE.out _ EE.out.1)
        refine (HL.out _ EE.out.2.2).mono ?_; rintro e7 w7 ⟨rfl, b7⟩
        have EE := Lib.hid (EE.out.below b7)
        clear b7 z0 z1 z2 z3 z4 z5 z6 z7 z8
        go_wp2_with fail
        have GG := Lib.hid (EE.out.1.below (drew12 w7))
        have BW := Lib.hid (drew12 w7)
        have HC46 : Hid (∀ V, GAt V w.heap.size ⟨1, c, e, q, aud, mem, body, yes, tag⟩ (.slice ao n cap) → V.cell? ⟨w.heap.size, 4, none⟩ = some (.int .i64 aud) ∧ V.cell? ⟨w.heap.size, 6, none⟩ = some (.string body)) := Lib.hid (fun V h => ⟨h.cells.2.2.2.2.1, h.cells.2.2.2.2.2.2.1⟩)
        have KS := HC46.out _ GG.out
        refine wp_region_held_drew (S := fun W => W.cell? ⟨w.heap.size, 4, none⟩ = some (.int .i64 aud) ∧ W.cell? ⟨w.heap.size, 6, none⟩ = some (.string body)) (by kernel_rfl) (by first | assumption | exact KS) (fun hHeld => ?_)
        generalize w7.drew = wz at *
        refine wpAnyH_take (i := 0) (oi := { dst := some 51, op := Op.move (Operand.tmp 6), type := 53, pos := "ref.go:203", after := #[], guard := none }) (v := ?_) rfl (by kernel_rfl) (by kernel_rfl) (by kernel_rfl) (fun _ _ _ h => h) (Or.inl ⟨by rfl, ?_⟩) (by assumption) ?_
        rotate_left 1
        · (intro w hSw; (try dsimp only at hSw); go_simp; try with_reducible rfl)
        (try simp only [Act.put, List.setIfInBounds_toArray, List.set_cons_zero, List.set_cons_succ])
        refine wpAnyH_take (i := 1) (oi := { dst := some 52, op := Op.fieldAddr 26 (Operand.tmp 1) 2, type := 0, pos := "ref.go:203", after := #[], guard := none }) (v := ?_) rfl (by kernel_rfl) (by kernel_rfl) (by kernel_rfl) (fun _ _ _ h => h) (Or.inl ⟨by rfl, ?_⟩) (by assumption) ?_
        rotate_left 1
        · (intro w hSw; (try dsimp only at hSw); go_simp; try with_reducible rfl)
        (try simp only [Act.put, List.setIfInBounds_toArray, List.set_cons_zero, List.set_cons_succ])
        refine wpAnyH_take (i := 2) (oi := { dst := some 53, op := Op.load 3 (Operand.tmp 52), type := 3, pos := "ref.go:203", after := #[{ on := 1, ground := Ground.data }], guard := none }) (v := ?_) rfl (by kernel_rfl) (by kernel_rfl) (by kernel_rfl) (fun _ _ _ h => h) (Or.inl ⟨by rfl, ?_⟩) (by assumption) ?_
        rotate_left 1
        · (intro w hSw; (try dsimp only at hSw); go_simp; try with_reducible rfl)
        (try simp only [Act.put, List.setIfInBounds_toArray, List.set_cons_zero, List.set_cons_succ])
        refine wpAnyH_take (i := 4) (oi := { dst := some 55, op := Op.move (Operand.tmp 9), type := 9, pos := "ref.go:203", after := #[], guard := none }) (v := ?_) rfl (by kernel_rfl) (by kernel_rfl) (by kernel_rfl) (fun _ _ _ h => h) (Or.inl ⟨by rfl, ?_⟩) (by assumption) ?_
        rotate_left 1
        · (intro w hSw; (try dsimp only at hSw); go_simp; try with_reducible rfl)
        (try simp only [Act.put, List.setIfInBounds_toArray, List.set_cons_zero, List.set_cons_succ])
        refine wpAnyH_take (i := 5) (oi := { dst := some 56, op := Op.fieldAddr 26 (Operand.tmp 1) 4, type := 0, pos := "ref.go:203", after := #[], guard := none }) (v := ?_) rfl (by kernel_rfl) (by kernel_rfl) (by kernel_rfl) (fun _ _ _ h => h) (Or.inl ⟨by rfl, ?_⟩) (by assumption) ?_
        rotate_left 1
        · (intro w hSw; (try dsimp only at hSw); go_simp; try with_reducible rfl)
        (try simp only [Act.put, List.setIfInBounds_toArray, List.set_cons_zero, List.set_cons_succ])
        refine wpAnyH_take (i := 6) (oi := { dst := some 57, op := Op.load 9 (Operand.tmp 56), type := 9, pos := "ref.go:203", after := #[{ on := 5, ground := Ground.data }], guard := none }) (v := ?_) rfl (by kernel_rfl) (by kernel_rfl) (by kernel_rfl) (fun _ _ _ h => h) (Or.inl ⟨by rfl, ?_⟩) (by assumption) ?_
        rotate_left 1
        · (intro w hSw; (try dsimp only at hSw); go_simp; try with_reducible rfl)
        (try simp only [Act.put, List.setIfInBounds_toArray, List.set_cons_zero, List.set_cons_succ])
        refine wpAnyH_ready (rs := [3]) (by kernel_rfl) (by simp) ?_
        refine AllReadyH.cons (o := { dst := some 54, op := Op.call { callee := Callee.value (Operand.func 38), args := #[Operand.tmp 53], argTypes := #[3] }, type := 9, pos := "ref.go:203", after := #[{ on := 2, ground := Ground.data }], guard := none }) rfl (fun K hK => ?_) AllReadyH.nil
        go_simp
        refine (HN.out _).mono ?_; rintro e8 w8 ⟨rfl, b8⟩
        have GG := Lib.hid (GG.out.below b8)
        have BW := Lib.hid (below_step BW.out b8)
        clear b8
        refine hK.out _ _ (HC46.out _ GG.out) (fun hHeld => ?_)
        clear hK K
        (try simp only [Act.put, List.setIfInBounds_toArray, List.set_cons_zero, List.set_cons_succ])
        refine wpAnyH_ready (rs := [7]) (by kernel_rfl) (by simp) ?_
        refine AllReadyH.cons (o := { dst := some 58, op := Op.buildSlice 53 3 #[(0, Operand.tmp 54), (1, Operand.tmp 55), (2, Operand.tmp 57)], type := 53, pos := "ref.go:203", after := #[{ on := 3, ground := Ground.data }, { on := 4, ground := Ground.data }, { on := 6, ground := Ground.data }], guard := none }) rfl (fun K hK => ?_) AllReadyH.nil
        go_simp
        have G7 := Lib.hid (GG.out.below ((Below.refl w8.heap.size w8).alloc (Nat.le_refl _) (.cells #[.string na, .string mt, .string body] 9)))
        refine hK.out _ _ (HC46.out _ G7.out) (fun hHeld => ?_)
        clear hK K
        (try simp only [Act.put, List.setIfInBounds_toArray, List.set_cons_zero, List.set_cons_succ])
        refine wpAnyH_ready (rs := [8]) (by kernel_rfl) (by simp) ?_
        refine AllReadyH.cons (o := { dst := some 59, op := Op.call { callee := Callee.builtin Builtin.append, args := #[Operand.tmp 51, Operand.tmp 58], argTypes := #[53, 53] }, type := 53, pos := "ref.go:203", after := #[{ on := 0, ground := Ground.data }, { on := 7, ground := Ground.data }, { on := 3, ground := Ground.chain }], guard := none }) rfl (fun K hK => ?_) AllReadyH.nil
        have E8 := Lib.hid (EE.out.below BW.out)
        refine wpOp_appT (by kernel_rfl) _ _ rfl rfl (B := w.heap.size + 1) (v := v6) (l := [wT] ++ [tx]) (m := [na, mt, body]) (ao := some ⟨w8.heap.size, 0, none⟩) (cap := 3) rfl rfl (ownT_below E8.out.2.1 ((Below.refl w8.heap.size w8).alloc (Nat.le_refl _) _)) (by have := E8.out.lt; rw [World.size_alloc]; omega) (txt_three w8 na mt body) (by intro e; cases e) (by simp) ?_
        intro v9 w9 ho hg
        have EE := Lib.hid (E8.out.app ho hg)
        clear ho hg
        refine hK.out _ _ (HC46.out _ EE.out.1) (fun hHeld => ?_)
        clear hK K
        (try simp only [Act.put, List.setIfInBounds_toArray, List.set_cons_zero, List.set_cons_succ])
        refine wpAnyH_take (i := 9) (oi := { dst := some 6, op := Op.assign (Operand.tmp 59), type := 53, pos := "ref.go:203", after := #[{ on := 8, ground := Ground.data }, { on := 8, ground := Ground.chain }, { on := 0, ground := Ground.phase }, { on := 1, ground := Ground.phase }, { on := 2, ground := Ground.phase }, { on := 3, ground := Ground.phase }, { on := 4, ground := Ground.phase }, { on := 5, ground := Ground.phase }, { on := 6, ground := Ground.phase }, { on := 7, ground := Ground.phase }, { on := 8, ground := Ground.phase }], guard := none }) (v := ?_) rfl (by kernel_rfl) (by kernel_rfl) (by kernel_rfl) (fun _ _ _ h => h) (Or.inl ⟨by rfl, ?_⟩) (by assumption) ?_
        rotate_left 1
        · (intro w hSw; (try dsimp only at hSw); go_simp; try with_reducible rfl)
        (try simp only [Act.put, List.setIfInBounds_toArray, List.set_cons_zero, List.set_cons_succ])
        refine wpAnyH_done (by kernel_rfl) ?_ _
        clear hHeld
        go_wp2_with fail
        obtain ⟨oo, oc, hv, hr⟩ := (show EncAt _ _ _ _ [wT, tx, na, mt, body] _ from EE.out).row
        have hv : _ = Value.slice oo 5 oc := hv
        cases hv
        have HRR := Lib.hid (HR.out _ oc _ hr)
        have BE := Lib.hid EE.out.2.2
        clear hr EE
        refine HRR.out.mono ?_; rintro e10 w10 ⟨rfl, b10⟩
        go_wp2_with fail
        go_ret2
        exact ⟨rfl, below_step BE.out b10⟩
      · rw [if_neg h0, show st2 (([] : List UInt8), 5) = .tuple #[.string ⟨#[]⟩, .int .i64 5] from rfl] at HL
        have hE := HE5 ⟨rfl, h0⟩
        injection hE with e1 e2
        subst e1; subst e2
        clear HER HE5 HMX HM1 HM2 hkk hwt hws hx ho1 hl1 ht1 hbs hio hns hxs hmz h0
        generalize tb (txnT c e q) = tx at *
        have HX := Lib.hid HX
        have HL := Lib.hid HL
        go_wp2_with fail
        rw [← HW4.out]
        refine (HX.out _).mono ?_; rintro e5 w5 ⟨rfl, b5⟩
        have EE := Lib.hid (EE.out.below b5)
        clear b5 z0 z1 z2 z3 z4 z5 z6 z7 z8
        go_wp2_with (at_builtin; refine wpList_appT (B := w.heap.size + 1) (v := (.slice (some ⟨w3.heap.size, 0, none⟩) 1 1)) (l := [wT]) (m := [tx]) (ao := some ⟨w5.heap.size, 0, none⟩) (cap := 1) rfl (.tmp 32) (.tmp 34) rfl rfl rfl rfl (ownT_below EE.out.2.1 ((Below.refl w5.heap.size w5).alloc (Nat.le_refl _) _)) (by have := EE.out.lt; rw [World.size_alloc]; omega) (txt_one w5 tx) (by intro e; cases e) (by simp) ?_; intro v6 w6 ho hg; have EE := Lib.hid (EE.out.app ho hg); clear ho hg; obtain ⟨z0, z1, z2, z3, z4, z5, z6, z7, z8⟩ := HCE.out _ EE.out.1)
        refine (HL.out _ EE.out.2.2).mono ?_; rintro e7 w7 ⟨rfl, b7⟩
        have BE := Lib.hid (below_step EE.out.2.2 b7)
        clear b7 EE z0 z1 z2 z3 z4 z5 z6 z7 z8
        go_wp2_with fail
        go_ret2
        exact ⟨rfl, BE.out⟩
    · have hx := HMX (by decide)
      rw [show txP c e q = (txnT c e q, 0) from if_pos hx, show st2 (txnT c e q, 0) = .tuple #[.string (tb (txnT c e q)), .int .i64 0] from rfl] at HX
      have hxs : (tb (txnT c e q)).size ≤ 16384 := by have := rowP_size (txnL c e q); unfold tb; rw [size_lit]; exact this
      cases yes with
      | true =>
        have hgs := termP_size (HM2 rfl rfl)
        have HR : ∀ oo oc V, TxtRow V oo [wT, tb (txnT c e q), numT (bitP true), tag] → Calls Tryz.prog 40 #[.slice oo 4 oc] V fun x w2 => x = .returned (.tuple #[.string (tb rs), .int .i64 (re : Nat)]) ∧ Below V.heap.size V w2 := fun oo oc V hV => by
          have h := rrow6_any [wT, tb (txnT c e q), numT (bitP true), tag] oo oc (by simp) (fun x hx => by
            simp only [List.mem_cons, List.not_mem_nil, or_false] at hx
            rcases hx with rfl | rfl | rfl | rfl
            · exact hws
            · omega
            · have := numT_size (v := bitP true) (by decide) (by decide); omega
            · omega) V hV
          rw [show ([wT, tb (txnT c e q), numT (bitP true), tag] : List ByteArray).map bl = bl wT :: fieldsP ⟨2, c, e, q, aud, mem, body, true, tag⟩ from rfl] at h
          have hE := HER (fun h => by cases h.1)
          rw [show (dataP (wordP 2)).1 = bl wT from by rw [← hwt]; rfl] at hE
          rw [← hE] at h
          exact h
        have HR := Lib.hid HR
        clear HER HE5 HMX HM1 HM2 HL hkk hwt hws hx hxs
        generalize tb (txnT c e q) = tx at *
        generalize numT (bitP true) = fl at *
        have HX := Lib.hid HX
        go_wp2_with fail
        rw [← HW4.out]
        refine (HX.out _).mono ?_; rintro e5 w5 ⟨rfl, b5⟩
        have EE := Lib.hid (EE.out.below b5)
        clear b5 z0 z1 z2 z3 z4 z5 z6 z7 z8
        go_wp2_with (at_builtin; refine wpList_appT (B := w.heap.size + 1) (v := (.slice (some ⟨w3.heap.size, 0, none⟩) 1 1)) (l := [wT]) (m := [tx]) (ao := some ⟨w5.heap.size, 0, none⟩) (cap := 1) rfl (.tmp 32) (.tmp 34) rfl rfl rfl rfl (ownT_below EE.out.2.1 ((Below.refl w5.heap.size w5).alloc (Nat.le_refl _) _)) (by have := EE.out.lt; rw [World.size_alloc]; omega) (txt_one w5 tx) (by intro e; cases e) (by simp) ?_; intro v6 w6 ho hg; have EE := Lib.hid (EE.out.app ho hg); clear ho hg; obtain ⟨z0, z1, z2, z3, z4, z5, z6, z7, z8⟩ := HCE.out _ EE.out.1)
        refine (HF.out _).mono ?_; rintro e7 w7 ⟨rfl, b7⟩
        have EE := Lib.hid (EE.out.below b7)
        clear b7 z0 z1 z2 z3 z4 z5 z6 z7 z8
        obtain ⟨z0, z1, z2, z3, z4, z5, z6, z7, z8⟩ := HCE.out _ EE.out.1
        go_wp2_with (at_builtin; first | (refine wpList_appT (B := w.heap.size + 1) (v := v8) (l := [wT] ++ [tx] ++ [fl]) (m := [tag]) (ao := some ⟨w8.heap.size, 0, none⟩) (cap := 1) rfl (.tmp 76) (.tmp 79) rfl rfl rfl rfl (ownT_below EE.out.2.1 ((Below.refl w8.heap.size w8).alloc (Nat.le_refl _) _)) (by have := EE.out.lt; rw [World.size_alloc]; omega) (txt_one w8 tag) (by intro e; cases e) (by simp) ?_; intro v9 w9 ho hg; have EE := Lib.hid (EE.out.app ho hg); clear ho hg) | (refine wpList_appT (B := w.heap.size + 1) (v := v6) (l := [wT] ++ [tx]) (m := [fl]) (ao := some ⟨w7.heap.size, 0, none⟩) (cap := 1) rfl (.tmp 63) (.tmp 67) rfl rfl rfl rfl (ownT_below EE.out.2.1 ((Below.refl w7.heap.size w7).alloc (Nat.le_refl _) _)) (by have := EE.out.lt; rw [World.size_alloc]; omega) (txt_one w7 fl) (by intro e; cases e) (by simp) ?_; intro v8 w8 ho hg; have EE := Lib.hid (EE.out.app ho hg); clear ho hg z0 z1 z2 z3 z4 z5 z6 z7 z8; obtain ⟨z0, z1, z2, z3, z4, z5, z6, z7, z8⟩ := HCE.out _ EE.out.1))
        obtain ⟨oo, oc, hv, hr⟩ := (show EncAt _ _ _ _ [wT, tx, fl, tag] _ from EE.out).row
        have hv : _ = Value.slice oo 4 oc := hv
        cases hv
        have HRR := Lib.hid (HR.out _ oc _ hr)
        have BE := Lib.hid EE.out.2.2
        clear hr EE
        refine HRR.out.mono ?_; rintro e10 w10 ⟨rfl, b10⟩
        go_wp2_with fail
        go_ret2
        exact ⟨rfl, below_step BE.out b10⟩
      | false =>
        have HR : ∀ oo oc V, TxtRow V oo [wT, tb (txnT c e q), numT (bitP false)] → Calls Tryz.prog 40 #[.slice oo 3 oc] V fun x w2 => x = .returned (.tuple #[.string (tb rs), .int .i64 (re : Nat)]) ∧ Below V.heap.size V w2 := fun oo oc V hV => by
          have h := rrow6_any [wT, tb (txnT c e q), numT (bitP false)] oo oc (by simp) (fun x hx => by
            simp only [List.mem_cons, List.not_mem_nil, or_false] at hx
            rcases hx with rfl | rfl | rfl
            · exact hws
            · omega
            · have := numT_size (v := bitP false) (by decide) (by decide); omega) V hV
          rw [show ([wT, tb (txnT c e q), numT (bitP false)] : List ByteArray).map bl = bl wT :: fieldsP ⟨2, c, e, q, aud, mem, body, false, tag⟩ from rfl] at h
          have hE := HER (fun h => by cases h.1)
          rw [show (dataP (wordP 2)).1 = bl wT from by rw [← hwt]; rfl] at hE
          rw [← hE] at h
          exact h
        have HR := Lib.hid HR
        clear HER HE5 HMX HM1 HM2 HL hkk hwt hws hx hxs
        generalize tb (txnT c e q) = tx at *
        generalize numT (bitP false) = fl at *
        have HX := Lib.hid HX
        go_wp2_with fail
        rw [← HW4.out]
        refine (HX.out _).mono ?_; rintro e5 w5 ⟨rfl, b5⟩
        have EE := Lib.hid (EE.out.below b5)
        clear b5 z0 z1 z2 z3 z4 z5 z6 z7 z8
        go_wp2_with (at_builtin; refine wpList_appT (B := w.heap.size + 1) (v := (.slice (some ⟨w3.heap.size, 0, none⟩) 1 1)) (l := [wT]) (m := [tx]) (ao := some ⟨w5.heap.size, 0, none⟩) (cap := 1) rfl (.tmp 32) (.tmp 34) rfl rfl rfl rfl (ownT_below EE.out.2.1 ((Below.refl w5.heap.size w5).alloc (Nat.le_refl _) _)) (by have := EE.out.lt; rw [World.size_alloc]; omega) (txt_one w5 tx) (by intro e; cases e) (by simp) ?_; intro v6 w6 ho hg; have EE := Lib.hid (EE.out.app ho hg); clear ho hg; obtain ⟨z0, z1, z2, z3, z4, z5, z6, z7, z8⟩ := HCE.out _ EE.out.1)
        refine (HF.out _).mono ?_; rintro e7 w7 ⟨rfl, b7⟩
        have EE := Lib.hid (EE.out.below b7)
        clear b7 z0 z1 z2 z3 z4 z5 z6 z7 z8
        obtain ⟨z0, z1, z2, z3, z4, z5, z6, z7, z8⟩ := HCE.out _ EE.out.1
        go_wp2_with (at_builtin; refine wpList_appT (B := w.heap.size + 1) (v := v6) (l := ([wT] ++ [tx])) (m := [fl]) (ao := some ⟨w7.heap.size, 0, none⟩) (cap := 1) rfl (.tmp 63) (.tmp 67) rfl rfl rfl rfl (ownT_below EE.out.2.1 ((Below.refl w7.heap.size w7).alloc (Nat.le_refl _) _)) (by have := EE.out.lt; rw [World.size_alloc]; omega) (txt_one w7 fl) (by intro e; cases e) (by simp) ?_; intro v8 w8 ho hg; have EE := Lib.hid (EE.out.app ho hg); clear ho hg; obtain ⟨z0, z1, z2, z3, z4, z5, z6, z7, z8⟩ := HCE.out _ EE.out.1)
        obtain ⟨oo, oc, hv, hr⟩ := (show EncAt _ _ _ _ [wT, tx, fl] _ from EE.out).row
        have hv : _ = Value.slice oo 3 oc := hv
        cases hv
        have HRR := Lib.hid (HR.out _ oc _ hr)
        have BE := Lib.hid EE.out.2.2
        clear hr EE
        refine HRR.out.mono ?_; rintro e9 w9 ⟨rfl, b9⟩
        go_wp2_with fail
        go_ret2
        exact ⟨rfl, below_step BE.out b9⟩
    · have hx := HMX (by decide)
      rw [show txP c e q = (txnT c e q, 0) from if_pos hx, show st2 (txnT c e q, 0) = .tuple #[.string (tb (txnT c e q)), .int .i64 0] from rfl] at HX
      have hxs : (tb (txnT c e q)).size ≤ 16384 := by have := rowP_size (txnL c e q); unfold tb; rw [size_lit]; exact this
      have HR : ∀ oo oc V, TxtRow V oo [wT, tb (txnT c e q), numT (bitP yes)] → Calls Tryz.prog 40 #[.slice oo 3 oc] V fun x w2 => x = .returned (.tuple #[.string (tb rs), .int .i64 (re : Nat)]) ∧ Below V.heap.size V w2 := fun oo oc V hV => by
        have h := rrow6_any [wT, tb (txnT c e q), numT (bitP yes)] oo oc (by simp) (fun x hx => by
          simp only [List.mem_cons, List.not_mem_nil, or_false] at hx
          rcases hx with rfl | rfl | rfl
          · exact hws
          · omega
          · have := numT_size (v := bitP yes) (by cases yes <;> decide) (by cases yes <;> decide); omega) V hV
        rw [show ([wT, tb (txnT c e q), numT (bitP yes)] : List ByteArray).map bl = bl wT :: fieldsP ⟨3, c, e, q, aud, mem, body, yes, tag⟩ from rfl] at h
        have hE := HER (fun h => by cases h.1)
        rw [show (dataP (wordP 3)).1 = bl wT from by rw [← hwt]; rfl] at hE
        rw [← hE] at h
        exact h
      have HR := Lib.hid HR
      clear HER HE5 HMX HM1 HM2 HL hkk hwt hws hx hxs
      generalize tb (txnT c e q) = tx at *
      generalize numT (bitP yes) = fl at *
      have HX := Lib.hid HX
      go_wp2_with fail
      rw [← HW4.out]
      refine (HX.out _).mono ?_; rintro e5 w5 ⟨rfl, b5⟩
      have EE := Lib.hid (EE.out.below b5)
      clear b5 z0 z1 z2 z3 z4 z5 z6 z7 z8
      go_wp2_with (at_builtin; refine wpList_appT (B := w.heap.size + 1) (v := (.slice (some ⟨w3.heap.size, 0, none⟩) 1 1)) (l := [wT]) (m := [tx]) (ao := some ⟨w5.heap.size, 0, none⟩) (cap := 1) rfl (.tmp 32) (.tmp 34) rfl rfl rfl rfl (ownT_below EE.out.2.1 ((Below.refl w5.heap.size w5).alloc (Nat.le_refl _) _)) (by have := EE.out.lt; rw [World.size_alloc]; omega) (txt_one w5 tx) (by intro e; cases e) (by simp) ?_; intro v6 w6 ho hg; have EE := Lib.hid (EE.out.app ho hg); clear ho hg; obtain ⟨z0, z1, z2, z3, z4, z5, z6, z7, z8⟩ := HCE.out _ EE.out.1)
      refine (HF.out _).mono ?_; rintro e7 w7 ⟨rfl, b7⟩
      have EE := Lib.hid (EE.out.below b7)
      clear b7 z0 z1 z2 z3 z4 z5 z6 z7 z8
      obtain ⟨z0, z1, z2, z3, z4, z5, z6, z7, z8⟩ := HCE.out _ EE.out.1
      go_wp2_with (at_builtin; refine wpList_appT (B := w.heap.size + 1) (v := v6) (l := ([wT] ++ [tx])) (m := [fl]) (ao := some ⟨w7.heap.size, 0, none⟩) (cap := 1) rfl (.tmp 63) (.tmp 67) rfl rfl rfl rfl (ownT_below EE.out.2.1 ((Below.refl w7.heap.size w7).alloc (Nat.le_refl _) _)) (by have := EE.out.lt; rw [World.size_alloc]; omega) (txt_one w7 fl) (by intro e; cases e) (by simp) ?_; intro v8 w8 ho hg; have EE := Lib.hid (EE.out.app ho hg); clear ho hg; obtain ⟨z0, z1, z2, z3, z4, z5, z6, z7, z8⟩ := HCE.out _ EE.out.1)
      obtain ⟨oo, oc, hv, hr⟩ := (show EncAt _ _ _ _ [wT, tx, fl] _ from EE.out).row
      have hv : _ = Value.slice oo 3 oc := hv
      cases hv
      have HRR := Lib.hid (HR.out _ oc _ hr)
      have BE := Lib.hid EE.out.2.2
      clear hr EE
      refine HRR.out.mono ?_; rintro e9 w9 ⟨rfl, b9⟩
      go_wp2_with fail
      go_ret2
      exact ⟨rfl, below_step BE.out b9⟩
    · have hx := HMX (by decide)
      rw [show txP c e q = (txnT c e q, 0) from if_pos hx, show st2 (txnT c e q, 0) = .tuple #[.string (tb (txnT c e q)), .int .i64 0] from rfl] at HX
      have hxs : (tb (txnT c e q)).size ≤ 16384 := by have := rowP_size (txnL c e q); unfold tb; rw [size_lit]; exact this
      have HR : ∀ oo oc V, TxtRow V oo [wT, tb (txnT c e q)] → Calls Tryz.prog 40 #[.slice oo 2 oc] V fun x w2 => x = .returned (.tuple #[.string (tb rs), .int .i64 (re : Nat)]) ∧ Below V.heap.size V w2 := fun oo oc V hV => by
        have h := rrow6_any [wT, tb (txnT c e q)] oo oc (by simp) (fun x hx => by
          simp only [List.mem_cons, List.not_mem_nil, or_false] at hx
          rcases hx with rfl | rfl
          · exact hws
          · omega) V hV
        rw [show ([wT, tb (txnT c e q)] : List ByteArray).map bl = bl wT :: fieldsP ⟨4, c, e, q, aud, mem, body, yes, tag⟩ from rfl] at h
        have hE := HER (fun h => by cases h.1)
        rw [show (dataP (wordP 4)).1 = bl wT from by rw [← hwt]; rfl] at hE
        rw [← hE] at h
        exact h
      have HR := Lib.hid HR
      clear HER HE5 HMX HM1 HM2 HL hkk hwt hws hx hxs
      generalize tb (txnT c e q) = tx at *
      have HX := Lib.hid HX
      go_wp2_with fail
      rw [← HW4.out]
      refine (HX.out _).mono ?_; rintro e5 w5 ⟨rfl, b5⟩
      have EE := Lib.hid (EE.out.below b5)
      clear b5 z0 z1 z2 z3 z4 z5 z6 z7 z8
      go_wp2_with (at_builtin; refine wpList_appT (B := w.heap.size + 1) (v := (.slice (some ⟨w3.heap.size, 0, none⟩) 1 1)) (l := [wT]) (m := [tx]) (ao := some ⟨w5.heap.size, 0, none⟩) (cap := 1) rfl (.tmp 32) (.tmp 34) rfl rfl rfl rfl (ownT_below EE.out.2.1 ((Below.refl w5.heap.size w5).alloc (Nat.le_refl _) _)) (by have := EE.out.lt; rw [World.size_alloc]; omega) (txt_one w5 tx) (by intro e; cases e) (by simp) ?_; intro v6 w6 ho hg; have EE := Lib.hid (EE.out.app ho hg); clear ho hg; obtain ⟨z0, z1, z2, z3, z4, z5, z6, z7, z8⟩ := HCE.out _ EE.out.1)
      obtain ⟨oo, oc, hv, hr⟩ := (show EncAt _ _ _ _ [wT, tx] _ from EE.out).row
      have hv : _ = Value.slice oo 2 oc := hv
      cases hv
      have HRR := Lib.hid (HR.out _ oc _ hr)
      have BE := Lib.hid EE.out.2.2
      clear hr EE
      refine HRR.out.mono ?_; rintro e9 w9 ⟨rfl, b9⟩
      go_wp2_with fail
      go_ret2
      exact ⟨rfl, below_step BE.out b9⟩
    · have hx := HMX (by decide)
      rw [show txP c e q = (txnT c e q, 0) from if_pos hx, show st2 (txnT c e q, 0) = .tuple #[.string (tb (txnT c e q)), .int .i64 0] from rfl] at HX
      have hxs : (tb (txnT c e q)).size ≤ 16384 := by have := rowP_size (txnL c e q); unfold tb; rw [size_lit]; exact this
      have HR : ∀ oo oc V, TxtRow V oo [wT, tb (txnT c e q)] → Calls Tryz.prog 40 #[.slice oo 2 oc] V fun x w2 => x = .returned (.tuple #[.string (tb rs), .int .i64 (re : Nat)]) ∧ Below V.heap.size V w2 := fun oo oc V hV => by
        have h := rrow6_any [wT, tb (txnT c e q)] oo oc (by simp) (fun x hx => by
          simp only [List.mem_cons, List.not_mem_nil, or_false] at hx
          rcases hx with rfl | rfl
          · exact hws
          · omega) V hV
        rw [show ([wT, tb (txnT c e q)] : List ByteArray).map bl = bl wT :: fieldsP ⟨5, c, e, q, aud, mem, body, yes, tag⟩ from rfl] at h
        have hE := HER (fun h => by cases h.1)
        rw [show (dataP (wordP 5)).1 = bl wT from by rw [← hwt]; rfl] at hE
        rw [← hE] at h
        exact h
      have HR := Lib.hid HR
      clear HER HE5 HMX HM1 HM2 HL hkk hwt hws hx hxs
      generalize tb (txnT c e q) = tx at *
      have HX := Lib.hid HX
      go_wp2_with fail
      rw [← HW4.out]
      refine (HX.out _).mono ?_; rintro e5 w5 ⟨rfl, b5⟩
      have EE := Lib.hid (EE.out.below b5)
      clear b5 z0 z1 z2 z3 z4 z5 z6 z7 z8
      go_wp2_with (at_builtin; refine wpList_appT (B := w.heap.size + 1) (v := (.slice (some ⟨w3.heap.size, 0, none⟩) 1 1)) (l := [wT]) (m := [tx]) (ao := some ⟨w5.heap.size, 0, none⟩) (cap := 1) rfl (.tmp 32) (.tmp 34) rfl rfl rfl rfl (ownT_below EE.out.2.1 ((Below.refl w5.heap.size w5).alloc (Nat.le_refl _) _)) (by have := EE.out.lt; rw [World.size_alloc]; omega) (txt_one w5 tx) (by intro e; cases e) (by simp) ?_; intro v6 w6 ho hg; have EE := Lib.hid (EE.out.app ho hg); clear ho hg; obtain ⟨z0, z1, z2, z3, z4, z5, z6, z7, z8⟩ := HCE.out _ EE.out.1)
      obtain ⟨oo, oc, hv, hr⟩ := (show EncAt _ _ _ _ [wT, tx] _ from EE.out).row
      have hv : _ = Value.slice oo 2 oc := hv
      cases hv
      have HRR := Lib.hid (HR.out _ oc _ hr)
      have BE := Lib.hid EE.out.2.2
      clear hr EE
      refine HRR.out.mono ?_; rintro e9 w9 ⟨rfl, b9⟩
      go_wp2_with fail
      go_ret2
      exact ⟨rfl, below_step BE.out b9⟩
    · have hwt := hwt
      have HR : ∀ oo oc V, TxtRow V oo [wT] → Calls Tryz.prog 40 #[.slice oo 1 oc] V fun x w2 => x = .returned (.tuple #[.string (tb rs), .int .i64 (re : Nat)]) ∧ Below V.heap.size V w2 := fun oo oc V hV => by
        have h := rrow6_any [wT] oo oc (by simp) (fun x hx => by
          simp only [List.mem_cons, List.not_mem_nil, or_false] at hx
          subst hx
          · exact hws) V hV
        rw [show ([wT] : List ByteArray).map bl = [bl wT] from rfl] at h
        have hE := HER (fun h => by cases h.1)
        rw [show fieldsP ⟨6, c, e, q, aud, mem, body, yes, tag⟩ = [] from rfl, show (dataP (wordP 6)).1 = bl wT from by rw [← hwt]; rfl] at hE
        rw [← hE] at h
        exact h
      have HR := Lib.hid HR
      clear HER HE5 HMX HM1 HM2 HL HX hkk hwt hws
      go_wp2_with fail
      rw [← HW4.out]
      have hr : TxtRow W4 (some ⟨w3.heap.size, 0, none⟩) [wT] := by rw [HW4.out]; exact txt_one w3 wT
      have HRR := Lib.hid (HR.out _ 1 _ hr)
      have BE := Lib.hid EE.out.2.2
      clear hr EE z0 z1 z2 z3 z4 z5 z6 z7 z8
      refine HRR.out.mono ?_; rintro e9 w9 ⟨rfl, b9⟩
      go_wp2_with fail
      go_ret2
      exact ⟨rfl, below_step BE.out b9⟩
end Go.Proofs.YthemopejebioaaaGreat.Pl
