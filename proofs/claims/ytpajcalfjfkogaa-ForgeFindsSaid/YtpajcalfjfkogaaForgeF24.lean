/- The finding of steps: open. The finding of steps: refer. What the laying out of steps keeps in memory. What the laying out of steps calls, and the row of indices that it fills. -/
import Derived.Test.YtpajcalfjfkogaaForgeF23
import Derived.Laws.Rows
import Derived.Test.YtpajcalfjfkogaaForgeF4
namespace Go.Proofs.Ytpajcalfjfkogaa.Pl
open Go.RowKit Go.Maps

/-- A row of closed seals to be read that the maker does not turn. -/
def RowCO (F : Nat → Prop) (w : World) (ao : Option Addr) (S : List Shut) : Prop := S = [] ∨ ∃ g, ao = some ⟨g, 0, none⟩ ∧ g < w.heap.size ∧ ¬ F g ∧ ∀ j, (hj : j < S.length) → w.cell? ⟨g, j * 3, none⟩ = some (.string (tb10 (S[j]).t)) ∧ w.cell? ⟨g, j * 3 + 1, none⟩ = some (.string (tb10 (S[j]).k)) ∧ w.cell? ⟨g, j * 3 + 2, none⟩ = some (.string (tb10 (S[j]).b))
theorem RowCO.turn {F F' : Nat → Prop} {w w' : World} {ao : Option Addr} {S : List Shut} (h : RowCO F w ao S) (ht : Turn F w w') (hF : ∀ b, F' b → F b ∨ w.heap.size ≤ b) : RowCO F' w' ao S := by
  rcases h with h | ⟨g, e, hlt, hn, hc⟩
  · exact .inl h
  · refine .inr ⟨g, e, Nat.lt_of_lt_of_le hlt ht.size, fun k => (hF g k).elim hn (fun k2 => by omega), fun j hj => ?_⟩
    obtain ⟨h1, h2, h3⟩ := hc j hj
    have hb := ht.block g hlt hn
    exact ⟨(cell_of_heap hb).trans h1, (cell_of_heap hb).trans h2, (cell_of_heap hb).trans h3⟩
/-- The seals are taken out: nothing is closed up. -/
theorem MkA.emptied {W : World} {F : Nat → Prop} {p mm ma : Nat} {E : List Ent} {S : List Shut} {sv : Value} {V : List Value} (h : MkA W F p E S mm ma sv V) : ∃ (F0 : Nat → Prop) (ao : Option Addr) (cap : Nat), sv = .slice ao S.length cap ∧
    MkA (W.setCell ⟨p, 1, none⟩ (.slice none 0 0)) F0 p E [] mm ma (.slice none 0 0) V ∧ (∀ b, F0 b → F b) ∧ Turn F W (W.setCell ⟨p, 1, none⟩ (.slice none 0 0)) ∧ RowCO F0 (W.setCell ⟨p, 1, none⟩ (.slice none 0 0)) ao S := by
  obtain ⟨n1, n2, n3⟩ := h.ne
  obtain ⟨ao, cap, e, hr⟩ := ownC_row h.seals
  have g2 : ∀ b, b ≠ p → (W.setCell ⟨p, 1, none⟩ (.slice none 0 0)).heap[b]? = W.heap[b]? := fun b hp => Below.heap_setCell W ⟨p, 1, none⟩ _ b hp
  have hs : (W.setCell ⟨p, 1, none⟩ (.slice none 0 0)).heap.size = W.heap.size := by simp [World.setCell]
  have hT : Turn F W (W.setCell ⟨p, 1, none⟩ (.slice none 0 0)) := ⟨rfl, rfl, rfl, by rw [hs]; exact Nat.le_refl _, fun b _ hn => g2 b (fun e => hn (e ▸ h.fp))⟩
  refine ⟨fun b => F b ∧ ∀ q, sv.ownBlock = some q → b ≠ q, ao, cap, e, ⟨?_, h.len, h.made.of_block (g2 mm (fun e => n1 e.symm)), fun k hk => (h.org k hk).turn hT (fun _ hb => .inl hb.1), ownC_nil _, h.at_.of_block (g2 ma (fun e => n2 e.symm)), ⟨h.fp, fun q k => (n3 q k).1⟩, ⟨h.fm, fun q k => (n3 q k).2.1⟩, ⟨h.fa, fun q k => (n3 q k).2.2⟩, fun b hb => (by cases hb), fun b hb => (by rw [hs]; exact h.foot b hb.1), h.nma⟩, fun b hb => hb.1, hT, ?_⟩
  · have := heap_setCell_same W p 1 #[.map (some mm), sv, .slice none 0 0, .map (some ma)] 60 (.slice none 0 0) h.cells
    simpa using this
  · rcases hr with hr | ⟨g, e2, hlt, hc⟩
    · exact .inl hr
    · have hown : sv.ownBlock = some g := by rw [e, e2]; rfl
      have hb := g2 g (fun k => (n3 g hown).1 k.symm)
      refine .inr ⟨g, e2, by rw [hs]; exact hlt, fun k => k.2 g hown rfl, fun j hj => ?_⟩
      obtain ⟨h1, h2, h3⟩ := hc j hj
      exact ⟨(cell_of_heap hb).trans h1, (cell_of_heap hb).trans h2, (cell_of_heap hb).trans h3⟩
/-- What opening is to leave. -/
def OpenPost (was : List (List UInt8)) (U : Tm → Prop) (p : Nat) (E0 : List Ent) (S0 : List Shut) (F : Nat → Prop) (w : World) : Ending → World → Prop := fun e w' =>
  ∃ op E' P F', e = .returned (.bool op) ∧ Mk w' F' p E' P ∧ Opn was U E0 S0 S0.length op E' P ∧ (∀ b, F' b → F b ∨ w.heap.size ≤ b) ∧ Turn F w w'
theorem wtS_le {S : List Shut} {c : Shut} (h : c ∈ S) : c.b.length + 1 ≤ wtS S := by
  obtain ⟨a, b, rfl⟩ := List.append_of_mem h
  rw [wtS_app, show c :: b = [c] ++ b from rfl, wtS_app, wtS_one]
  omega
theorem rowOut_new2 {F : Nat → Prop} {w : World} (hF : ∀ b, F b → b < w.heap.size) (s s2 : ByteArray) : RowOut F (w.alloc (.cells #[.string s, .string s2] 9)) (some ⟨w.heap.size, 0, none⟩) [s, s2] := by
  have h := Go.heap_alloc_new w (.cells #[.string s, .string s2] 9)
  refine .inr ⟨w.heap.size, 0, rfl, by simp, fun k => by have := hF _ k; omega, fun j hj => ?_⟩
  match j, hj with
  | 0, _ => exact cell_of_row _ _ _ _ _ _ h
  | 1, _ => exact cell_of_row _ _ _ _ _ _ h
variable {was : List (List UInt8)} {U : Tm → Prop}
set_option maxHeartbeats 8000000 in
set_option maxRecDepth 100000 in
theorem open11_at (hU : ∀ h l, U (.node h l) → ∀ t ∈ l, U t) (hfin : ∀ E, Good was U E → E.length ≤ 1000000) (p : Nat) (E0 : List Ent) (S0 : List Shut) (F : Nat → Prop) (w : World) (hq : Mk w F p E0 S0) (hg : Good was U E0) (hsl : SlOK U E0 S0) (hcl : Closed E0 S0) (hwt : wtS S0 ≤ 1000000) :
    Calls Try.prog 31 #[ptr11 p] w (OpenPost was U p E0 S0 F w) := by
  obtain ⟨mm, ma, sv, V, hA⟩ := hq
  obtain ⟨F0, so, scap, rfl, hA0, hF0, hT0, hR0⟩ := hA.emptied
  have c1 : w.cell? ⟨p, 1, none⟩ = some (.slice so S0.length scap) := cell_of_row _ _ _ _ _ _ hA.cells
  have f1 : w.frozen? ⟨p, 1, none⟩ = false := frozen_row11 hA.cells
  have M0 : Hid (Mk (w.setCell ⟨p, 1, none⟩ (.slice none 0 0)) F0 p E0 []) := Lib.hid ⟨mm, ma, _, V, hA0⟩
  have T0 := Lib.hid hT0
  have R0 := Lib.hid hR0
  have Q0 : Hid (Opn was U E0 S0 0 false E0 []) := Lib.hid (opn_start hg hsl hcl)
  have HF0 : Hid (∀ b, F0 b → F b ∨ w.heap.size ≤ b) := Lib.hid (fun b hb => .inl (hF0 b hb))
  obtain ⟨z, hz⟩ : ∃ z, z = S0.length := ⟨_, rfl⟩
  have HZ := Lib.hid hz
  have HZS : Hid (z ≤ 1000000) := Lib.hid (by have := wt_len S0; omega)
  have HWT := Lib.hid hwt
  have HU := Lib.hid hU
  have HFIN := Lib.hid hfin
  rw [← hz] at c1
  clear hA hA0 hF0 hT0 hR0 hg hsl hcl hz hwt hU hfin
  go_enter Try.func31, Try.ntmps31
  go_wp2_with fail
  go_loopw [16, 4] (fun iv ov wr => ∃ (i : Nat) (op : Bool) (E' : List Ent) (P : List Shut) (F' : Nat → Prop), iv = .int .i64 i ∧ ov = .bool op ∧ i ≤ z ∧ Hid (Mk wr F' p E' P) ∧ Hid (Opn was U E0 S0 i op E' P) ∧ Hid (∀ b, F' b → F b ∨ w.heap.size ≤ b) ∧ Hid (Turn F w wr) ∧ Hid (RowCO F' wr so S0)) (fun iv _ _ => z - (intOf iv).toNat)
  case atStart => exact ⟨0, false, E0, [], F0, rfl, rfl, Nat.zero_le _, M0, Q0, HF0, T0, R0⟩
  case round =>
    clear M0 Q0 HF0 T0 R0 c1 f1
    obtain ⟨i, op, E', P, F', rfl, rfl, hiz, hM, hQ, hF, hT, hR⟩ := hrel
    have hz1 := HZS.out
    by_cases hi : i < z
    · have hi' : (i : Int) < (z : Int) := by omega
      have hil : i < S0.length := by rw [← HZ.out]; exact hi
      obtain ⟨k, n, x, hv, hu, hc, hin⟩ := opn_at hQ.out hil
      have hvs := node_valid_parts hv
      have kv := hvs k (by simp)
      have xv := hvs x (by simp)
      have ku := HU.out _ _ hu k (by simp)
      have xu := HU.out _ _ hu x (by simp)
      have hmem : S0[i] ∈ P ++ S0.drop i := List.mem_append.2 (.inr (by rw [List.drop_eq_getElem_cons hil]; exact List.mem_cons_self))
      have HX : Hid (wtS P + x.enc.length ≤ 1000000 ∧ P.length ≤ 1000000000) := Lib.hid (by
        have h1 := hQ.out.wt
        have h3 : wtS (P ++ S0.drop i) = wtS P + wtS (S0.drop i) := wtS_app _ _
        have h4 : (S0[i]).b.length + 1 ≤ wtS (S0.drop i) := wtS_le (by rw [List.drop_eq_getElem_cons hil]; exact List.mem_cons_self)
        have h5 : (S0[i]).b = x.enc := by rw [hc]
        have h6 := HWT.out
        have h7 := wt_len P
        rw [h5] at h4
        omega)
      have hfoot : ∀ b, F' b → b < wr.heap.size := by
        obtain ⟨_, _, _, _, hx⟩ := hM.out
        exact hx.foot
      have hFp : F' p := by
        obtain ⟨_, _, _, _, hx⟩ := hM.out
        exact hx.fp
      obtain ⟨W1, hW1⟩ : ∃ V2, V2 = wr.alloc (.cells (shutV ⟨(sealT k n x).enc, k.enc, x.enc⟩) 99) := ⟨_, rfl⟩
      have B1 : Hid (Below wr.heap.size wr W1) := Lib.hid (by rw [hW1]; exact (Below.refl _ _).alloc (Nat.le_refl _) _)
      have hb1 : W1.heap[wr.heap.size]? = some (.cells (shutV ⟨(sealT k n x).enc, k.enc, x.enc⟩) 99 (0, 0)) := by rw [hW1]; exact Go.heap_alloc_new wr _
      have NG : Hid (¬ F' wr.heap.size ∧ wr.heap.size ≠ p) := Lib.hid ⟨fun e => absurd (hfoot _ e) (Nat.lt_irrefl _), fun e => absurd (hfoot p hFp) (by rw [← e]; exact Nat.lt_irrefl _)⟩
      have HCK := Lib.hid (comp11_at HU.out HFIN.out k.deep k kv (Nat.le_refl _) ku (tb10 k.enc) rfl p E' P F' W1 (hM.out.kept B1.out) hQ.out.good)
      have HSH : Hid (∀ E2, Comp was U E' [k] false E2 → Opn was U E0 S0 (i + 1) op E2 (P ++ [⟨(sealT k n x).enc, k.enc, x.enc⟩])) := Lib.hid (fun E2 q => hc ▸ opn_shut hQ.out hil hv hc q)
      have HOP : Hid (∀ E1 E2 P2, Comp was U E' [k] true E1 → Took was U E1 P [x] E2 P2 → Opn was U E0 S0 (i + 1) true E2 P2) := Lib.hid (fun E1 E2 P2 q r => opn_open hQ.out hil hc q r)
      have HSLOK : Hid (SlOK U E' P ∧ (sealT k n x).enc ∈ keysE E') := Lib.hid ⟨fun c hc2 => hQ.out.slok c (List.mem_append.2 (.inl hc2)), hin⟩
      have HTA : Hid (∀ E2 W ao, Mk W F' p E2 P → Good was U E2 → SlOK U E2 P → (sealT k n x).enc ∈ keysE E2 → k.enc ∈ keysE E2 → RowOut F' W ao [tb10 (sealT k n x).enc, tb10 k.enc] → Calls Try.prog 30 #[ptr11 p, .string (tb10 x.enc), .agg #[.int .u8 5, .int .i64 0, .int .i64 0, .int .i64 0, .int .i64 0, .string ⟨#[]⟩, .slice none 0 0], .slice ao 2 2] W (TakePost was U p E2 P F' x W)) := Lib.hid (fun E2 W ao hM2 hG2 hS2 hk1 hk2 hR2 => by
        refine take11_at HU.out HFIN.out x.deep x xv (Nat.le_refl _) xu (tb10 x.enc) rfl p 5 0 ao 2 [tb10 (sealT k n x).enc, tb10 k.enc] E2 P F' W hM2 hG2 hS2 HX.out.1 ?_ (fit0 (by decide) ⟨by decide, by decide⟩) ?_ hR2
        · exact makes_body hv
        · intro y hy
          simp only [List.map_cons, List.map_nil, List.mem_cons, List.not_mem_nil, or_false] at hy
          rcases hy with rfl | rfl
          · exact hk1
          · exact hk2)
      have hR' := hR.out
      rcases hR' with e | ⟨g, rfl, hlt, hng, hcs⟩
      · exfalso
        rw [e] at hil
        exact absurd hil (Nat.not_lt_zero _)
      obtain ⟨ck1, ck2, ck3⟩ := hcs i hil
      rw [hc] at ck1 ck2 ck3
      have HW1 := Lib.hid hW1
      have HB1 := Lib.hid hb1
      clear hcs hlt hng hil hv hu hc hin hvs kv xv ku xu hmem hfoot hFp hW1 hb1
      go_wp2_with fail
      rw [show (Obj.cells #[.string (tb10 (sealT k n x).enc), .string (tb10 k.enc), .string (tb10 x.enc)] 99) = .cells (shutV ⟨(sealT k n x).enc, k.enc, x.enc⟩) 99 from rfl, ← HW1.out]
      refine HCK.out.mono ?_; rintro e w7 ⟨b, E7, rfl, m7, t7, u7⟩
      have B17 := HB1.out
      have hb7 : w7.heap[wr.heap.size]? = some (.cells (shutV ⟨(sealT k n x).enc, k.enc, x.enc⟩) 99 (0, 0)) := (u7.block wr.heap.size (Array.getElem?_eq_some_iff.1 B17).1 NG.out.1).trans B17
      have U7 : Hid (Turn F w w7) := Lib.hid (turn_trans (turn_trans hT.out (turn_below B1.out) (fun _ hb => .inl hb)) u7 hF.out)
      have R7 := Lib.hid ((hR.out.turn (F' := F') (turn_below B1.out) (fun _ hb => .inl hb)).turn u7 (F' := F') (fun _ hb => .inl hb))
      obtain ⟨mm7, ma7, sv7, V7, hA7⟩ := m7
      have MA7 := Lib.hid (hA7.kept (drew11 w7))
      cases b
      · have Q7 := Lib.hid (HSH.out E7 t7)
        have OC7 := Lib.hid MA7.out.seals
        have FS7 := Lib.hid hA7.fs
        have KS7 : w7.drew.cell? ⟨wr.heap.size, 0, none⟩ = some (.string (tb10 (sealT k n x).enc)) ∧ w7.drew.cell? ⟨wr.heap.size, 1, none⟩ = some (.string (tb10 k.enc)) ∧ w7.drew.cell? ⟨wr.heap.size, 2, none⟩ = some (.string (tb10 x.enc)) := ⟨cell_of_row _ _ _ _ _ _ hb7, cell_of_row _ _ _ _ _ _ hb7, cell_of_row _ _ _ _ _ _ hb7⟩
        have c71 : w7.drew.cell? ⟨p, 1, none⟩ = some sv7 := cell_of_row _ _ _ _ _ _ MA7.out.cells
        clear t7 u7 hA7 hb7 B17 ck1 ck2 ck3 HCK HOP HTA HSH
        go_wp2_with fail
        refine wp_region_held_drew (S := fun W => W.cell? ⟨wr.heap.size, 0, none⟩ = some (.string (tb10 (sealT k n x).enc)) ∧ W.cell? ⟨wr.heap.size, 1, none⟩ = some (.string (tb10 k.enc)) ∧ W.cell? ⟨wr.heap.size, 2, none⟩ = some (.string (tb10 x.enc))) (by kernel_rfl) (by first | assumption | (exact KS7)) (fun hHeld => ?_)
        refine wpAnyH_take (i := 0) (oi := { dst := some 25, op := Op.move (Operand.tmp 0), type := 55, pos := "forge.go:241", after := #[], guard := none }) (v := ?_) rfl (by kernel_rfl) (by kernel_rfl) (by kernel_rfl) (fun _ _ _ h => h) (Or.inl ⟨by rfl, ?_⟩) (by assumption) ?_
        rotate_left 1
        · (intro w hSw; (try dsimp only at hSw); go_simp; try with_reducible rfl)
        (try simp only [Act.put, List.setIfInBounds_toArray, List.set_cons_zero, List.set_cons_succ])
        refine wpAnyH_take (i := 1) (oi := { dst := some 26, op := Op.move (Operand.tmp 0), type := 55, pos := "forge.go:241", after := #[], guard := none }) (v := ?_) rfl (by kernel_rfl) (by kernel_rfl) (by kernel_rfl) (fun _ _ _ h => h) (Or.inl ⟨by rfl, ?_⟩) (by assumption) ?_
        rotate_left 1
        · (intro w hSw; (try dsimp only at hSw); go_simp; try with_reducible rfl)
        (try simp only [Act.put, List.setIfInBounds_toArray, List.set_cons_zero, List.set_cons_succ])
        refine wpAnyH_take (i := 2) (oi := { dst := some 27, op := Op.nilCheck (Operand.tmp 26), type := 0, pos := "forge.go:241", after := #[{ on := 1, ground := Ground.data }], guard := none }) (v := ?_) rfl (by kernel_rfl) (by kernel_rfl) (by kernel_rfl) (fun _ _ _ h => h) (Or.inl ⟨by rfl, ?_⟩) (by assumption) ?_
        rotate_left 1
        · (intro w hSw; (try dsimp only at hSw); go_simp; try with_reducible rfl)
        (try simp only [Act.put, List.setIfInBounds_toArray, List.set_cons_zero, List.set_cons_succ])
        refine wpAnyH_take (i := 3) (oi := { dst := some 28, op := Op.fieldAddr 60 (Operand.tmp 27) 1, type := 0, pos := "forge.go:241", after := #[{ on := 2, ground := Ground.data }], guard := none }) (v := ?_) rfl (by kernel_rfl) (by kernel_rfl) (by kernel_rfl) (fun _ _ _ h => h) (Or.inl ⟨by rfl, ?_⟩) (by assumption) ?_
        rotate_left 1
        · (intro w hSw; (try dsimp only at hSw); go_simp; try with_reducible rfl)
        (try simp only [Act.put, List.setIfInBounds_toArray, List.set_cons_zero, List.set_cons_succ])
        refine wpAnyH_take (i := 5) (oi := { dst := some 30, op := Op.load 99 (Operand.tmp 6), type := 99, pos := "forge.go:241", after := #[], guard := none }) (v := ?_) rfl (by kernel_rfl) (by kernel_rfl) (by kernel_rfl) (fun _ _ _ h => h) (Or.inl ⟨by rfl, ?_⟩) (by assumption) ?_
        rotate_left 1
        · (intro w hSw; (try dsimp only at hSw); go_simp; try with_reducible rfl)
        (try simp only [Act.put, List.setIfInBounds_toArray, List.set_cons_zero, List.set_cons_succ])
        refine wpAnyH_ready (rs := [4, 6]) (by kernel_rfl) (by simp) ?_
        refine AllReadyH.cons (o := { dst := some 29, op := Op.load 58 (Operand.tmp 28), type := 58, pos := "forge.go:241", after := #[{ on := 3, ground := Ground.data }], guard := none }) rfl (fun K hK => ?_) ?_
        · go_simp
          refine hK.out _ _ (by exact KS7) (fun hHeld => ?_)
          clear hK K
          (try simp only [Act.put, List.setIfInBounds_toArray, List.set_cons_zero, List.set_cons_succ])
          refine wpAnyH_ready (rs := [6]) (by kernel_rfl) (by simp) ?_
          refine AllReadyH.cons (o := { dst := some 31, op := Op.buildSlice 58 1 #[(0, Operand.tmp 30)], type := 58, pos := "forge.go:241", after := #[{ on := 5, ground := Ground.data }], guard := none }) rfl (fun K hK => ?_) AllReadyH.nil
          go_simp
          refine hK.out _ _ (by exact ⟨cell_keep ((Below.refl _ _).alloc (Nat.le_refl _) _) KS7.1, cell_keep ((Below.refl _ _).alloc (Nat.le_refl _) _) KS7.2.1, cell_keep ((Below.refl _ _).alloc (Nat.le_refl _) _) KS7.2.2⟩) (fun hHeld => ?_)
          clear hK K
          (try simp only [Act.put, List.setIfInBounds_toArray, List.set_cons_zero, List.set_cons_succ])
          refine wpAnyH_ready (rs := [7]) (by kernel_rfl) (by simp) ?_
          refine AllReadyH.cons (o := { dst := some 32, op := Op.call { callee := Callee.builtin Builtin.append, args := #[Operand.tmp 29, Operand.tmp 31], argTypes := #[58, 58] }, type := 58, pos := "forge.go:241", after := #[{ on := 4, ground := Ground.data }, { on := 6, ground := Ground.data }], guard := none }) rfl (fun K hK => ?_) AllReadyH.nil
          refine wpOp_appC (W1 := w7.drew) (v := sv7) (S := P) (by rfl) _ _ rfl rfl ⟨(sealT k n x).enc, k.enc, x.enc⟩ rfl rfl OC7.out HX.out.2 ?_
          intro v8 w8 ho8 hg8 hl8
          have KS8 : w8.cell? ⟨wr.heap.size, 0, none⟩ = some (.string (tb10 (sealT k n x).enc)) ∧ w8.cell? ⟨wr.heap.size, 1, none⟩ = some (.string (tb10 k.enc)) ∧ w8.cell? ⟨wr.heap.size, 2, none⟩ = some (.string (tb10 x.enc)) := ⟨cell_grown hg8 (World.block_lt_of_cell? _ _ KS7.1) (fun e => NG.out.1 (FS7.out _ e.symm)) KS7.1, cell_grown hg8 (World.block_lt_of_cell? _ _ KS7.2.1) (fun e => NG.out.1 (FS7.out _ e.symm)) KS7.2.1, cell_grown hg8 (World.block_lt_of_cell? _ _ KS7.2.2) (fun e => NG.out.1 (FS7.out _ e.symm)) KS7.2.2⟩
          refine hK.out _ _ (by exact KS8) (fun hHeld => ?_)
          clear hK K
          (try simp only [Act.put, List.setIfInBounds_toArray, List.set_cons_zero, List.set_cons_succ])
          have hMS := MA7.out.sealed ho8 hg8 hl8
          have M9 := Lib.hid hMS.1
          have T9 := Lib.hid hMS.2
          have F9 : Hid (∀ b, v8.ownBlock = some b → sv7.ownBlock = some b ∨ w7.drew.heap.size ≤ b) := Lib.hid hl8
          have r81 := mk_row MA7.out hg8
          have c81 : w8.cell? ⟨p, 1, none⟩ = some sv7 := cell_of_row _ _ _ _ _ _ r81
          have f81 : w8.frozen? ⟨p, 1, none⟩ = false := frozen_row11 r81
          obtain ⟨a8, c8, rfl, _⟩ := ownC_row ho8
          generalize (P ++ [(⟨(sealT k n x).enc, k.enc, x.enc⟩ : Shut)]).length = z8 at *
          clear hMS ho8 hg8 hl8 r81
          refine wpAnyH_take (i := 8) (oi := { dst := some 33, op := Op.nilCheck (Operand.tmp 25), type := 0, pos := "forge.go:241", after := #[{ on := 0, ground := Ground.data }, { on := 0, ground := Ground.phase }, { on := 1, ground := Ground.phase }, { on := 2, ground := Ground.phase }, { on := 3, ground := Ground.phase }, { on := 4, ground := Ground.phase }, { on := 5, ground := Ground.phase }, { on := 6, ground := Ground.phase }, { on := 7, ground := Ground.phase }], guard := none }) (v := ?_) rfl (by kernel_rfl) (by kernel_rfl) (by kernel_rfl) (fun _ _ _ h => h) (Or.inl ⟨by rfl, ?_⟩) (by assumption) ?_
          rotate_left 1
          · (intro w hSw; (try dsimp only at hSw); go_simp; try with_reducible rfl)
          (try simp only [Act.put, List.setIfInBounds_toArray, List.set_cons_zero, List.set_cons_succ])
          refine wpAnyH_take (i := 9) (oi := { dst := some 34, op := Op.fieldAddr 60 (Operand.tmp 33) 1, type := 0, pos := "forge.go:241", after := #[{ on := 8, ground := Ground.data }, { on := 0, ground := Ground.phase }, { on := 1, ground := Ground.phase }, { on := 2, ground := Ground.phase }, { on := 3, ground := Ground.phase }, { on := 4, ground := Ground.phase }, { on := 5, ground := Ground.phase }, { on := 6, ground := Ground.phase }, { on := 7, ground := Ground.phase }], guard := none }) (v := ?_) rfl (by kernel_rfl) (by kernel_rfl) (by kernel_rfl) (fun _ _ _ h => h) (Or.inl ⟨by rfl, ?_⟩) (by assumption) ?_
          rotate_left 1
          · (intro w hSw; (try dsimp only at hSw); go_simp; try with_reducible rfl)
          (try simp only [Act.put, List.setIfInBounds_toArray, List.set_cons_zero, List.set_cons_succ])
          refine wpAnyH_ready (rs := [10]) (by kernel_rfl) (by simp) ?_
          refine AllReadyH.cons (o := { dst := none, op := Op.store 58 (Operand.tmp 34) (Operand.tmp 32), type := 0, pos := "forge.go:241", after := #[{ on := 9, ground := Ground.data }, { on := 7, ground := Ground.data }, { on := 7, ground := Ground.chain }, { on := 0, ground := Ground.phase }, { on := 1, ground := Ground.phase }, { on := 2, ground := Ground.phase }, { on := 3, ground := Ground.phase }, { on := 4, ground := Ground.phase }, { on := 5, ground := Ground.phase }, { on := 6, ground := Ground.phase }, { on := 7, ground := Ground.phase }], guard := none }) rfl (fun K hK => ?_) AllReadyH.nil
          go_simp
          refine hK.out _ _ (by exact ⟨cell_set NG.out.2 KS8.1, cell_set NG.out.2 KS8.2.1, cell_set NG.out.2 KS8.2.2⟩) (fun hHeld => ?_)
          clear hK K
          (try simp only [Act.put, List.setIfInBounds_toArray, List.set_cons_zero, List.set_cons_succ])
          refine wpAnyH_done (by kernel_rfl) ?_ _
          go_wp2_with fail
          go_roundw
          case rel =>
            refine ⟨i + 1, op, E7, P ++ [⟨(sealT k n x).enc, k.enc, x.enc⟩], _, by go_num, rfl, by omega, Lib.hid ⟨_, _, _, _, M9.out⟩, Q7, Lib.hid (fun b hb => hb.elim (hF.out b) (fun e => (F9.out b e).elim (fun e => hF.out b (FS7.out b e)) (fun e => .inr (Nat.le_trans U7.out.size e)))), Lib.hid (turn_trans (turn_trans U7.out (turn_below (drew11 w7)) (fun _ hb => .inl hb)) T9.out hF.out), Lib.hid ((R7.out.turn (F' := F') (turn_below (drew11 w7)) (fun _ hb => .inl hb)).turn T9.out (fun b hb => hb.elim .inl (fun e => (F9.out b e).elim (fun e => .inl (FS7.out b e)) .inr)))⟩
          case measure => simp [intOf]; omega
        refine AllReadyH.cons (o := { dst := some 31, op := Op.buildSlice 58 1 #[(0, Operand.tmp 30)], type := 58, pos := "forge.go:241", after := #[{ on := 5, ground := Ground.data }], guard := none }) rfl (fun K hK => ?_) AllReadyH.nil
        go_simp
        refine hK.out _ _ (by exact ⟨cell_keep ((Below.refl _ _).alloc (Nat.le_refl _) _) KS7.1, cell_keep ((Below.refl _ _).alloc (Nat.le_refl _) _) KS7.2.1, cell_keep ((Below.refl _ _).alloc (Nat.le_refl _) _) KS7.2.2⟩) (fun hHeld => ?_)
        clear hK K
        (try simp only [Act.put, List.setIfInBounds_toArray, List.set_cons_zero, List.set_cons_succ])
        have c72 : ((w7.alloc (.cells #[.string (tb10 (sealT k n x).enc), .string (tb10 k.enc), .string (tb10 x.enc)] 99)).drew).cell? ⟨p, 1, none⟩ = some sv7 := cell_keep (w := w7.drew) (w' := w7.drew.alloc (.cells (shutV ⟨(sealT k n x).enc, k.enc, x.enc⟩) 99)) ((Below.refl _ _).alloc (Nat.le_refl _) _) c71
        refine wpAnyH_ready (rs := [4]) (by kernel_rfl) (by simp) ?_
        refine AllReadyH.cons (o := { dst := some 29, op := Op.load 58 (Operand.tmp 28), type := 58, pos := "forge.go:241", after := #[{ on := 3, ground := Ground.data }], guard := none }) rfl (fun K hK => ?_) AllReadyH.nil
        go_simp
        refine hK.out _ _ (by exact ⟨cell_keep ((Below.refl _ _).alloc (Nat.le_refl _) _) KS7.1, cell_keep ((Below.refl _ _).alloc (Nat.le_refl _) _) KS7.2.1, cell_keep ((Below.refl _ _).alloc (Nat.le_refl _) _) KS7.2.2⟩) (fun hHeld => ?_)
        clear hK K
        (try simp only [Act.put, List.setIfInBounds_toArray, List.set_cons_zero, List.set_cons_succ])
        clear c72
        refine wpAnyH_ready (rs := [7]) (by kernel_rfl) (by simp) ?_
        refine AllReadyH.cons (o := { dst := some 32, op := Op.call { callee := Callee.builtin Builtin.append, args := #[Operand.tmp 29, Operand.tmp 31], argTypes := #[58, 58] }, type := 58, pos := "forge.go:241", after := #[{ on := 4, ground := Ground.data }, { on := 6, ground := Ground.data }], guard := none }) rfl (fun K hK => ?_) AllReadyH.nil
        refine wpOp_appC (W1 := w7.drew) (v := sv7) (S := P) (by rfl) _ _ rfl rfl ⟨(sealT k n x).enc, k.enc, x.enc⟩ rfl rfl OC7.out HX.out.2 ?_
        intro v8 w8 ho8 hg8 hl8
        have KS8 : w8.cell? ⟨wr.heap.size, 0, none⟩ = some (.string (tb10 (sealT k n x).enc)) ∧ w8.cell? ⟨wr.heap.size, 1, none⟩ = some (.string (tb10 k.enc)) ∧ w8.cell? ⟨wr.heap.size, 2, none⟩ = some (.string (tb10 x.enc)) := ⟨cell_grown hg8 (World.block_lt_of_cell? _ _ KS7.1) (fun e => NG.out.1 (FS7.out _ e.symm)) KS7.1, cell_grown hg8 (World.block_lt_of_cell? _ _ KS7.2.1) (fun e => NG.out.1 (FS7.out _ e.symm)) KS7.2.1, cell_grown hg8 (World.block_lt_of_cell? _ _ KS7.2.2) (fun e => NG.out.1 (FS7.out _ e.symm)) KS7.2.2⟩
        refine hK.out _ _ (by exact KS8) (fun hHeld => ?_)
        clear hK K
        (try simp only [Act.put, List.setIfInBounds_toArray, List.set_cons_zero, List.set_cons_succ])
        have hMS := MA7.out.sealed ho8 hg8 hl8
        have M9 := Lib.hid hMS.1
        have T9 := Lib.hid hMS.2
        have F9 : Hid (∀ b, v8.ownBlock = some b → sv7.ownBlock = some b ∨ w7.drew.heap.size ≤ b) := Lib.hid hl8
        have r81 := mk_row MA7.out hg8
        have c81 : w8.cell? ⟨p, 1, none⟩ = some sv7 := cell_of_row _ _ _ _ _ _ r81
        have f81 : w8.frozen? ⟨p, 1, none⟩ = false := frozen_row11 r81
        obtain ⟨a8, c8, rfl, _⟩ := ownC_row ho8
        generalize (P ++ [(⟨(sealT k n x).enc, k.enc, x.enc⟩ : Shut)]).length = z8 at *
        clear hMS ho8 hg8 hl8 r81
        refine wpAnyH_take (i := 8) (oi := { dst := some 33, op := Op.nilCheck (Operand.tmp 25), type := 0, pos := "forge.go:241", after := #[{ on := 0, ground := Ground.data }, { on := 0, ground := Ground.phase }, { on := 1, ground := Ground.phase }, { on := 2, ground := Ground.phase }, { on := 3, ground := Ground.phase }, { on := 4, ground := Ground.phase }, { on := 5, ground := Ground.phase }, { on := 6, ground := Ground.phase }, { on := 7, ground := Ground.phase }], guard := none }) (v := ?_) rfl (by kernel_rfl) (by kernel_rfl) (by kernel_rfl) (fun _ _ _ h => h) (Or.inl ⟨by rfl, ?_⟩) (by assumption) ?_
        rotate_left 1
        · (intro w hSw; (try dsimp only at hSw); go_simp; try with_reducible rfl)
        (try simp only [Act.put, List.setIfInBounds_toArray, List.set_cons_zero, List.set_cons_succ])
        refine wpAnyH_take (i := 9) (oi := { dst := some 34, op := Op.fieldAddr 60 (Operand.tmp 33) 1, type := 0, pos := "forge.go:241", after := #[{ on := 8, ground := Ground.data }, { on := 0, ground := Ground.phase }, { on := 1, ground := Ground.phase }, { on := 2, ground := Ground.phase }, { on := 3, ground := Ground.phase }, { on := 4, ground := Ground.phase }, { on := 5, ground := Ground.phase }, { on := 6, ground := Ground.phase }, { on := 7, ground := Ground.phase }], guard := none }) (v := ?_) rfl (by kernel_rfl) (by kernel_rfl) (by kernel_rfl) (fun _ _ _ h => h) (Or.inl ⟨by rfl, ?_⟩) (by assumption) ?_
        rotate_left 1
        · (intro w hSw; (try dsimp only at hSw); go_simp; try with_reducible rfl)
        (try simp only [Act.put, List.setIfInBounds_toArray, List.set_cons_zero, List.set_cons_succ])
        refine wpAnyH_ready (rs := [10]) (by kernel_rfl) (by simp) ?_
        refine AllReadyH.cons (o := { dst := none, op := Op.store 58 (Operand.tmp 34) (Operand.tmp 32), type := 0, pos := "forge.go:241", after := #[{ on := 9, ground := Ground.data }, { on := 7, ground := Ground.data }, { on := 7, ground := Ground.chain }, { on := 0, ground := Ground.phase }, { on := 1, ground := Ground.phase }, { on := 2, ground := Ground.phase }, { on := 3, ground := Ground.phase }, { on := 4, ground := Ground.phase }, { on := 5, ground := Ground.phase }, { on := 6, ground := Ground.phase }, { on := 7, ground := Ground.phase }], guard := none }) rfl (fun K hK => ?_) AllReadyH.nil
        go_simp
        refine hK.out _ _ (by exact ⟨cell_set NG.out.2 KS8.1, cell_set NG.out.2 KS8.2.1, cell_set NG.out.2 KS8.2.2⟩) (fun hHeld => ?_)
        clear hK K
        (try simp only [Act.put, List.setIfInBounds_toArray, List.set_cons_zero, List.set_cons_succ])
        refine wpAnyH_done (by kernel_rfl) ?_ _
        go_wp2_with fail
        go_roundw
        case rel =>
          refine ⟨i + 1, op, E7, P ++ [⟨(sealT k n x).enc, k.enc, x.enc⟩], _, by go_num, rfl, by omega, Lib.hid ⟨_, _, _, _, M9.out⟩, Q7, Lib.hid (fun b hb => hb.elim (hF.out b) (fun e => (F9.out b e).elim (fun e => hF.out b (FS7.out b e)) (fun e => .inr (Nat.le_trans U7.out.size e)))), Lib.hid (turn_trans (turn_trans U7.out (turn_below (drew11 w7)) (fun _ hb => .inl hb)) T9.out hF.out), Lib.hid ((R7.out.turn (F' := F') (turn_below (drew11 w7)) (fun _ hb => .inl hb)).turn T9.out (fun b hb => hb.elim .inl (fun e => (F9.out b e).elim (fun e => .inl (FS7.out b e)) .inr)))⟩
        case measure => simp [intOf]; omega
      · have Q7 := Lib.hid (HOP.out E7)
        have G7 := Lib.hid t7
        have M7 : Hid (Mk w7 F' p E7 P) := Lib.hid ⟨mm7, ma7, sv7, V7, hA7⟩
        have k1 : w7.cell? ⟨wr.heap.size, 0, none⟩ = some (.string (tb10 (sealT k n x).enc)) := cell_of_row _ _ _ _ _ _ hb7
        have k2 : w7.cell? ⟨wr.heap.size, 1, none⟩ = some (.string (tb10 k.enc)) := cell_of_row _ _ _ _ _ _ hb7
        have k3 : w7.cell? ⟨wr.heap.size, 2, none⟩ = some (.string (tb10 x.enc)) := cell_of_row _ _ _ _ _ _ hb7
        obtain ⟨W8, hW8⟩ : ∃ V2, V2 = w7.alloc (.cells #[.string (tb10 (sealT k n x).enc), .string (tb10 k.enc)] 9) := ⟨_, rfl⟩
        have B8 : Hid (Below w7.heap.size w7 W8) := Lib.hid (by rw [hW8]; exact (Below.refl _ _).alloc (Nat.le_refl _) _)
        have RO8 : RowOut F' W8 (some ⟨w7.heap.size, 0, none⟩) [tb10 (sealT k n x).enc, tb10 k.enc] := by rw [hW8]; exact rowOut_new2 hA7.foot _ _
        have HTK := Lib.hid (HTA.out E7 W8 _ (M7.out.kept B8.out) G7.out.good (slOK_mono HSLOK.out.1 G7.out.ext) (keysE_mono G7.out.ext HSLOK.out.2) (G7.out.yes rfl k (by simp)) RO8)
        have HW8 := Lib.hid hW8
        clear t7 u7 hA7 hb7 B17 ck1 ck2 ck3 HCK HOP HTA HSH MA7 RO8 hW8
        go_wp2_with fail
        rw [← HW8.out]
        refine HTK.out.mono ?_; rintro e w9 ⟨rfl, E9, S9, F9, m9, t9, f9, u9⟩
        have M9 := Lib.hid m9
        have Q9 := Lib.hid (Q7.out E9 S9 G7.out t9)
        have N9 : Hid (∀ b, F9 b → F b ∨ w.heap.size ≤ b) := Lib.hid (fun b hb => (f9 b hb).elim (hF.out b) (fun e => .inr (Nat.le_trans U7.out.size (Nat.le_trans B8.out.size e))))
        have U9 := Lib.hid (turn_trans (turn_trans U7.out (turn_below B8.out) (fun _ hb => .inl hb)) u9 hF.out)
        have R9 := Lib.hid ((R7.out.turn (F' := F') (turn_below B8.out) (fun _ hb => .inl hb)).turn u9 f9)
        clear m9 t9 f9 u9 k1 k2 k3
        go_wp2_with fail
        go_roundw
        case rel => exact ⟨i + 1, true, E9, S9, F9, by go_num, rfl, by omega, M9, Q9, N9, U9, R9⟩
        case measure => simp [intOf]; omega
    · obtain rfl : i = z := by omega
      have hQl := hQ.out
      rw [HZ.out] at hQl
      have HL := Lib.hid hQl
      clear hi hiz hQl
      go_wp2_with fail
      go_ret
      exact ⟨op, E', P, F', rfl, hM.out, HL.out, hF.out, hT.out⟩
end Go.Proofs.Ytpajcalfjfkogaa.Pl

namespace Go.Proofs.Ytpajcalfjfkogaa.Pl
open Go.RowKit Go.Maps

abbrev refV (f : Nat) (a b c n : Int) (tx : ByteArray) (sl : Value) : Array Value := #[.int .u8 f, .int .i64 a, .int .i64 b, .int .i64 c, .int .i64 n, .string tx, sl]
theorem refV_info (f : Nat) (a b c n : Int) (tx : ByteArray) (lo : Option Addr) (q lc : Nat) : (Try.prog.info? 46).map (·.size) = some ((refV f a b c n tx (.slice lo q lc)).size) := by kernel_rfl
theorem refV_one (f : Nat) (a b c n : Int) (tx : ByteArray) (lo : Option Addr) (q lc : Nat) : (refV f a b c n tx (.slice lo q lc)).all (·.oneCell') = true := by
  rw [Array.all_eq_true_iff_forall_mem]
  intro v hv
  simp only [refV, List.mem_toArray, List.mem_cons, List.not_mem_nil, or_false] at hv
  rcases hv with rfl | rfl | rfl | rfl | rfl | rfl | rfl <;> rfl
theorem int_at {w wr : World} {ro : Option Addr} {r : List Int} (h : IntRow w ro r) (hb : Below w.heap.size w wr) {k : Nat} (hk : k < r.length) : ∃ rb roff, ro = some ⟨rb, roff, none⟩ ∧ wr.cell? ⟨rb, roff + k, none⟩ = some (.int .i64 (r.getD k 0)) := by
  rcases h.below hb with e | ⟨rb, roff, e, _, hc⟩
  · rw [e] at hk
    exact absurd hk (Nat.not_lt_zero _)
  · refine ⟨rb, roff, e, ?_⟩
    rw [hc k hk]
    simp [List.getD_eq_getElem?_getD, hk]
theorem getD_off {r : List Int} {k : Nat} (h : ¬ k < r.length) : r.getD k 0 = 0 := by
  rw [List.getD_eq_getElem?_getD, List.getElem?_eq_none (by omega)]
  rfl
theorem run_ix0 {k : Nat} (h : k = 0) (x y z : Value) (w : World) : (Instr.index 125 (.agg #[x, y, z]) (.int .i64 k)).run Try.prog w = .ok x w := by
  subst h
  kernel_rfl
theorem run_ix1 (x y z : Value) (w : World) : (Instr.index 125 (.agg #[x, y, z]) (.int .i64 1)).run Try.prog w = .ok y w := by kernel_rfl
theorem run_ix2 (x y z : Value) (w : World) : (Instr.index 125 (.agg #[x, y, z]) (.int .i64 2)).run Try.prog w = .ok z w := by kernel_rfl
theorem wpList_ix {ops : Array Oper} {rest : List Oper} {o : Oper} {a : Act} {w : World} {Q : Exit → Act → World → Prop} (hgd : o.guard = none) (ty : TypeId) (x y : Operand) (ho : o.op = .index ty x y) (v : Value)
    (hr : (Instr.index ty (a.eval x) (a.eval y)).run Try.prog w = .ok v w) (h : wpList Try.prog ops Q rest (a.put o.dst v) w) : wpList Try.prog ops Q (o :: rest) a w :=
  wpList_plain hgd fun _ hK => by
    unfold Oper.wp execOp
    simp only [ho, Sem.run_bind, Sem.run_pure, Result.andThen_ok, hr]
    exact hK _ _ h
set_option maxHeartbeats 8000000 in
set_option maxRecDepth 100000 in
theorem refer_row (n : Int) (tx : ByteArray) (ro : Option Addr) (q rc : Nat) (w : World) :
    Calls Try.prog 59 #[.agg (refV 6 0 0 0 n tx (.slice none 0 0)), .slice ro q rc] w fun e w' => e = .returned (.agg (refV 6 0 0 0 n tx (.slice ro q rc))) ∧ Below w.heap.size w w' := by
  have two : ((6 : Nat) : Int) = (6 : Int) := rfl
  unfold refV
  rw [two]
  clear two
  obtain ⟨W1, hW1⟩ : ∃ V2, V2 = w.alloc (.cells #[.int .u8 6, .int .i64 0, .int .i64 0, .int .i64 0, .int .i64 n, .string tx, .slice ro q rc] 46) := ⟨_, rfl⟩
  obtain ⟨W2, hW2⟩ : ∃ V2, V2 = W1.alloc (.cells #[.int .u8 0, .int .i64 0, .int .i64 0, .int .i64 0, .int .i64 0, .string ⟨#[]⟩, .slice none 0 0] 46) := ⟨_, rfl⟩
  have hs1 : W1.heap.size = w.heap.size + 1 := by rw [hW1]; simp
  have hS0 : W2.heap[w.heap.size]? = some (.cells (refV (6 : Nat) 0 0 0 n tx (.slice ro q rc)) 46 (0, 0)) := by rw [hW2, hW1]; exact (Below.heap_alloc _ _ _ (by simp)).trans (Go.heap_alloc_new w _)
  have hS1 : W2.heap[w.heap.size + 1]? = some (.cells (refV (0 : Nat) 0 0 0 0 ⟨#[]⟩ (.slice none 0 0)) 46 (0, 0)) := by rw [hW2, ← hs1]; exact Go.heap_alloc_new W1 _
  have B2 : Hid (Below w.heap.size w W2) := Lib.hid (by rw [hW2, hW1]; exact ((Below.refl _ _).alloc (Nat.le_refl _) _).alloc (by simp) _)
  have HS0 := Lib.hid hS0
  have HS1 := Lib.hid hS1
  have HW := Lib.hid hW2
  have HW1 := Lib.hid hW1
  have H3 := Lib.hid (setRow_heap _ _ _ (refV (6 : Nat) 0 0 0 n tx (.slice ro q rc)) _ _ hS1)
  clear hW1 hW2 hS0 hS1 hs1
  go_enter Try.func59, Try.ntmps59
  go_wp2_with (first
    | (rw [← HW1.out, ← HW.out]; refine wpList_load_row rfl 46 _ rfl w.heap.size rfl 46 _ _ _ HS0.out Try.underlying46 rfl (refV_info _ _ _ _ _ _ _ _ _) ?_)
    | (refine wpList_store_row rfl 46 _ _ rfl (w.heap.size + 1) _ rfl rfl 46 _ HS1.out (refV_info _ _ _ _ _ _ _ _ _) rfl (refV_one _ _ _ _ _ _ _ _ _) ?_)
    | fail)
  refine bodyPost_ret (v := .agg (refV (6 : Nat) 0 0 0 n tx (.slice ro q rc))) ?_ rfl ⟨rfl, ?_⟩
  · exact results_cell_row rfl _ _ (w.heap.size + 1) 46 _ (0, 0) _ rfl H3.out Try.underlying46 rfl (refV_info _ _ _ _ _ _ _ _ _)
  · exact below_setRow B2.out (Nat.le_succ _) _
set_option maxHeartbeats 8000000 in
set_option maxRecDepth 100000 in
theorem refer_some (f : Nat) (hf : f ≠ 6) (n : Int) (tx : ByteArray) (ro : Option Addr) (r : List Int) (rc : Nat) (w : World) (hr : IntRow w ro r) :
    Calls Try.prog 59 #[.agg (refV f 0 0 0 n tx (.slice none 0 0)), .slice ro r.length rc] w fun e w' => e = .returned (.agg (refV f (r.getD 0 0) (r.getD 1 0) (r.getD 2 0) n tx (.slice none 0 0))) ∧ Below w.heap.size w w' := by
  have qf : ((f : Int) == 6) = false := by rw [beq_eq_false_iff_ne]; omega
  obtain ⟨W1, hW1⟩ : ∃ V2, V2 = w.alloc (.cells (refV f 0 0 0 n tx (.slice none 0 0)) 46) := ⟨_, rfl⟩
  obtain ⟨W2, hW2⟩ : ∃ V2, V2 = W1.alloc (.cells #[.int .u8 0, .int .i64 0, .int .i64 0, .int .i64 0, .int .i64 0, .string ⟨#[]⟩, .slice none 0 0] 46) := ⟨_, rfl⟩
  have hs1 : W1.heap.size = w.heap.size + 1 := by rw [hW1]; simp
  have hb0 : W2.heap[w.heap.size]? = some (.cells (refV f 0 0 0 n tx (.slice none 0 0)) 46 (0, 0)) := by rw [hW2, hW1]; exact (Below.heap_alloc _ _ _ (by simp)).trans (Go.heap_alloc_new w _)
  have hb1 : W2.heap[w.heap.size + 1]? = some (.cells #[.int .u8 0, .int .i64 0, .int .i64 0, .int .i64 0, .int .i64 0, .string ⟨#[]⟩, .slice none 0 0] 46 (0, 0)) := by rw [hW2, ← hs1]; exact Go.heap_alloc_new W1 _
  have B2 : Hid (Below w.heap.size w W2) := Lib.hid (by rw [hW2, hW1]; exact ((Below.refl _ _).alloc (Nat.le_refl _) _).alloc (by simp) _)
  have c0 : W2.cell? ⟨w.heap.size, 0, none⟩ = some (.int .u8 f) := cell_of_row _ _ _ _ _ _ hb0
  have HW := Lib.hid hW2
  have HW1 := Lib.hid hW1
  have HR := Lib.hid hr
  have HB0 := Lib.hid hb0
  have HB1 := Lib.hid hb1
  unfold refV
  unfold refV at hW1
  rw [hW2, hW1] at c0
  clear hW1 hW2 hb0 hb1 hs1 hr
  go_enter Try.func59, Try.ntmps59
  go_wp2_with fail
  unfold refV at HW1
  rw [← HW1.out, ← HW.out]
  go_loopw [17] (fun iv wr => ∃ (k : Nat) (a b c : Int), iv = .int .i64 k ∧ k ≤ 3 ∧ wr.heap[w.heap.size]? = some (.cells (refV f a b c n tx (.slice none 0 0)) 46 (0, 0)) ∧ wr.heap[w.heap.size + 1]? = some (.cells #[.int .u8 0, .int .i64 0, .int .i64 0, .int .i64 0, .int .i64 0, .string ⟨#[]⟩, .slice none 0 0] 46 (0, 0)) ∧ Hid (Below w.heap.size w wr) ∧ a = (if 0 < k then r.getD 0 0 else 0) ∧ b = (if 1 < k then r.getD 1 0 else 0) ∧ c = (if 2 < k then r.getD 2 0 else 0)) (fun iv _ => 3 - (intOf iv).toNat)
  case atStart => exact ⟨0, 0, 0, 0, rfl, by decide, HB0.out, HB1.out, B2, rfl, rfl, rfl⟩
  case round =>
    clear c0 HB0 HB1 B2 HW HW1
    obtain ⟨k, a, b, c, rfl, hk3, hB0, hB1, hBe, ea, eb, ec⟩ := hrel
    have EA := Lib.hid ea
    have EB := Lib.hid eb
    have EC := Lib.hid ec
    clear ea eb ec
    have c1 : wr.cell? ⟨w.heap.size, 1, none⟩ = some (.int .i64 a) := cell_of_row _ _ _ _ _ _ hB0
    have c2 : wr.cell? ⟨w.heap.size, 2, none⟩ = some (.int .i64 b) := cell_of_row _ _ _ _ _ _ hB0
    have c3 : wr.cell? ⟨w.heap.size, 3, none⟩ = some (.int .i64 c) := cell_of_row _ _ _ _ _ _ hB0
    have f1 : wr.frozen? ⟨w.heap.size, 1, none⟩ = false := frozen_row11 hB0
    have f2 : wr.frozen? ⟨w.heap.size, 2, none⟩ = false := frozen_row11 hB0
    have f3 : wr.frozen? ⟨w.heap.size, 3, none⟩ = false := frozen_row11 hB0
    by_cases hk : k < 3
    · by_cases hkq : k < r.length
      · obtain ⟨rb, roff, rfl, cr⟩ := int_at HR.out hBe.out hkq
        have hq2 : (k : Int) < (r.length : Int) := by omega
        obtain ⟨y, hy⟩ : ∃ y, y = r.getD k 0 := ⟨_, rfl⟩
        rw [← hy] at cr
        have HY := Lib.hid hy
        clear hy
        rcases (show k = 0 ∨ k = 1 ∨ k = 2 by omega) with h0 | rfl | rfl
        · have hk3 : (k : Int) < 3 := by omega
          have H0 := Lib.hid h0
          have HY : Hid (y = r.getD 0 0) := Lib.hid (by rw [HY.out, h0])
          clear h0
          go_wp2_with (first | (refine wpList_ix rfl _ _ _ rfl _ (run_ix0 H0.out _ _ _ _) ?_) | fail)
          go_roundw
          case rel =>
            have hs := heap_setCell_same wr w.heap.size 1 _ _ (.int .i64 y) hB0
            exact ⟨k + 1, y, b, c, by go_num, by have := H0.out; omega, (by unfold refV at hs ⊢; simpa using hs), (Below.heap_setCell wr ⟨w.heap.size, 1, none⟩ _ _ (by show w.heap.size + 1 ≠ w.heap.size; omega)).trans hB1, Lib.hid (hBe.out.setCell (p := ⟨w.heap.size, 1, none⟩) (Nat.le_refl _) _), HY.out.trans (if_pos (by have := H0.out; omega)).symm, EB.out.trans ((if_neg (by have := H0.out; omega)).trans (if_neg (by have := H0.out; omega)).symm), EC.out.trans ((if_neg (by have := H0.out; omega)).trans (if_neg (by have := H0.out; omega)).symm)⟩
          case measure => simp [intOf]; have := H0.out; omega
        · have kk : ((1 : Nat) : Int) = (1 : Int) := rfl
          try rw [kk]
          try rw [kk] at hq2
          clear kk
          go_wp2_with (first | (refine wpList_ix rfl _ _ _ rfl _ (run_ix1 _ _ _ _) ?_) | fail)
          go_roundw
          case rel =>
            have hs := heap_setCell_same wr w.heap.size 2 _ _ (.int .i64 y) hB0
            exact ⟨2, a, y, c, rfl, by decide, (by unfold refV at hs ⊢; simpa using hs), (Below.heap_setCell wr ⟨w.heap.size, 2, none⟩ _ _ (by show w.heap.size + 1 ≠ w.heap.size; omega)).trans hB1, Lib.hid (hBe.out.setCell (p := ⟨w.heap.size, 2, none⟩) (Nat.le_refl _) _), EA.out.trans ((if_pos (by decide)).trans (if_pos (by decide)).symm), HY.out.trans (if_pos (by decide)).symm, EC.out.trans ((if_neg (by decide)).trans (if_neg (by decide)).symm)⟩
          case measure => simp [intOf]
        · have kk : ((2 : Nat) : Int) = (2 : Int) := rfl
          try rw [kk]
          try rw [kk] at hq2
          clear kk
          go_wp2_with (first | (refine wpList_ix rfl _ _ _ rfl _ (run_ix2 _ _ _ _) ?_) | fail)
          go_roundw
          case rel =>
            have hs := heap_setCell_same wr w.heap.size 3 _ _ (.int .i64 y) hB0
            exact ⟨3, a, b, y, rfl, by decide, (by unfold refV at hs ⊢; simpa using hs), (Below.heap_setCell wr ⟨w.heap.size, 3, none⟩ _ _ (by show w.heap.size + 1 ≠ w.heap.size; omega)).trans hB1, Lib.hid (hBe.out.setCell (p := ⟨w.heap.size, 3, none⟩) (Nat.le_refl _) _), EA.out.trans ((if_pos (by decide)).trans (if_pos (by decide)).symm), EB.out.trans ((if_pos (by decide)).trans (if_pos (by decide)).symm), HY.out.trans (if_pos (by decide)).symm⟩
          case measure => simp [intOf]
      · have hq2 : ¬ (k : Int) < (r.length : Int) := by omega
        have HY := Lib.hid (getD_off hkq)
        rcases (show k = 0 ∨ k = 1 ∨ k = 2 by omega) with h0 | rfl | rfl
        · have hk3 : (k : Int) < 3 := by omega
          have H0 := Lib.hid h0
          have HY : Hid (r.getD 0 0 = 0) := Lib.hid (by have h1 := HY.out; rw [h0] at h1; exact h1)
          clear h0
          go_wp2_with (first | (refine wpList_ix rfl _ _ _ rfl _ (run_ix0 H0.out _ _ _ _) ?_) | fail)
          go_roundw
          case rel =>
            exact ⟨k + 1, a, b, c, by go_num, by have := H0.out; omega, hB0, hB1, hBe, EA.out.trans ((if_neg (by have := H0.out; omega)).trans (HY.out.symm.trans (if_pos (by have := H0.out; omega)).symm)), EB.out.trans ((if_neg (by have := H0.out; omega)).trans (if_neg (by have := H0.out; omega)).symm), EC.out.trans ((if_neg (by have := H0.out; omega)).trans (if_neg (by have := H0.out; omega)).symm)⟩
          case measure => simp [intOf]; have := H0.out; omega
        · have kk : ((1 : Nat) : Int) = (1 : Int) := rfl
          try rw [kk]
          try rw [kk] at hq2
          clear kk
          go_wp2_with (first | (refine wpList_ix rfl _ _ _ rfl _ (run_ix1 _ _ _ _) ?_) | fail)
          go_roundw
          case rel =>
            exact ⟨2, a, b, c, rfl, by decide, hB0, hB1, hBe, EA.out.trans ((if_pos (by decide)).trans (if_pos (by decide)).symm), EB.out.trans ((if_neg (by decide)).trans (HY.out.symm.trans (if_pos (by decide)).symm)), EC.out.trans ((if_neg (by decide)).trans (if_neg (by decide)).symm)⟩
          case measure => simp [intOf]
        · have kk : ((2 : Nat) : Int) = (2 : Int) := rfl
          try rw [kk]
          try rw [kk] at hq2
          clear kk
          go_wp2_with (first | (refine wpList_ix rfl _ _ _ rfl _ (run_ix2 _ _ _ _) ?_) | fail)
          go_roundw
          case rel =>
            exact ⟨3, a, b, c, rfl, by decide, hB0, hB1, hBe, EA.out.trans ((if_pos (by decide)).trans (if_pos (by decide)).symm), EB.out.trans ((if_pos (by decide)).trans (if_pos (by decide)).symm), EC.out.trans ((if_neg (by decide)).trans (HY.out.symm.trans (if_pos (by decide)).symm))⟩
          case measure => simp [intOf]
    · obtain rfl : k = 3 := by omega
      have HE0 : Hid (wr.heap[w.heap.size]? = some (.cells (refV f (r.getD 0 0) (r.getD 1 0) (r.getD 2 0) n tx (.slice none 0 0)) 46 (0, 0))) := Lib.hid (by rw [← EA.out.trans (if_pos (by decide)), ← EB.out.trans (if_pos (by decide)), ← EC.out.trans (if_pos (by decide))]; exact hB0)
      have HE1 : Hid (wr.heap[w.heap.size + 1]? = some (.cells (refV (0 : Nat) 0 0 0 0 ⟨#[]⟩ (.slice none 0 0)) 46 (0, 0))) := Lib.hid hB1
      have H3 := Lib.hid (setRow_heap _ _ _ (refV f (r.getD 0 0) (r.getD 1 0) (r.getD 2 0) n tx (.slice none 0 0)) _ _ HE1.out)
      have kk : ((3 : Nat) : Int) = (3 : Int) := rfl
      try rw [kk]
      clear hB0 hB1 EA EB EC c1 c2 c3 f1 f2 f3 kk
      go_wp2_with (first
        | (refine wpList_load_row rfl 46 _ rfl w.heap.size rfl 46 _ _ _ HE0.out Try.underlying46 rfl (refV_info _ _ _ _ _ _ _ _ _) ?_)
        | (refine wpList_store_row rfl 46 _ _ rfl (w.heap.size + 1) _ rfl rfl 46 _ HE1.out (refV_info _ _ _ _ _ _ _ _ _) rfl (refV_one _ _ _ _ _ _ _ _ _) ?_)
        | fail)
      refine bodyPost_ret (v := .agg (refV f (r.getD 0 0) (r.getD 1 0) (r.getD 2 0) n tx (.slice none 0 0))) ?_ rfl ⟨rfl, ?_⟩
      · exact results_cell_row rfl _ _ (w.heap.size + 1) 46 _ (0, 0) _ rfl H3.out Try.underlying46 rfl (refV_info _ _ _ _ _ _ _ _ _)
      · exact below_setRow hBe.out (Nat.le_succ _) _
end Go.Proofs.Ytpajcalfjfkogaa.Pl

namespace Go.Proofs.Ytpajcalfjfkogaa.Pl
open Go.RowKit Go.Maps

/-- A row of numbers that lies outside. -/
def IntOut (A : Nat → Prop) (w : World) (ao : Option Addr) (l : List Int) : Prop := l = [] ∨ ∃ b off, ao = some ⟨b, off, none⟩ ∧ b < w.heap.size ∧ ¬ A b ∧ ∀ j, (hj : j < l.length) → w.cell? ⟨b, off + j, none⟩ = some (.int .i64 l[j])
theorem IntOut.row {A : Nat → Prop} {w : World} {ao : Option Addr} {l : List Int} (h : IntOut A w ao l) : IntRow w ao l := by
  rcases h with h | ⟨b, off, e, hlt, _, hc⟩
  · exact .inl h
  · exact .inr ⟨b, off, e, hlt, hc⟩
/-- Blocks outside of A stand still. -/
structure Still (A A' : Nat → Prop) (w w' : World) : Prop where
  size : w.heap.size ≤ w'.heap.size
  block : ∀ b, b < w.heap.size → ¬ A b → w'.heap[b]? = w.heap[b]?
  more : ∀ b, A' b → A b ∨ w.heap.size ≤ b
theorem IntOut.still {A A' : Nat → Prop} {w w' : World} {ao : Option Addr} {l : List Int} (h : IntOut A w ao l) (hs : Still A A' w w') : IntOut A' w' ao l := by
  rcases h with h | ⟨b, off, e, hlt, hn, hc⟩
  · exact .inl h
  · exact .inr ⟨b, off, e, Nat.lt_of_lt_of_le hlt hs.size, fun k => (hs.more b k).elim hn (fun k2 => by omega), fun j hj => (cell_of_heap (hs.block b hlt hn)).trans (hc j hj)⟩
theorem RowOut.still {A A' : Nat → Prop} {w w' : World} {ao : Option Addr} {L : List ByteArray} (h : RowOut A w ao L) (hs : Still A A' w w') : RowOut A' w' ao L := by
  rcases h with h | ⟨b, off, e, hlt, hn, hc⟩
  · exact .inl h
  · exact .inr ⟨b, off, e, Nat.lt_of_lt_of_le hlt hs.size, fun k => (hs.more b k).elim hn (fun k2 => by omega), fun j hj => (cell_of_heap (hs.block b hlt hn)).trans (hc j hj)⟩
theorem OrgAt.still {A A' : Nat → Prop} {w w' : World} {e : Ent} {v : Value} (h : OrgAt A w e v) (hs : Still A A' w w') : OrgAt A' w' e v := by
  obtain ⟨f, n, tx, ao, cap, L, h1, h2, h3, h4, h5⟩ := h
  exact ⟨f, n, tx, ao, cap, L, h1, h2, h3, h4, h5.still hs⟩
/-- The cells of a row of steps, whose rows of numbers are somewhere. -/
def flatG (R : Option Addr → List Int → Prop) : List Value → List Stp → Prop
  | cs, [] => cs = []
  | cs, s :: r => ∃ lo lc cs', cs = stpCells s lo lc ++ cs' ∧ R lo s.list ∧ (lo = none → lc = 0) ∧ s.Fit ∧ flatG R cs' r
theorem flatG_mono {R R' : Option Addr → List Int → Prop} (h : ∀ lo l, R lo l → R' lo l) : ∀ {l : List Stp} {cs : List Value}, flatG R cs l → flatG R' cs l
  | [], _, k => k
  | _ :: _, _, k => by
    obtain ⟨lo, lc, cs', e, h2, h3, h4, h5⟩ := k
    exact ⟨lo, lc, cs', e, h _ _ h2, h3, h4, flatG_mono h h5⟩
theorem flatG_snoc {R : Option Addr → List Int → Prop} {s : Stp} {lo : Option Addr} {lc : Nat} (h2 : R lo s.list) (h3 : lo = none → lc = 0) (h4 : s.Fit) : ∀ {l : List Stp} {cs : List Value}, flatG R cs l → flatG R (cs ++ stpCells s lo lc) (l ++ [s])
  | [], cs, k => by
    have : cs = [] := k
    rw [this]
    exact ⟨lo, lc, [], by simp, h2, h3, h4, rfl⟩
  | t :: r, _, k => by
    obtain ⟨lo', lc', cs', rfl, g2, g3, g4, g5⟩ := k
    exact ⟨lo', lc', cs' ++ stpCells s lo lc, by rw [List.append_assoc], g2, g3, g4, flatG_snoc h2 h3 h4 g5⟩
theorem flatG_S {w : World} : ∀ {l : List Stp} {cs : List Value}, flatG (IntRow w) cs l → flatS w cs l
  | [], _, k => k
  | _ :: _, _, k => by
    obtain ⟨lo, lc, cs', e, h2, h3, h4, h5⟩ := k
    exact ⟨lo, lc, cs', e, h2, h3, h4, flatG_S h5⟩
/-- Where each term's step stands, as a map's pairs. -/
def ats (T : List (List UInt8)) : List (Lit × Value) := T.zipIdx.map fun x => (Lit.string x.1, Value.int .i64 (x.2 : Int))
theorem ats_len (T : List (List UInt8)) : (ats T).length = T.length := by simp [ats]
theorem ats_snoc (T : List (List UInt8)) (t : List UInt8) : ats (T ++ [t]) = ats T ++ [(.string t, .int .i64 (T.length : Int))] := by
  unfold ats
  rw [List.zipIdx_append, List.map_append]
  simp
theorem ats_key (T : List (List UInt8)) (t : List UInt8) : Lit.string t ∈ (ats T).map Prod.fst ↔ t ∈ T := by
  unfold ats
  rw [List.map_map]
  constructor
  · intro h
    obtain ⟨x, hx, e⟩ := List.mem_map.1 h
    injection e with e
    rw [← e]
    exact List.fst_mem_of_mem_zipIdx hx
  · intro h
    obtain ⟨i, hi, rfl⟩ := List.getElem_of_mem h
    exact List.mem_map.2 ⟨(T[i], i), List.mk_mem_zipIdx_iff_getElem?.2 (List.getElem?_eq_getElem hi), rfl⟩
theorem ats_at {T : List (List UInt8)} {i : Nat} (hi : i < T.length) : (Lit.string T[i], Value.int .i64 (i : Int)) ∈ ats T :=
  List.mem_map.2 ⟨(T[i], i), List.mk_mem_zipIdx_iff_getElem?.2 (List.getElem?_eq_getElem hi), rfl⟩
/-- A maker that lays out. F: what it may turn; A: what no row of it lies in. -/
structure LyA (w : World) (F A : Nat → Prop) (p : Nat) (E : List Ent) (ss : List Stp) (T : List (List UInt8)) (mm ma : Nat) (sv kv : Value) (V cs : List Value) : Prop where
  cells : w.heap[p]? = some (.cells #[.map (some mm), sv, kv, .map (some ma)] 60 (0, 0))
  len : V.length = E.length
  made : MapV w 9 mm (prs E V)
  org : ∀ k, (hk : k < E.length) → OrgAt A w E[k] (V[k]'(by omega))
  rows : w.ownsRow 0 46 7 kv ss.length cs
  flat : flatG (IntOut A w) cs ss
  at_ : MapV w 9 ma (ats T)
  fp : F p
  fm : F mm
  fa : F ma
  fk : ∀ b, kv.ownBlock = some b → F b
  sub : ∀ b, F b → A b
  foot : ∀ b, A b → b < w.heap.size
  nma : mm ≠ ma
def Ly (w : World) (F A : Nat → Prop) (p : Nat) (E : List Ent) (ss : List Stp) (T : List (List UInt8)) : Prop := ∃ mm ma sv kv V cs, LyA w F A p E ss T mm ma sv kv V cs
variable {w w' : World} {F A A' : Nat → Prop} {p mm ma : Nat} {E : List Ent} {ss : List Stp} {T : List (List UInt8)} {sv kv : Value} {V cs : List Value}
theorem LyA.ne (h : LyA w F A p E ss T mm ma sv kv V cs) : p ≠ mm ∧ p ≠ ma ∧ (∀ b, kv.ownBlock = some b → p ≠ b ∧ mm ≠ b ∧ ma ≠ b) := by
  obtain ⟨es, c, h1⟩ := h.made.ex
  obtain ⟨es2, c2, h2⟩ := h.at_.ex
  have h0 := h.cells
  refine ⟨fun e => ?_, fun e => ?_, fun b hb => ?_⟩
  · rw [e, h1] at h0
    cases h0
  · rw [e, h2] at h0
    cases h0
  · rcases h.rows.2 with ⟨rfl, _⟩ | ⟨g, cap, cur, rfl, _, hg, _⟩
    · cases hb
    · obtain rfl : g = b := Option.some.inj hb
      refine ⟨fun e => ?_, fun e => ?_, fun e => ?_⟩
      · rw [e, hg] at h0
        injection h0 with h0
        injection h0 with _ h0
        exact absurd h0 (by decide)
      · rw [e, hg] at h1
        cases h1
      · rw [e, hg] at h2
        cases h2
theorem ownsRow_other {B e k n : Nat} {v : Value} {xs : List Value} (h : w.ownsRow B e k v n xs) (hb : ∀ b, v.ownBlock = some b → w'.heap[b]? = w.heap[b]?) : w'.ownsRow B e k v n xs := by
  refine ⟨h.1, ?_⟩
  rcases h.2 with hn | ⟨g, cap, cur, hv, hbg, hg, rest⟩
  · exact .inl hn
  · exact .inr ⟨g, cap, cur, hv, hbg, (hb g (by rw [hv]; rfl)).trans hg, rest⟩
/-- What turns nothing that it turns, and no row of it, leaves it as it is. -/
theorem LyA.kept (h : LyA w F A p E ss T mm ma sv kv V cs) (hs : Still A A' w w') (hF : ∀ b, F b → w'.heap[b]? = w.heap[b]?) (hsub : ∀ b, F b → A' b) (hfoot : ∀ b, A' b → b < w'.heap.size) : LyA w' F A' p E ss T mm ma sv kv V cs :=
  ⟨(hF p h.fp).trans h.cells, h.len, h.made.of_block (hF mm h.fm), fun k hk => (h.org k hk).still hs, ownsRow_other h.rows (fun b k => hF b (h.fk b k)), flatG_mono (fun _ _ k => k.still hs) h.flat, h.at_.of_block (hF ma h.fa), h.fp, h.fm, h.fa, h.fk, hsub, hfoot, h.nma⟩
theorem still_below (hb : Below w.heap.size w w') : Still A A w w' := ⟨hb.size, fun b k _ => hb.block b k, fun _ k => .inl k⟩
theorem LyA.below (h : LyA w F A p E ss T mm ma sv kv V cs) (hb : Below w.heap.size w w') : LyA w' F A p E ss T mm ma sv kv V cs :=
  h.kept (still_below hb) (fun b k => hb.block b (h.foot b (h.sub b k))) h.sub (fun b k => Nat.lt_of_lt_of_le (h.foot b k) hb.size)
theorem Ly.below (h : Ly w F A p E ss T) (hb : Below w.heap.size w w') : Ly w' F A p E ss T := by
  obtain ⟨mm, ma, sv, kv, V, cs, k⟩ := h
  exact ⟨mm, ma, sv, kv, V, cs, k.below hb⟩
/-- A maker that has laid nothing. -/
theorem MkA.ly {S : List Shut} (h : MkA w F p E S mm ma sv V) : LyA w F F p E [] [] mm ma sv (.slice none 0 0) V [] :=
  ⟨h.cells, h.len, h.made, h.org, World.ownsRow_nil _ _ _ _, rfl, h.at_, h.fp, h.fm, h.fa, fun b hb => (by cases hb), fun _ hb => hb, h.foot, h.nma⟩
/-- It is noted where one more term's step is to stand. -/
theorem LyA.noted (h : LyA w F A p E ss T mm ma sv kv V cs) {t : List UInt8} (hm : MapV w' 9 ma (ats T ++ [(.string t, .int .i64 (T.length : Int))])) (ht : w.mapTurned w' ma) : LyA w' F A p E ss (T ++ [t]) mm ma sv kv V cs := by
  obtain ⟨n1, n2, n3⟩ := h.ne
  have hT : Turn A w w' := turned_turn ht (h.sub _ h.fa)
  have hs : Still A A w w' := ⟨hT.size, hT.block, fun _ k => .inl k⟩
  have g : ∀ b, b < w.heap.size → b ≠ ma → w'.heap[b]? = w.heap[b]? := fun b hb hn => ht.grown.block b hb (fun e => hn (Option.some.inj e))
  have lt : ∀ b, F b → b < w.heap.size := fun b k => h.foot b (h.sub b k)
  exact ⟨(g p (lt p h.fp) n2).trans h.cells, h.len, h.made.of_block (g mm (lt mm h.fm) h.nma), fun k hk => (h.org k hk).still hs, ownsRow_other h.rows (fun b k => g b (lt b (h.fk b k)) (fun e => (n3 b k).2.2 e.symm)), flatG_mono (fun _ _ k => k.still hs) h.flat, by rw [ats_snoc]; exact hm, h.fp, h.fm, h.fa, h.fk, h.sub, fun b k => Nat.lt_of_lt_of_le (h.foot b k) hT.size, h.nma⟩
theorem stp_one (s : Stp) (lo : Option Addr) (lc : Nat) : ∀ u ∈ (stpCells s lo lc), u.oneCell' = true := by
  intro u hu
  simp only [stpCells, List.mem_cons, List.not_mem_nil, or_false] at hu
  rcases hu with rfl | rfl | rfl | rfl | rfl | rfl | rfl <;> rfl
/-- One step more is appended. -/
theorem appK_run {W1 : World} (h : LyA W1 F A p E ss T mm ma sv kv V cs) (hl : ss.length ≤ 1000000000) (s : Stp) (lo : Option Addr) (lc : Nat) (cv : Array Value) (hcv : cv.toList = stpCells s lo lc) :
    ∃ v' w', (Builtin.append_ #[23, 23] 23 #[kv, .slice (some ⟨W1.heap.size, 0, none⟩) 1 1]).run Try.prog (W1.alloc (.cells cv 46)) = .ok v' w' ∧ w'.ownsRow 0 46 7 v' (ss ++ [s]).length (cs ++ stpCells s lo lc) ∧
      (W1.alloc (.cells cv 46)).grownBy w' kv.ownBlock ∧ ∀ b, v'.ownBlock = some b → kv.ownBlock = some b ∨ W1.heap.size ≤ b := by
  obtain ⟨i0, hi, hz0, hz1, hz2⟩ := info_parts infoStp
  have hsz : cv.size = 7 := by rw [← Array.length_toList, hcv]; rfl
  obtain ⟨v', w', r1, r2, r3, r4⟩ := appL_run (t := 23) (e := 46) (z := .agg #[.int .u8 0, .int .i64 0, .int .i64 0, .int .i64 0, .int .i64 0, .string ⟨#[]⟩, .slice none 0 0]) Try.underlying23 hi hz0 hz1 hz2 rfl (by decide) (by decide) cv hsz (by rw [hcv]; exact stp_one s lo lc) h.rows (Nat.zero_le _) hl
  refine ⟨v', w', r1, ?_, r3, fun b hb => ?_⟩
  · rw [List.length_append, ← hcv]
    exact r2
  · rcases r4 with ⟨h1, _⟩ | ⟨h1, _⟩
    · exact .inl (h1 ▸ hb)
    · rw [h1] at hb
      have := Option.some.inj hb
      exact .inr (by omega)
/-- The longer row of steps is the maker's. -/
theorem LyA.stepped {W w5 : World} {v' : Value} (h : LyA W F A p E ss T mm ma sv kv V cs) {s : Stp} {lo : Option Addr} {lc : Nat} {cv : Array Value} (ho : w5.ownsRow 0 46 7 v' (ss ++ [s]).length (cs ++ stpCells s lo lc)) (hg : (W.alloc (.cells cv 46)).grownBy w5 kv.ownBlock) (hloc : ∀ b, v'.ownBlock = some b → kv.ownBlock = some b ∨ W.heap.size ≤ b)
    (hi : IntOut A W lo s.list) (hl : lo = none → lc = 0) (hfit : s.Fit) :
    LyA (w5.setCell ⟨p, 2, none⟩ v') (fun b => F b ∨ v'.ownBlock = some b) (fun b => A b ∨ v'.ownBlock = some b) p E (ss ++ [s]) T mm ma sv v' V (cs ++ stpCells s lo lc) ∧ Turn F W (w5.setCell ⟨p, 2, none⟩ v') := by
  obtain ⟨n1, n2, n3⟩ := h.ne
  have hlt : ∀ b, F b → b < W.heap.size := fun b k => h.foot b (h.sub b k)
  have hsz := hg.size
  rw [World.size_alloc] at hsz
  have g : ∀ b, b < W.heap.size → (∀ o, kv.ownBlock = some o → b ≠ o) → w5.heap[b]? = W.heap[b]? := fun b hb hn => (hg.block b (by simp; omega) (fun e => hn b e.symm rfl)).trans (Below.heap_alloc W _ b hb)
  have g2 : ∀ b, b < W.heap.size → b ≠ p → (∀ o, kv.ownBlock = some o → b ≠ o) → (w5.setCell ⟨p, 2, none⟩ v').heap[b]? = W.heap[b]? := fun b hb hp hn => (Below.heap_setCell w5 ⟨p, 2, none⟩ v' b hp).trans (g b hb hn)
  have hss : (w5.setCell ⟨p, 2, none⟩ v').heap.size = w5.heap.size := by simp [World.setCell]
  have hT : Turn F W (w5.setCell ⟨p, 2, none⟩ v') := by
    refine ⟨?_, ?_, ?_, ?_, fun b hb hn => g2 b hb (fun e => hn (e ▸ h.fp)) (fun o ho e => hn (e ▸ h.fk o ho))⟩
    · exact hg.os.trans rfl
    · exact hg.tape.trans rfl
    · exact hg.output.trans rfl
    · rw [hss]; omega
  have hS : Still A (fun b => A b ∨ v'.ownBlock = some b) W (w5.setCell ⟨p, 2, none⟩ v') := ⟨hT.size, fun b hb hn => hT.block b hb (fun k => hn (h.sub b k)), fun b hb => hb.elim .inl (fun q => (hloc b q).elim (fun r => .inl (h.sub b (h.fk b r))) .inr)⟩
  have hp5 : w5.heap[p]? = some (.cells #[.map (some mm), sv, kv, .map (some ma)] 60 (0, 0)) := (g p (hlt p h.fp) (fun o k e => (n3 o k).1 e)).trans h.cells
  have hbp : ∀ b, v'.ownBlock = some b → b ≠ p := fun b hb e => by
    rcases ho.2 with ⟨rfl, _⟩ | ⟨gg, cap, cur, rfl, _, hgg, _⟩
    · cases hb
    · obtain rfl : gg = b := Option.some.inj hb
      rw [e, hp5] at hgg
      injection hgg with hgg
      injection hgg with _ hgg
      exact absurd hgg (by decide)
  refine ⟨⟨?_, h.len, h.made.of_block (g2 mm (hlt mm h.fm) (fun e => n1 e.symm) (fun o k => (n3 o k).2.1)), fun k hk => (h.org k hk).still hS, ownsRow_other ho (fun b hb => Below.heap_setCell w5 ⟨p, 2, none⟩ v' b (hbp b hb)), flatG_snoc (hi.still hS) hl hfit (flatG_mono (fun _ _ k => k.still hS) h.flat), h.at_.of_block (g2 ma (hlt ma h.fa) (fun e => n2 e.symm) (fun o k => (n3 o k).2.2)), .inl h.fp, .inl h.fm, .inl h.fa, fun b hb => .inr hb, fun b hb => hb.elim (fun k => .inl (h.sub b k)) .inr, fun b hb => ?_, h.nma⟩, hT⟩
  · have := heap_setCell_same w5 p 2 #[.map (some mm), sv, kv, .map (some ma)] 60 v' hp5
    simpa using this
  · rw [hss]
    rcases hb with hb | hb
    · have := h.foot b hb
      omega
    · exact (World.ownsRow.lt ho b hb).2
end Go.Proofs.Ytpajcalfjfkogaa.Pl

namespace Go.Proofs.Ytpajcalfjfkogaa.Pl
open Go.RowKit Go.Maps

theorem zero_int11 (w : World) : (zeroValue 3).run Try.prog w = .ok (.int .i64 0) w := by kernel_rfl
theorem infoInt11 : (Try.prog.info? 3).map (fun i => (i.zero, i.size, i.bytes)) = some (some (.int .i64 0), 1, 8) := by kernel_rfl
/-- A row of indices that a call owns. -/
def OwnJ (w : World) (v : Value) (is : List Nat) : Prop := w.ownsRow 0 3 1 v is.length (is.map fun (x : Nat) => Value.int .i64 (x : Int))
theorem ownJ_nil (w : World) : OwnJ w (.slice none 0 0) [] := World.ownsRow_nil _ _ _ _
theorem ownJ_other {w w' : World} {v : Value} {is : List Nat} (h : OwnJ w v is) (hb : ∀ b, v.ownBlock = some b → w'.heap[b]? = w.heap[b]?) : OwnJ w' v is := ownsRow_other h hb
theorem ownJ_row {w : World} {v : Value} {is : List Nat} (h : OwnJ w v is) {A : Nat → Prop} (hA : ∀ b, v.ownBlock = some b → ¬ A b) : ∃ ro rc, v = .slice ro is.length rc ∧ (ro = none → rc = 0) ∧ IntOut A w ro (idx is) := by
  have h' := h
  unfold OwnJ at h'
  rcases h.2 with ⟨hv, h0⟩ | ⟨g, cap, cur, hv, hbg, hg, rest⟩
  · refine ⟨none, 0, by rw [hv, h0], fun _ => rfl, .inl ?_⟩
    rw [List.length_eq_zero_iff.1 h0]
    rfl
  · refine ⟨some ⟨g, 0, none⟩, cap, hv, fun e => (by cases e), .inr ⟨g, 0, rfl, (Array.getElem?_eq_some_iff.1 hg).1, hA g (by rw [hv]; rfl), fun j hj => ?_⟩⟩
    have hj2 : j < is.length := by simpa [idx] using hj
    have k := h'.cells (g := g) (by rw [hv]; rfl) j (.int .i64 (is[j] : Int)) (by simp [hj2])
    rw [addr_add] at k
    simpa [idx] using k
theorem appJ_run {W1 : World} {v : Value} {is : List Nat} (i : Nat) (h : OwnJ W1 v is) (hl : is.length ≤ 1000000000) :
    ∃ v' w', (Builtin.append_ #[44, 44] 44 #[v, .slice (some ⟨W1.heap.size, 0, none⟩) 1 1]).run Try.prog (W1.alloc (.cells #[.int .i64 (i : Int)] 3)) = .ok v' w' ∧ OwnJ w' v' (is ++ [i]) ∧
      (W1.alloc (.cells #[.int .i64 (i : Int)] 3)).grownBy w' v.ownBlock ∧ ∀ b, v'.ownBlock = some b → v.ownBlock = some b ∨ W1.heap.size ≤ b := by
  obtain ⟨i0, hi, hz0, hz1, hz2⟩ := info_parts infoInt11
  obtain ⟨v', w', r1, r2, r3, r4⟩ := appL_run (t := 44) (e := 3) (z := .int .i64 0) Try.underlying44 hi hz0 hz1 hz2 rfl (by decide) (by decide) #[.int .i64 (i : Int)] rfl (by intro u hu; simp only [List.mem_cons, List.not_mem_nil, or_false] at hu; rw [hu]; rfl) h (Nat.zero_le _) hl
  refine ⟨v', w', r1, ?_, r3, fun b hb => ?_⟩
  · unfold OwnJ
    rw [List.length_append, List.map_append]
    exact r2
  · rcases r4 with ⟨h1, _⟩ | ⟨h1, _⟩
    · exact .inl (h1 ▸ hb)
    · rw [h1] at hb
      have := Option.some.inj hb
      exact .inr (by omega)
theorem wpList_appJ {ops : Array Oper} {rest : List Oper} {o : Oper} {a : Act} {Q : Exit → Act → World → Prop} (hgd : o.guard = none) (x y : Operand)
    (ho : o.op = .call { callee := .builtin .append, args := #[x, y], argTypes := #[44, 44] }) (hty : o.type = 44) {W1 : World} {v : Value} {is : List Nat} (i : Nat) (hx : a.eval x = v) (hy : a.eval y = .slice (some ⟨W1.heap.size, 0, none⟩) 1 1)
    (hrow : OwnJ W1 v is) (hl : is.length ≤ 1000000000)
    (h : ∀ v' w', OwnJ w' v' (is ++ [i]) → (W1.alloc (.cells #[.int .i64 (i : Int)] 3)).grownBy w' v.ownBlock → (∀ b, v'.ownBlock = some b → v.ownBlock = some b ∨ W1.heap.size ≤ b) → wpList Try.prog ops Q rest (a.put o.dst v') w') :
    wpList Try.prog ops Q (o :: rest) a (W1.alloc (.cells #[.int .i64 (i : Int)] 3)) :=
  wpList_plain hgd fun _ hK => by
    obtain ⟨v', w', hr, h2, h3, h4⟩ := appJ_run i hrow hl
    unfold Oper.wp execOp
    simp only [ho, hty, resolve, invoke, builtin, Sem.run_bind, Sem.run_pure, Result.andThen_ok, List.map_toArray, List.map_cons, List.map_nil, hx, hy, hr]
    exact hK _ _ (h v' w' h2 h3 h4)
/-- An append of a step, in a drawn region. -/
theorem wpOp_appK {ops : Array Oper} {o : Oper} {a : Act} {K : Act → World → Prop} {Q : Exit → Act → World → Prop} (hw : Region.wanted o (yielded ops a.tmps) = true) (x y : Operand)
    (ho : o.op = .call { callee := .builtin .append, args := #[x, y], argTypes := #[23, 23] }) (hty : o.type = 23) {W1 : World} {F A : Nat → Prop} {p mm ma : Nat} {E : List Ent} {ss : List Stp} {T : List (List UInt8)} {sv kv : Value} {V cs : List Value}
    (hL : LyA W1 F A p E ss T mm ma sv kv V cs) (hl : ss.length ≤ 1000000000) (s : Stp) (lo : Option Addr) (lc : Nat) (cv : Array Value) (hcv : cv.toList = stpCells s lo lc) (hx : a.eval x = kv) (hy : a.eval y = .slice (some ⟨W1.heap.size, 0, none⟩) 1 1)
    (h : ∀ v' w', w'.ownsRow 0 46 7 v' (ss ++ [s]).length (cs ++ stpCells s lo lc) → (W1.alloc (.cells cv 46)).grownBy w' kv.ownBlock → (∀ b, v'.ownBlock = some b → kv.ownBlock = some b ∨ W1.heap.size ≤ b) → K (a.put o.dst v') w') :
    if Region.wanted o (yielded ops a.tmps) = true then Oper.wp Try.prog o a (W1.alloc (.cells cv 46)) K Q else K (a.put o.dst undef) (W1.alloc (.cells cv 46)) := by
  rw [if_pos hw]
  obtain ⟨v', w', hr, h2, h3, h4⟩ := appK_run hL hl s lo lc cv hcv
  unfold Oper.wp execOp
  simp only [ho, hty, resolve, invoke, builtin, Sem.run_bind, Sem.run_pure, Result.andThen_ok, List.map_toArray, List.map_cons, List.map_nil, hx, hy, hr]
  exact h v' w' h2 h3 h4
theorem Ly.fewer {w : World} {F A A' : Nat → Prop} {p : Nat} {E : List Ent} {ss : List Stp} {T : List (List UInt8)} (h : Ly w F A p E ss T) (hA : ∀ b, A' b → A b) (hF : ∀ b, F b → A' b) : Ly w F A' p E ss T := by
  obtain ⟨mm, ma, sv, kv, V, cs, k⟩ := h
  exact ⟨mm, ma, sv, kv, V, cs, k.kept ⟨Nat.le_refl _, fun _ _ _ => rfl, fun b hb => .inl (hA b hb)⟩ (fun _ _ => rfl) hF (fun b hb => k.foot b (hA b hb))⟩
/-- One index more is appended: the maker stands as it stood. -/
theorem Ly.grown {W w' : World} {F B : Nat → Prop} {p : Nat} {E : List Ent} {ss : List Stp} {T : List (List UInt8)} {v v' : Value} {is : List Nat} {o : Obj} (h : Ly W F (fun b => B b ∨ v.ownBlock = some b) p E ss T) (hB : ∀ b, v.ownBlock = some b → ¬ B b) (hFB : ∀ b, F b → B b)
    (hown : OwnJ w' v' is) (hg : (W.alloc o).grownBy w' v.ownBlock) (hloc : ∀ b, v'.ownBlock = some b → v.ownBlock = some b ∨ W.heap.size ≤ b) : Ly w' F (fun b => B b ∨ v'.ownBlock = some b) p E ss T ∧ (∀ b, v'.ownBlock = some b → ¬ B b) ∧ Still (fun b => B b ∨ v.ownBlock = some b) (fun b => B b ∨ v'.ownBlock = some b) W w' := by
  obtain ⟨mm, ma, sv, kv, V, cs, k⟩ := h
  have hsz := hg.size
  rw [World.size_alloc] at hsz
  have g : ∀ b, b < W.heap.size → ¬ v.ownBlock = some b → w'.heap[b]? = W.heap[b]? := fun b hb hn => (hg.block b (by simp; omega) (fun e => hn e.symm)).trans (Below.heap_alloc W _ b hb)
  have hS : Still (fun b => B b ∨ v.ownBlock = some b) (fun b => B b ∨ v'.ownBlock = some b) W w' := ⟨by omega, fun b hb hn => g b hb (fun e => hn (.inr e)), fun b hb => hb.elim (fun q => .inl (.inl q)) (fun q => (hloc b q).elim (fun r => .inl (.inr r)) .inr)⟩
  refine ⟨⟨mm, ma, sv, kv, V, cs, k.kept hS (fun b hb => g b (k.foot b (.inl (hFB b hb))) (fun e => hB b e (hFB b hb))) (fun b hb => .inl (hFB b hb)) (fun b hb => ?_)⟩, fun b hb hn => ?_, hS⟩
  · rcases hb with hb | hb
    · have := k.foot b (.inl hb)
      omega
    · exact (World.ownsRow.lt hown b hb).2
  · rcases hloc b hb with e | e
    · exact hB b e hn
    · have := k.foot b (.inl hn)
      omega
/-- What refer hands back. -/
theorem refer11_any (f : Nat) (n : Int) (tx : ByteArray) (ro : Option Addr) (r : List Int) (rc : Nat) (hrc : ro = none → rc = 0) : ∃ (a b c : Int) (lo : Option Addr) (q lc : Nat), (refV f a b c n tx (.slice lo q lc)).toList = stpCells (referP (stp0 f n tx) r) lo lc ∧ (lo = none → lc = 0) ∧ (∀ A W, IntOut A W ro r → IntOut A W lo (referP (stp0 f n tx) r).list) ∧
    ∀ w, IntRow w ro r → Calls Try.prog 59 #[.agg (refV f 0 0 0 n tx (.slice none 0 0)), .slice ro r.length rc] w fun e w' => e = .returned (.agg (refV f a b c n tx (.slice lo q lc))) ∧ Below w.heap.size w w' := by
  by_cases hf : f = 6
  · subst hf
    exact ⟨0, 0, 0, ro, r.length, rc, rfl, hrc, fun _ _ h => h, fun w _ => refer_row n tx ro r.length rc w⟩
  · have e : referP (stp0 f n tx) r = ⟨f, r.getD 0 0, r.getD 1 0, r.getD 2 0, n, tx, []⟩ := by
      unfold referP
      exact if_neg hf
    refine ⟨r.getD 0 0, r.getD 1 0, r.getD 2 0, none, 0, 0, by rw [e]; rfl, fun _ => rfl, fun _ _ _ => .inl (by rw [e]), fun w h => refer_some f hf n tx ro r rc w h⟩
theorem refer_fit {f : Nat} {n : Int} {tx : ByteArray} (h : (stp0 f n tx).Fit) {is : List Nat} (h1 : ∀ i ∈ is, i ≤ 1000000) (h2 : is.length ≤ 1000000) : (referP (stp0 f n tx) (idx is)).Fit := by
  obtain ⟨g1, g2, g3, g4, g5, g6, g7, g8⟩ := h
  have hm : ∀ v ∈ idx is, I64 v := fun v hv => by
    obtain ⟨i, hi, rfl⟩ := List.mem_map.1 hv
    have := h1 i hi
    constructor <;> omega
  have hd : ∀ k, I64 ((idx is).getD k 0) := fun k => by
    by_cases hk : k < (idx is).length
    · rw [List.getD_eq_getElem?_getD, List.getElem?_eq_getElem hk]
      exact hm _ (List.getElem_mem hk)
    · rw [getD_off hk]
      exact ⟨by decide, by decide⟩
  unfold referP
  split
  · refine ⟨g1, g2, g3, g4, g5, g6, ?_, hm⟩
    show (idx is).length ≤ _
    unfold idx
    rw [List.length_map]
    omega
  · exact ⟨g1, hd 0, hd 1, hd 2, g5, g6, g7, g8⟩
variable {was : List (List UInt8)} {U : Tm → Prop} {E : List Ent} {ss : List Stp} {T : List (List UInt8)}
theorem laid_size (h : Laid was E ss T) : ss.length = T.length ∧ T.length ≤ E.length := by
  have h1 := (steps_len was ss [] T 0 h.run).1
  refine ⟨by simpa using h1.symm, ?_⟩
  have h2 := nodup_len (C := keysE E) h.nodup h.sub
  unfold keysE at h2
  rwa [List.length_map] at h2
theorem laid_fresh (hg : Good was U E) {k : Nat} (hk : k < E.length) (hn : (E[k]).t ∉ T) {xs : List (List UInt8)} {ss1 : List Stp} {T1 : List (List UInt8)} (h : LaidTo was E k ss T xs ss1 T1) : (E[k]).t ∉ T1 := fun hin => by
  have hnk : (E[k]).t ∈ keysE (E.take k) := h.new _ hin hn
  have h1 := hg.nodup
  have h2 : E = E.take (k + 1) ++ E.drop (k + 1) := (List.take_append_drop _ _).symm
  rw [h2, keysE_app, keysE_at hk, keysE_app] at h1
  exact (List.nodup_append.1 (List.nodup_append.1 h1).1).2.2 _ hnk _ (by simp [keysE]) rfl
end Go.Proofs.Ytpajcalfjfkogaa.Pl
