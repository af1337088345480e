/- What the document's take of layer 10 does: what is new of a term that is known is told. -/
import Derived.Test.YtkebfabmcajbmaaGreatKnowRefA
import Derived.RangeFuncBox
namespace Go.Proofs.YtkebfabmcajbmaaGreat.Pl
open Go.RowKit

theorem ins_len (L : List (List UInt8)) (s : List UInt8) : (insL L s).length ≤ L.length + 1 := by
  unfold insL
  split
  · omega
  · simp
theorem foldIns_len : ∀ (l : List Tm) (L : List (List UInt8)), (l.foldl (fun L y => insL L y.enc) L).length ≤ L.length + l.length
  | [], _ => Nat.le_refl _
  | y :: l, L => by
    have h1 := foldIns_len l (insL L y.enc)
    have h2 := ins_len L y.enc
    simp only [List.foldl_cons, List.length_cons]
    omega
theorem takeTs_len : ∀ l : List Tm, (∀ t ∈ l, (takeT t).length ≤ t.enc.length) → (takeTs l).length ≤ (encs l).length
  | [], _ => Nat.le_refl _
  | t :: l, h => by
    have h1 := h t (List.mem_cons.2 (.inl rfl))
    have h2 := takeTs_len l fun u hu => h u (List.mem_cons.2 (.inr hu))
    rw [takeTs, encs, List.length_append, List.length_append]
    omega
theorem takeT_len : ∀ t : Tm, t.good → (takeT t).length ≤ t.enc.length := by
  refine Tm.ind fun hd l ih hg => ?_
  have h2 := two_bytes _ hg
  rw [takeT]
  split
  · exact Nat.zero_le _
  · split
    · have := takeTs_len l fun t ht => ih t ht (goods_mem hg.2 t ht)
      rw [Tm.enc_node, List.length_append]
      omega
    · simp only [List.length_cons, List.length_nil]
      omega
theorem takeL_len (L : List (List UInt8)) {t : Tm} (h : t.good) : (takeL L t).length ≤ L.length + t.enc.length := by
  have h1 := foldIns_len (takeT t) L
  have h2 := takeT_len t h
  unfold takeL
  omega
theorem foldTake_len : ∀ (l : List Tm) (L : List (List UInt8)), (∀ t ∈ l, t.good) → (l.foldl takeL L).length ≤ L.length + (encs l).length
  | [], _, _ => by simp [encs]
  | t :: l, L, h => by
    have h1 := foldTake_len l (takeL L t) fun u hu => h u (List.mem_cons.2 (.inr hu))
    have h2 := takeL_len L (h t (List.mem_cons.2 (.inl rfl)))
    rw [List.foldl_cons, encs, List.length_append]
    omega
theorem encs_take10 (l : List Tm) (k : Nat) : (encs (l.take k)).length ≤ (encs l).length := by
  have h : encs l = encs (l.take k) ++ encs (l.drop k) := by
    rw [encs_flat, encs_flat, encs_flat, ← List.flatten_append, ← List.map_append, List.take_append_drop]
  rw [h, List.length_append]
  omega
theorem take_step {l : List Tm} {k : Nat} (hk : k < l.length) (L : List (List UInt8)) : (l.take (k + 1)).foldl takeL L = takeL ((l.take k).foldl takeL L) l[k] := by
  rw [List.take_succ_eq_append_getElem hk, List.foldl_append]
  rfl

/-- Block q is somebody whose row the call owns. -/
def OQ (w : World) (B q : Nat) (v : Value) (L : List ByteArray) : Prop := w.heap[q]? = some (.cells #[v] 34 (0, 0)) ∧ OwnT w B v L ∧ B ≤ q ∧ B ≤ w.heap.size
theorem OQ.rk {w : World} {B q : Nat} {v : Value} {L : List ByteArray} (h : OQ w B q v L) (hl : L.length ≤ 1000000000) : RK w q L := by
  obtain ⟨ao, cap, rfl, hr⟩ := ownT_row h.2.1
  exact ⟨ao, cap, h.1, hr, hl⟩
theorem OQ.below {w w' : World} {B q : Nat} {v : Value} {L : List ByteArray} (h : OQ w B q v L) (hb : Below w.heap.size w w') : OQ w' B q v L :=
  ⟨(hb.block q (Array.getElem?_eq_some_iff.1 h.1).1).trans h.1, ownT_below h.2.1 hb, h.2.2.1, Nat.le_trans h.2.2.2 hb.size⟩
/-- An elder row, and how it stands to the one that grows. -/
def OldR (w : World) (v : Value) (n : Nat) (ao : Option Addr) (l0 : List ByteArray) : Prop := TxtRow w ao l0 ∧ OldV v n ao l0
theorem OldR.below {w w' : World} {v : Value} {n : Nat} {ao : Option Addr} {l0 : List ByteArray} (h : OldR w v n ao l0) (hb : Below w.heap.size w w') : OldR w' v n ao l0 := ⟨h.1.below hb, h.2⟩
theorem own_lt {w : World} {B b : Nat} {v : Value} {L : List ByteArray} (h : OwnT w B v L) (hb : v.ownBlock = some b) : b < w.heap.size := by
  rcases h.2 with ⟨rfl, _⟩ | ⟨g, cap, cur, rfl, _, hg, _⟩
  · cases hb
  · obtain rfl : g = b := Option.some.inj hb
    exact (Array.getElem?_eq_some_iff.1 hg).1
theorem own_low {w : World} {B b : Nat} {v : Value} {L : List ByteArray} (h : OwnT w B v L) (hb : v.ownBlock = some b) : B ≤ b := by
  rcases h.2 with ⟨rfl, _⟩ | ⟨g, cap, cur, rfl, hbg, hg, _⟩
  · cases hb
  · obtain rfl : g = b := Option.some.inj hb
    exact hbg
theorem own_ne {w : World} {B q : Nat} {v u : Value} {L : List ByteArray} (h : OwnT w B v L) (hq : w.heap[q]? = some (.cells #[u] 34 (0, 0))) : v.ownBlock ≠ some q := by
  intro hb
  rcases h.2 with ⟨rfl, _⟩ | ⟨g, cap, cur, rfl, _, hg, _⟩
  · cases hb
  · obtain rfl : g = q := Option.some.inj hb
    rw [hq] at hg
    cases hg
theorem txt_ne {w : World} {q b off : Nat} {a : Option Addr} {n c : Nat} {l0 : List ByteArray} (h : TxtRow w (some ⟨b, off, none⟩) l0) (h0 : l0 ≠ []) (hq : w.heap[q]? = some (.cells #[.slice a n c] 34 (0, 0))) : b ≠ q := by
  rintro rfl
  rcases h with h | ⟨b2, off2, e, _, hc⟩
  · exact h0 h
  · cases e
    have := hc 0 (List.length_pos_iff.2 h0)
    rw [Nat.add_zero] at this
    unfold World.cell? at this
    simp only [hq] at this
    cases off with
    | zero => simp at this
    | succ k => simp at this
/-- A fresh row stands beside the one that grows. -/
theorem old_fresh {w w' : World} {B : Nat} {v u : Value} {L P : List ByteArray} (h : OwnT w B v L) (hu : OwnT w' w.heap.size u P) : ∃ ao cap, u = .slice ao P.length cap ∧ OldR w' v L.length ao P := by
  obtain ⟨ao, cap, rfl, hr, hb⟩ := ownT_row2 hu
  exact ⟨ao, cap, rfl, hr, fun b off e _ hv => by
    have h1 := own_lt h hv
    have h2 := hb b off e
    omega⟩
/-- The store of the longer row. -/
theorem oq_store {W1 w' : World} {B q : Nat} {v v' : Value} {L : List ByteArray} {y : ByteArray} (h : OQ W1 B q v L) (hown : OwnT w' B v' (L ++ [y])) (hgrow : (W1.alloc (.cells #[.string y] 9)).grownBy w' v.ownBlock)
    (hloc : (v'.ownBlock = v.ownBlock ∧ v.ownBlock ≠ none) ∨ (v'.ownBlock = some (W1.heap.size + 1) ∧ (W1.alloc (.cells #[.string y] 9)).grownBy w' none)) :
    w'.heap[q]? = some (.cells #[v] 34 (0, 0)) ∧ OQ (w'.setCell ⟨q, 0, none⟩ v') B q v' (L ++ [y]) ∧ Below B W1 (w'.setCell ⟨q, 0, none⟩ v') ∧ ∀ ao l0, OldR W1 v L.length ao l0 → OldR (w'.setCell ⟨q, 0, none⟩ v') v' (L ++ [y]).length ao l0 := by
  obtain ⟨hq, hrow, hBq, hBs⟩ := h
  have hlt := (Array.getElem?_eq_some_iff.1 hq).1
  have h1 : w'.heap[q]? = some (.cells #[v] 34 (0, 0)) := (hgrow.block q (by simp; omega) (fun e => own_ne hrow hq e.symm)).trans ((Below.heap_alloc W1 _ q hlt).trans hq)
  have hlt' := (Array.getElem?_eq_some_iff.1 h1).1
  have hv1 : v'.ownBlock ≠ some q := own_ne hown h1
  have hb1 : Below B W1 w' := ((Below.refl B W1).alloc hBs _).grown hgrow (by simp; omega) (fun j hj => own_low hrow hj)
  have hset : (w'.setCell ⟨q, 0, none⟩ v').heap[q]? = some (.cells #[v'] 34 (0, 0)) := by
    exact (show Boxed w' q 34 v from h1).set v'
  have hsz := hb1.size
  refine ⟨h1, ⟨hset, hown.kept (grownBy_setCell' w' q v') (.inr hv1), hBq, by simp; omega⟩, hb1.setCell (p := ⟨q, 0, none⟩) hBq _, fun ao l0 ho => ?_⟩
  obtain ⟨k1, k2⟩ := app10_old hrow hown hgrow hloc ho.1 ho.2
  refine ⟨?_, k2⟩
  by_cases h0 : l0 = []
  · exact .inl h0
  · refine k1.grown (grownBy_setCell' w' q v') fun b off e hb => ?_
    obtain ⟨a0, c0, rfl, _⟩ := ownT_row hrow
    subst e
    exact txt_ne k1 h0 h1 (Option.some.inj hb).symm
end Go.Proofs.YtkebfabmcajbmaaGreat.Pl
