/- The state of a learning that is under way: its boxes, the map, the row of what is new. -/
import Derived.Test.YtkebfabmcajbmaaKnowCan
import Derived.Test.YtkebfabmcajbmaaKnowD3
import Derived.RangeFuncBox
namespace Go.Proofs.Ytkebfabmcajbmaa.Pl
open Go.RowKit

theorem drew10 (w : World) : Below w.heap.size w w.drew := (Below.refl _ _).drew
/-- An elder row, and how it stands to the one that grows. -/
def OldS (w : World) (v : Value) (n : Nat) (ao : Option Addr) (l0 : List ByteArray) : Prop := TxtRow w ao l0 ∧ OldV v n ao l0
theorem OldS.below {w w' : World} {v : Value} {n : Nat} {ao : Option Addr} {l0 : List ByteArray} (h : OldS w v n ao l0) (hb : Below w.heap.size w w') : OldS w' v n ao l0 := ⟨h.1.below hb, h.2⟩
theorem own_lt10 {w : World} {B b : Nat} {v : Value} {L : List ByteArray} (h : OwnT w B v L) (hb : v.ownBlock = some b) : b < w.heap.size := by
  rcases h.2 with ⟨rfl, _⟩ | ⟨g, cap, cur, rfl, _, hg, _⟩
  · cases hb
  · obtain rfl : g = b := Option.some.inj hb
    exact (Array.getElem?_eq_some_iff.1 hg).1
theorem own_lowB10 {w : World} {B b : Nat} {v : Value} {L : List ByteArray} (h : OwnT w B v L) (hb : v.ownBlock = some b) : B ≤ b := by
  rcases h.2 with ⟨rfl, _⟩ | ⟨g, cap, cur, rfl, hbg, hg, _⟩
  · cases hb
  · obtain rfl : g = b := Option.some.inj hb
    exact hbg
/-- The row lies in no block of another kind. -/
theorem own_ne10 {w : World} {B q : Nat} {v : Value} {L : List ByteArray} (h : OwnT w B v L) (hq : ∀ cur, w.heap[q]? ≠ some (.cells cur 9 (0, 0))) : v.ownBlock ≠ some q := by
  intro hb
  rcases h.2 with ⟨rfl, _⟩ | ⟨g, cap, cur, rfl, _, hg, _⟩
  · cases hb
  · obtain rfl : g = q := Option.some.inj hb
    exact hq _ hg
theorem txt_ne10 {w : World} {q b off : Nat} {a : Option Addr} {n c : Nat} {ty : TypeId} {l0 : List ByteArray} (h : TxtRow w (some ⟨b, off, none⟩) l0) (h0 : l0 ≠ []) (hq : w.heap[q]? = some (.cells #[.slice a n c] ty (0, 0))) : b ≠ q := by
  rintro rfl
  rcases h with h | ⟨b2, off2, e, _, hc⟩
  · exact h0 h
  · cases e
    have := hc 0 (List.length_pos_iff.2 h0)
    rw [Nat.add_zero] at this
    unfold World.cell? at this
    simp only [hq] at this
    cases off with
    | zero => simp at this
    | succ k => simp at this
theorem txt_nm10 {w : World} {m b off : Nat} {l0 : List ByteArray} {es : Array MapEntry} {clock : Nat} (h : TxtRow w (some ⟨b, off, none⟩) l0) (h0 : l0 ≠ []) (hq : w.heap[m]? = some (.map es clock)) : b ≠ m := by
  rintro rfl
  rcases h with h | ⟨b2, off2, e, _, hc⟩
  · exact h0 h
  · cases e
    have := hc 0 (List.length_pos_iff.2 h0)
    unfold World.cell? at this
    simp only [hq] at this
    cases this
theorem txt_map10 {w w' : World} {m : Nat} {ao : Option Addr} {l0 : List ByteArray} {X : List (List UInt8)} (h : TxtRow w ao l0) (hk : MapK w m X) (ht : w.mapTurned w' m) : TxtRow w' ao l0 := by
  obtain ⟨es, clock, hm⟩ := hk.ex
  by_cases h0 : l0 = []
  · exact .inl h0
  · refine h.grown ht.grown fun b off e hb => ?_
    subst e
    exact txt_nm10 h h0 hm (Option.some.inj hb).symm
/-- A fresh row stands beside the one that grows. -/
theorem old_new10 {w w' : World} {B : Nat} {v u : Value} {L P : List ByteArray} (h : OwnT w B v L) (hu : OwnT w' w.heap.size u P) : ∃ ao cap, u = .slice ao P.length cap ∧ OldS w' v L.length ao P := by
  obtain ⟨ao, cap, rfl, hr, hb⟩ := ownT_row2 hu
  exact ⟨ao, cap, rfl, hr, fun b off e _ hv => by
    have h1 := own_lt10 h hv
    have h2 := hb b off e
    omega⟩
abbrev ptr10 (b : Nat) : Value := .pointer (some ⟨b, 0, none⟩)
/-- The state: kb, fb, lb, tb: the boxes of k, fresh, list, take; p: somebody, m: the map, of X; fr: what is new. -/
structure St10 (w : World) (B kb fb lb tb p m : Nat) (X : List (List UInt8)) (v : Value) (fr : List ByteArray) : Prop where
  kp : KP w p m X
  ck : w.heap[kb]? = some (.cells #[ptr10 p] 25 (0, 0))
  cf : w.heap[fb]? = some (.cells #[v] 22 (0, 0))
  cl : w.heap[lb]? = some (.cells #[.func (.func 39) #[] #[ptr10 kb, ptr10 fb]] 65 (0, 0))
  ct : w.heap[tb]? = some (.cells #[.func (.func 40) #[] #[ptr10 tb, ptr10 lb]] 66 (0, 0))
  own : OwnT w B v fr
  low : B ≤ fb
  size : B ≤ w.heap.size
theorem St10.below {w w' : World} {B kb fb lb tb p m : Nat} {X : List (List UInt8)} {v : Value} {fr : List ByteArray} (h : St10 w B kb fb lb tb p m X v fr) (hb : Below w.heap.size w w') : St10 w' B kb fb lb tb p m X v fr :=
  have k : ∀ {b : Nat} {o : Obj}, w.heap[b]? = some o → w'.heap[b]? = some o := fun e => (hb.block _ (Array.getElem?_eq_some_iff.1 e).1).trans e
  ⟨h.kp.below hb, k h.ck, k h.cf, k h.cl, k h.ct, ownT_below h.own hb, h.low, Nat.le_trans h.size hb.size⟩
/-- What a call that lists something leaves. -/
structure Leaves10 (w : World) (B m : Nat) (v : Value) (n : Nat) (w' : World) (v' : Value) (n' : Nat) : Prop where
  turn : Turn (fun b => b = m ∨ B ≤ b) w w'
  old : ∀ ao l0, OldS w v n ao l0 → OldS w' v' n' ao l0
theorem Leaves10.refl {w w' : World} {B m n : Nat} {v : Value} (h : Below w.heap.size w w') : Leaves10 w B m v n w' v n := ⟨turn_below h, fun _ _ ho => ho.below h⟩
theorem Leaves10.trans {w w1 w2 : World} {B m n n1 n2 : Nat} {v v1 v2 : Value} (h : Leaves10 w B m v n w1 v1 n1) (k : Leaves10 w1 B m v1 n1 w2 v2 n2) : Leaves10 w B m v n w2 v2 n2 :=
  ⟨turn_trans h.turn k.turn fun _ hb => .inl hb, fun ao l0 ho => k.old ao l0 (h.old ao l0 ho)⟩
def Told10 (w : World) (B kb fb lb tb p m : Nat) (X0 : List (List UInt8)) (v : Value) (fr : List ByteArray) (R : List (List UInt8)) (e : Ending) (w' : World) : Prop :=
  (∃ u, e = .returned u) ∧ ∃ (v' : Value) (fr' : List ByteArray), St10 w' B kb fb lb tb p m (X0 ++ fr'.map bl) v' fr' ∧ X0 ++ fr'.map bl = R ∧ fr <+: fr' ∧ Leaves10 w B m v fr.length w' v' fr'.length
theorem told10_same {w w' : World} {B kb fb lb tb p m : Nat} {X0 : List (List UInt8)} {v : Value} {fr : List ByteArray} {R : List (List UInt8)} (h : St10 w B kb fb lb tb p m (X0 ++ fr.map bl) v fr) (hb : Below w.heap.size w w') (hR : X0 ++ fr.map bl = R) (u : Value) : Told10 w B kb fb lb tb p m X0 v fr R (.returned u) w' :=
  ⟨⟨u, rfl⟩, v, fr, h.below hb, hR, List.prefix_refl _, .refl hb⟩
/-- The map turns: the boxes stay. -/
theorem St10.put {w w' : World} {B kb fb lb tb p m : Nat} {X X' : List (List UInt8)} {v : Value} {fr : List ByteArray} (h : St10 w B kb fb lb tb p m X v fr) (hk : MapK w' m X') (ht : w.mapTurned w' m) :
    St10 w' B kb fb lb tb p m X' v fr ∧ Leaves10 w B m v fr.length w' v fr.length ∧ ∀ {b : Nat} {c : Array Value} {t : TypeId} {f : Nat × Nat}, w.heap[b]? = some (.cells c t f) → w'.heap[b]? = some (.cells c t f) := by
  obtain ⟨es, clock, hm⟩ := h.kp.2.ex
  have k : ∀ {b : Nat} {c : Array Value} {t : TypeId} {f : Nat × Nat}, w.heap[b]? = some (.cells c t f) → w'.heap[b]? = some (.cells c t f) := fun {b c t f} e => (ht.grown.block b (Array.getElem?_eq_some_iff.1 e).1 (fun x => by
    have := Option.some.inj x
    subst this
    rw [hm] at e
    cases e)).trans e
  have hne : v.ownBlock ≠ some m := own_ne10 h.own (fun cur e => by rw [hm] at e; cases e)
  refine ⟨⟨⟨k h.kp.1, hk⟩, k h.ck, k h.cf, k h.cl, k h.ct, World.ownsRow.kept h.own ht.grown (.inr hne), h.low, Nat.le_trans h.size ht.grown.size⟩, ⟨turned_turn ht (.inl rfl), fun ao l0 ho => ⟨txt_map10 ho.1 h.kp.2 ht, ho.2⟩⟩, k⟩
/-- The store of the longer row. -/
theorem St10.push {W w' : World} {B kb fb lb tb p m : Nat} {X : List (List UInt8)} {v v' : Value} {fr : List ByteArray} {y : ByteArray} (h : St10 W B kb fb lb tb p m X v fr) (hown : OwnT w' B v' (fr ++ [y])) (hgrow : (W.alloc (.cells #[.string y] 9)).grownBy w' v.ownBlock)
    (hloc : (v'.ownBlock = v.ownBlock ∧ v.ownBlock ≠ none) ∨ (v'.ownBlock = some (W.heap.size + 1) ∧ (W.alloc (.cells #[.string y] 9)).grownBy w' none)) :
    w'.heap[fb]? = some (.cells #[v] 22 (0, 0)) ∧ St10 (w'.setCell ⟨fb, 0, none⟩ v') B kb fb lb tb p m X v' (fr ++ [y]) ∧ Leaves10 W B m v fr.length (w'.setCell ⟨fb, 0, none⟩ v') v' (fr ++ [y]).length := by
  have k : ∀ {b : Nat} {o : Obj}, W.heap[b]? = some o → (∀ cur, o ≠ .cells cur 9 (0, 0)) → w'.heap[b]? = some o := fun {b o} e hne => by
    have hlt := (Array.getElem?_eq_some_iff.1 e).1
    exact (hgrow.block b (by simp; omega) (fun x => own_ne10 h.own (fun cur e2 => by rw [e] at e2; exact hne cur (Option.some.inj e2)) x.symm)).trans ((Below.heap_alloc W _ b hlt).trans e)
  have hf := k h.cf (fun cur e => by injection e with _ e; exact absurd e (by decide))
  have hlt' := (Array.getElem?_eq_some_iff.1 hf).1
  have hv1 : v'.ownBlock ≠ some fb := own_ne10 hown (fun cur e => by rw [hf] at e; injection e with e; injection e with _ e; exact absurd e (by decide))
  have hb1 : Below B W w' := ((Below.refl B W).alloc h.size _).grown hgrow (by simp; have := h.size; omega) (fun j hj => own_lowB10 h.own hj)
  have hset : (w'.setCell ⟨fb, 0, none⟩ v').heap[fb]? = some (.cells #[v'] 22 (0, 0)) := (show Boxed w' fb 22 v from hf).set v'
  have s : ∀ {b : Nat} {o : Obj}, w'.heap[b]? = some o → b ≠ fb → (w'.setCell ⟨fb, 0, none⟩ v').heap[b]? = some o := fun {b o} e hne => by rw [Below.heap_setCell _ _ _ _ hne]; exact e
  have ne : ∀ {b : Nat} {o : Obj}, W.heap[b]? = some o → (∀ u, o ≠ .cells #[u] 22 (0, 0)) → b ≠ fb := fun {b o} e hne x => by
    rw [x, h.cf] at e
    exact hne v (Option.some.inj e).symm
  have ks : ∀ {b : Nat} {o : Obj}, W.heap[b]? = some o → (∀ cur, o ≠ .cells cur 9 (0, 0)) → (∀ u, o ≠ .cells #[u] 22 (0, 0)) → (w'.setCell ⟨fb, 0, none⟩ v').heap[b]? = some o := fun e h1 h2 => s (k e h1) (ne e h2)
  obtain ⟨es, clock, hm⟩ := h.kp.2.ex
  have hB := hb1.setCell (p := ⟨fb, 0, none⟩) h.low v'
  refine ⟨hf, ⟨⟨ks h.kp.1 (fun cur e => by injection e with _ e; exact absurd e (by decide)) (fun u e => by injection e with _ e; exact absurd e (by decide)), h.kp.2.of_block ((ks hm (fun cur e => by cases e) (fun u e => by cases e)).trans hm.symm)⟩,
    ks h.ck (fun cur e => by injection e with _ e; exact absurd e (by decide)) (fun u e => by injection e with _ e; exact absurd e (by decide)), hset,
    ks h.cl (fun cur e => by injection e with _ e; exact absurd e (by decide)) (fun u e => by injection e with _ e; exact absurd e (by decide)),
    ks h.ct (fun cur e => by injection e with _ e; exact absurd e (by decide)) (fun u e => by injection e with _ e; exact absurd e (by decide)),
    hown.kept (grownBy_setCell' w' fb v') (.inr hv1), h.low, Nat.le_trans h.size hB.size⟩, ⟨⟨hB.os, hB.tape, hB.output, hB.size, fun b hb hn => hB.block b (by
      have := fun e => hn (.inr e)
      omega)⟩, fun ao l0 ho => ?_⟩⟩
  obtain ⟨k1, k2⟩ := app10_old h.own hown hgrow hloc ho.1 ho.2
  refine ⟨?_, k2⟩
  by_cases h0 : l0 = []
  · exact .inl h0
  · refine k1.grown (grownBy_setCell' w' fb v') fun b off e hb => ?_
    obtain ⟨a0, c0, rfl, _⟩ := ownT_row h.own
    subst e
    exact txt_ne10 k1 h0 hf (Option.some.inj hb).symm
/-- The row is stored into its box anew: nothing is otherwise. -/
theorem St10.again {w : World} {B kb fb lb tb p m : Nat} {X : List (List UInt8)} {v : Value} {fr : List ByteArray} (h : St10 w B kb fb lb tb p m X v fr) :
    St10 (w.setCell ⟨fb, 0, none⟩ v) B kb fb lb tb p m X v fr ∧ Below B w (w.setCell ⟨fb, 0, none⟩ v) := by
  have hset : (w.setCell ⟨fb, 0, none⟩ v).heap[fb]? = some (.cells #[v] 22 (0, 0)) := (show Boxed w fb 22 v from h.cf).set v
  have s : ∀ {b : Nat} {o : Obj}, w.heap[b]? = some o → (w.setCell ⟨fb, 0, none⟩ v).heap[b]? = some o := fun {b o} e => by
    by_cases hb : b = fb
    · subst hb
      rw [h.cf] at e
      rw [hset, e]
    · rw [Below.heap_setCell _ _ _ _ hb]; exact e
  have hv : v.ownBlock ≠ some fb := own_ne10 h.own (fun cur e => by rw [h.cf] at e; injection e with e; injection e with _ e; exact absurd e (by decide))
  obtain ⟨es, clock, hm⟩ := h.kp.2.ex
  exact ⟨⟨⟨s h.kp.1, h.kp.2.of_block ((s hm).trans hm.symm)⟩, s h.ck, hset, s h.cl, s h.ct, h.own.kept (grownBy_setCell' w fb v) (.inr hv), h.low, by simp; exact h.size⟩, (Below.refl B w).setCell (p := ⟨fb, 0, none⟩) h.low v⟩
end Go.Proofs.Ytkebfabmcajbmaa.Pl
