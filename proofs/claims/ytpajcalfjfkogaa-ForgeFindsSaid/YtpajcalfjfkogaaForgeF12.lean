/- The state of a learning that is under way: its boxes, the map, the row of what is new. What the program's own know does of one that is to be listed: observe's first closure. Whether one of those that are new matters to a seal: opened's closure, and slices.ContainsFunc over it. What may be opened since something new is listed: the program's own opened. The program's own List and Len: what is listed, in order. What the document's step of layer 11 answers, where the fields may be: parts, nonces, what is sealed. What the document's Terms of layer 11 answers. What the document's Run of layer 11 answers; the law's heavy. The statement ForgeRuns, walked over what the program's Run and Terms are to answer. The statement ForgeMore, walked over what the program's Terms is to answer. -/
import Derived.Test.YtpajcalfjfkogaaForgeF11
import Derived.Test.YtpajcalfjfkogaaForgeF3
import Derived.RangeFuncBox
import Derived.Test.YtpajcalfjfkogaaShelf
import Derived.Test.YtpajcalfjfkogaaForgeF1
import Derived.Test.YtpajcalfjfkogaaForgeF2
import Derived.Sort.OwnSorted
import Derived.Test.YtpajcalfjfkogaaForgeF10
import Derived.Test.YtpajcalfjfkogaaForgeF4
namespace Go.Proofs.Ytpajcalfjfkogaa.Pl
open Go.RowKit

theorem drew10 (w : World) : Below w.heap.size w w.drew := (Below.refl _ _).drew
/-- An elder row, and how it stands to the one that grows. -/
def OldS (w : World) (v : Value) (n : Nat) (ao : Option Addr) (l0 : List ByteArray) : Prop := TxtRow w ao l0 ∧ OldV v n ao l0
theorem OldS.below {w w' : World} {v : Value} {n : Nat} {ao : Option Addr} {l0 : List ByteArray} (h : OldS w v n ao l0) (hb : Below w.heap.size w w') : OldS w' v n ao l0 := ⟨h.1.below hb, h.2⟩
theorem own_lt10 {w : World} {B b : Nat} {v : Value} {L : List ByteArray} (h : OwnT w B v L) (hb : v.ownBlock = some b) : b < w.heap.size := by
  rcases h.2 with ⟨rfl, _⟩ | ⟨g, cap, cur, rfl, _, hg, _⟩
  · cases hb
  · obtain rfl : g = b := Option.some.inj hb
    exact (Array.getElem?_eq_some_iff.1 hg).1
theorem own_lowB10 {w : World} {B b : Nat} {v : Value} {L : List ByteArray} (h : OwnT w B v L) (hb : v.ownBlock = some b) : B ≤ b := by
  rcases h.2 with ⟨rfl, _⟩ | ⟨g, cap, cur, rfl, hbg, hg, _⟩
  · cases hb
  · obtain rfl : g = b := Option.some.inj hb
    exact hbg
/-- The row lies in no block of another kind. -/
theorem own_ne10 {w : World} {B q : Nat} {v : Value} {L : List ByteArray} (h : OwnT w B v L) (hq : ∀ cur, w.heap[q]? ≠ some (.cells cur 9 (0, 0))) : v.ownBlock ≠ some q := by
  intro hb
  rcases h.2 with ⟨rfl, _⟩ | ⟨g, cap, cur, rfl, _, hg, _⟩
  · cases hb
  · obtain rfl : g = q := Option.some.inj hb
    exact hq _ hg
theorem txt_ne10 {w : World} {q b off : Nat} {a : Option Addr} {n c : Nat} {ty : TypeId} {l0 : List ByteArray} (h : TxtRow w (some ⟨b, off, none⟩) l0) (h0 : l0 ≠ []) (hq : w.heap[q]? = some (.cells #[.slice a n c] ty (0, 0))) : b ≠ q := by
  rintro rfl
  rcases h with h | ⟨b2, off2, e, _, hc⟩
  · exact h0 h
  · cases e
    have := hc 0 (List.length_pos_iff.2 h0)
    rw [Nat.add_zero] at this
    unfold World.cell? at this
    simp only [hq] at this
    cases off with
    | zero => simp at this
    | succ k => simp at this
theorem txt_nm10 {w : World} {m b off : Nat} {l0 : List ByteArray} {es : Array MapEntry} {clock : Nat} (h : TxtRow w (some ⟨b, off, none⟩) l0) (h0 : l0 ≠ []) (hq : w.heap[m]? = some (.map es clock)) : b ≠ m := by
  rintro rfl
  rcases h with h | ⟨b2, off2, e, _, hc⟩
  · exact h0 h
  · cases e
    have := hc 0 (List.length_pos_iff.2 h0)
    unfold World.cell? at this
    simp only [hq] at this
    cases this
theorem txt_map10 {w w' : World} {m : Nat} {ao : Option Addr} {l0 : List ByteArray} {X : List (List UInt8)} (h : TxtRow w ao l0) (hk : MapK w m X) (ht : w.mapTurned w' m) : TxtRow w' ao l0 := by
  obtain ⟨es, clock, hm⟩ := hk.ex
  by_cases h0 : l0 = []
  · exact .inl h0
  · refine h.grown ht.grown fun b off e hb => ?_
    subst e
    exact txt_nm10 h h0 hm (Option.some.inj hb).symm
/-- A fresh row stands beside the one that grows. -/
theorem old_new10 {w w' : World} {B : Nat} {v u : Value} {L P : List ByteArray} (h : OwnT w B v L) (hu : OwnT w' w.heap.size u P) : ∃ ao cap, u = .slice ao P.length cap ∧ OldS w' v L.length ao P := by
  obtain ⟨ao, cap, rfl, hr, hb⟩ := ownT_row2 hu
  exact ⟨ao, cap, rfl, hr, fun b off e _ hv => by
    have h1 := own_lt10 h hv
    have h2 := hb b off e
    omega⟩
abbrev ptr10 (b : Nat) : Value := .pointer (some ⟨b, 0, none⟩)
/-- The state: kb, fb, lb, tb: the boxes of k, fresh, list, take; p: somebody, m: the map, of X; fr: what is new. -/
structure St10 (w : World) (B kb fb lb tb p m : Nat) (X : List (List UInt8)) (v : Value) (fr : List ByteArray) : Prop where
  kp : KP w p m X
  ck : w.heap[kb]? = some (.cells #[ptr10 p] 37 (0, 0))
  cf : w.heap[fb]? = some (.cells #[v] 22 (0, 0))
  cl : w.heap[lb]? = some (.cells #[.func (.func 78) #[] #[ptr10 kb, ptr10 fb]] 114 (0, 0))
  ct : w.heap[tb]? = some (.cells #[.func (.func 79) #[] #[ptr10 tb, ptr10 lb]] 115 (0, 0))
  own : OwnT w B v fr
  low : B ≤ fb
  size : B ≤ w.heap.size
theorem St10.below {w w' : World} {B kb fb lb tb p m : Nat} {X : List (List UInt8)} {v : Value} {fr : List ByteArray} (h : St10 w B kb fb lb tb p m X v fr) (hb : Below w.heap.size w w') : St10 w' B kb fb lb tb p m X v fr :=
  have k : ∀ {b : Nat} {o : Obj}, w.heap[b]? = some o → w'.heap[b]? = some o := fun e => (hb.block _ (Array.getElem?_eq_some_iff.1 e).1).trans e
  ⟨h.kp.below hb, k h.ck, k h.cf, k h.cl, k h.ct, ownT_below h.own hb, h.low, Nat.le_trans h.size hb.size⟩
/-- What a call that lists something leaves. -/
structure Leaves10 (w : World) (B m : Nat) (v : Value) (n : Nat) (w' : World) (v' : Value) (n' : Nat) : Prop where
  turn : Turn (fun b => b = m ∨ B ≤ b) w w'
  old : ∀ ao l0, OldS w v n ao l0 → OldS w' v' n' ao l0
theorem Leaves10.refl {w w' : World} {B m n : Nat} {v : Value} (h : Below w.heap.size w w') : Leaves10 w B m v n w' v n := ⟨turn_below h, fun _ _ ho => ho.below h⟩
theorem Leaves10.trans {w w1 w2 : World} {B m n n1 n2 : Nat} {v v1 v2 : Value} (h : Leaves10 w B m v n w1 v1 n1) (k : Leaves10 w1 B m v1 n1 w2 v2 n2) : Leaves10 w B m v n w2 v2 n2 :=
  ⟨turn_trans h.turn k.turn fun _ hb => .inl hb, fun ao l0 ho => k.old ao l0 (h.old ao l0 ho)⟩
def Told10 (w : World) (B kb fb lb tb p m : Nat) (X0 : List (List UInt8)) (v : Value) (fr : List ByteArray) (R : List (List UInt8)) (e : Ending) (w' : World) : Prop :=
  (∃ u, e = .returned u) ∧ ∃ (v' : Value) (fr' : List ByteArray), St10 w' B kb fb lb tb p m (X0 ++ fr'.map bl) v' fr' ∧ X0 ++ fr'.map bl = R ∧ fr <+: fr' ∧ Leaves10 w B m v fr.length w' v' fr'.length
theorem told10_same {w w' : World} {B kb fb lb tb p m : Nat} {X0 : List (List UInt8)} {v : Value} {fr : List ByteArray} {R : List (List UInt8)} (h : St10 w B kb fb lb tb p m (X0 ++ fr.map bl) v fr) (hb : Below w.heap.size w w') (hR : X0 ++ fr.map bl = R) (u : Value) : Told10 w B kb fb lb tb p m X0 v fr R (.returned u) w' :=
  ⟨⟨u, rfl⟩, v, fr, h.below hb, hR, List.prefix_refl _, .refl hb⟩
/-- The map turns: the boxes stay. -/
theorem St10.put {w w' : World} {B kb fb lb tb p m : Nat} {X X' : List (List UInt8)} {v : Value} {fr : List ByteArray} (h : St10 w B kb fb lb tb p m X v fr) (hk : MapK w' m X') (ht : w.mapTurned w' m) :
    St10 w' B kb fb lb tb p m X' v fr ∧ Leaves10 w B m v fr.length w' v fr.length ∧ ∀ {b : Nat} {c : Array Value} {t : TypeId} {f : Nat × Nat}, w.heap[b]? = some (.cells c t f) → w'.heap[b]? = some (.cells c t f) := by
  obtain ⟨es, clock, hm⟩ := h.kp.2.ex
  have k : ∀ {b : Nat} {c : Array Value} {t : TypeId} {f : Nat × Nat}, w.heap[b]? = some (.cells c t f) → w'.heap[b]? = some (.cells c t f) := fun {b c t f} e => (ht.grown.block b (Array.getElem?_eq_some_iff.1 e).1 (fun x => by
    have := Option.some.inj x
    subst this
    rw [hm] at e
    cases e)).trans e
  have hne : v.ownBlock ≠ some m := own_ne10 h.own (fun cur e => by rw [hm] at e; cases e)
  refine ⟨⟨⟨k h.kp.1, hk⟩, k h.ck, k h.cf, k h.cl, k h.ct, World.ownsRow.kept h.own ht.grown (.inr hne), h.low, Nat.le_trans h.size ht.grown.size⟩, ⟨turned_turn ht (.inl rfl), fun ao l0 ho => ⟨txt_map10 ho.1 h.kp.2 ht, ho.2⟩⟩, k⟩
/-- The store of the longer row. -/
theorem St10.push {W w' : World} {B kb fb lb tb p m : Nat} {X : List (List UInt8)} {v v' : Value} {fr : List ByteArray} {y : ByteArray} (h : St10 W B kb fb lb tb p m X v fr) (hown : OwnT w' B v' (fr ++ [y])) (hgrow : (W.alloc (.cells #[.string y] 9)).grownBy w' v.ownBlock)
    (hloc : (v'.ownBlock = v.ownBlock ∧ v.ownBlock ≠ none) ∨ (v'.ownBlock = some (W.heap.size + 1) ∧ (W.alloc (.cells #[.string y] 9)).grownBy w' none)) :
    w'.heap[fb]? = some (.cells #[v] 22 (0, 0)) ∧ St10 (w'.setCell ⟨fb, 0, none⟩ v') B kb fb lb tb p m X v' (fr ++ [y]) ∧ Leaves10 W B m v fr.length (w'.setCell ⟨fb, 0, none⟩ v') v' (fr ++ [y]).length := by
  have k : ∀ {b : Nat} {o : Obj}, W.heap[b]? = some o → (∀ cur, o ≠ .cells cur 9 (0, 0)) → w'.heap[b]? = some o := fun {b o} e hne => by
    have hlt := (Array.getElem?_eq_some_iff.1 e).1
    exact (hgrow.block b (by simp; omega) (fun x => own_ne10 h.own (fun cur e2 => by rw [e] at e2; exact hne cur (Option.some.inj e2)) x.symm)).trans ((Below.heap_alloc W _ b hlt).trans e)
  have hf := k h.cf (fun cur e => by injection e with _ e; exact absurd e (by decide))
  have hlt' := (Array.getElem?_eq_some_iff.1 hf).1
  have hv1 : v'.ownBlock ≠ some fb := own_ne10 hown (fun cur e => by rw [hf] at e; injection e with e; injection e with _ e; exact absurd e (by decide))
  have hb1 : Below B W w' := ((Below.refl B W).alloc h.size _).grown hgrow (by simp; have := h.size; omega) (fun j hj => own_lowB10 h.own hj)
  have hset : (w'.setCell ⟨fb, 0, none⟩ v').heap[fb]? = some (.cells #[v'] 22 (0, 0)) := (show Boxed w' fb 22 v from hf).set v'
  have s : ∀ {b : Nat} {o : Obj}, w'.heap[b]? = some o → b ≠ fb → (w'.setCell ⟨fb, 0, none⟩ v').heap[b]? = some o := fun {b o} e hne => by rw [Below.heap_setCell _ _ _ _ hne]; exact e
  have ne : ∀ {b : Nat} {o : Obj}, W.heap[b]? = some o → (∀ u, o ≠ .cells #[u] 22 (0, 0)) → b ≠ fb := fun {b o} e hne x => by
    rw [x, h.cf] at e
    exact hne v (Option.some.inj e).symm
  have ks : ∀ {b : Nat} {o : Obj}, W.heap[b]? = some o → (∀ cur, o ≠ .cells cur 9 (0, 0)) → (∀ u, o ≠ .cells #[u] 22 (0, 0)) → (w'.setCell ⟨fb, 0, none⟩ v').heap[b]? = some o := fun e h1 h2 => s (k e h1) (ne e h2)
  obtain ⟨es, clock, hm⟩ := h.kp.2.ex
  have hB := hb1.setCell (p := ⟨fb, 0, none⟩) h.low v'
  refine ⟨hf, ⟨⟨ks h.kp.1 (fun cur e => by injection e with _ e; exact absurd e (by decide)) (fun u e => by injection e with _ e; exact absurd e (by decide)), h.kp.2.of_block ((ks hm (fun cur e => by cases e) (fun u e => by cases e)).trans hm.symm)⟩,
    ks h.ck (fun cur e => by injection e with _ e; exact absurd e (by decide)) (fun u e => by injection e with _ e; exact absurd e (by decide)), hset,
    ks h.cl (fun cur e => by injection e with _ e; exact absurd e (by decide)) (fun u e => by injection e with _ e; exact absurd e (by decide)),
    ks h.ct (fun cur e => by injection e with _ e; exact absurd e (by decide)) (fun u e => by injection e with _ e; exact absurd e (by decide)),
    hown.kept (grownBy_setCell' w' fb v') (.inr hv1), h.low, Nat.le_trans h.size hB.size⟩, ⟨⟨hB.os, hB.tape, hB.output, hB.size, fun b hb hn => hB.block b (by
      have := fun e => hn (.inr e)
      omega)⟩, fun ao l0 ho => ?_⟩⟩
  obtain ⟨k1, k2⟩ := app10_old h.own hown hgrow hloc ho.1 ho.2
  refine ⟨?_, k2⟩
  by_cases h0 : l0 = []
  · exact .inl h0
  · refine k1.grown (grownBy_setCell' w' fb v') fun b off e hb => ?_
    obtain ⟨a0, c0, rfl, _⟩ := ownT_row h.own
    subst e
    exact txt_ne10 k1 h0 hf (Option.some.inj hb).symm
/-- The row is stored into its box anew: nothing is otherwise. -/
theorem St10.again {w : World} {B kb fb lb tb p m : Nat} {X : List (List UInt8)} {v : Value} {fr : List ByteArray} (h : St10 w B kb fb lb tb p m X v fr) :
    St10 (w.setCell ⟨fb, 0, none⟩ v) B kb fb lb tb p m X v fr ∧ Below B w (w.setCell ⟨fb, 0, none⟩ v) := by
  have hset : (w.setCell ⟨fb, 0, none⟩ v).heap[fb]? = some (.cells #[v] 22 (0, 0)) := (show Boxed w fb 22 v from h.cf).set v
  have s : ∀ {b : Nat} {o : Obj}, w.heap[b]? = some o → (w.setCell ⟨fb, 0, none⟩ v).heap[b]? = some o := fun {b o} e => by
    by_cases hb : b = fb
    · subst hb
      rw [h.cf] at e
      rw [hset, e]
    · rw [Below.heap_setCell _ _ _ _ hb]; exact e
  have hv : v.ownBlock ≠ some fb := own_ne10 h.own (fun cur e => by rw [h.cf] at e; injection e with e; injection e with _ e; exact absurd e (by decide))
  obtain ⟨es, clock, hm⟩ := h.kp.2.ex
  exact ⟨⟨⟨s h.kp.1, h.kp.2.of_block ((s hm).trans hm.symm)⟩, s h.ck, hset, s h.cl, s h.ct, h.own.kept (grownBy_setCell' w fb v) (.inr hv), h.low, by simp; exact h.size⟩, (Below.refl B w).setCell (p := ⟨fb, 0, none⟩) h.low v⟩
end Go.Proofs.Ytpajcalfjfkogaa.Pl

namespace Go.Proofs.Ytpajcalfjfkogaa.Pl
open Go.RowKit

set_option maxHeartbeats 4000000 in
set_option maxRecDepth 100000 in
theorem listed10_any (x : ByteArray) (hx : x.size ≤ 281474976710656) (w : World) (B kb fb lb tb p m : Nat) (X0 : List (List UInt8)) (v : Value) (fr : List ByteArray) (h : St10 w B kb fb lb tb p m (X0 ++ fr.map bl) v fr) (hlen : (X0 ++ fr.map bl).length ≤ 1000000000) :
    Calls Try.prog 78 #[.string x, .agg #[.string (tb10 (lockP (bl x)).1), .string (tb10 (lockP (bl x)).2)], ptr10 kb, ptr10 fb] w (Told10 w B kb fb lb tb p m X0 v fr (insL (X0 ++ fr.map bl) (bl x))) := by
  have HZ := Lib.hid hx
  generalize hk1 : tb10 (lockP (bl x)).1 = k1
  generalize hk2 : tb10 (lockP (bl x)).2 = k2
  have BB := Lib.hid ((Below.refl w.heap.size w).alloc (Nat.le_refl _) (.cells #[.string k1, .string k2] 93))
  have HQ := Lib.hid h
  have HS := Lib.hid (h.below BB.out)
  have ck : (w.alloc (.cells #[.string k1, .string k2] 93)).cell? ⟨kb, 0, none⟩ = some (ptr10 p) := cell_of_row _ _ _ _ _ _ HS.out.ck
  have cp : (w.alloc (.cells #[.string k1, .string k2] 93)).cell? ⟨p, 0, none⟩ = some (.map (some m)) := HS.out.kp.cell
  by_cases hin : bl x ∈ X0 ++ fr.map bl
  · have HI : Hid (decide (bl x ∈ X0 ++ fr.map bl) = true) := Lib.hid (decide_eq_true hin)
    have HR : Hid (X0 ++ fr.map bl = insL (X0 ++ fr.map bl) (bl x)) := Lib.hid (by unfold insL; rw [if_pos hin])
    clear h hx hin hk1 hk2 hlen
    go_enter Try.func78, Try.ntmps78
    go_wp2_with (first | (at_lookup; refine wpList_look10 rfl _ _ rfl m (X0 ++ fr.map bl) x true rfl rfl HS.out.kp.2 HZ.out HI.out ?_; intro k y) | fail)
    go_end0
    exact told10_same HQ.out (((Below.refl w.heap.size w).alloc (Nat.le_refl _) _).alloc (by simp) _) HR.out _
  · have HI : Hid (decide (bl x ∈ X0 ++ fr.map bl) = false) := Lib.hid (decide_eq_false hin)
    have HR : Hid (X0 ++ (fr ++ [x]).map bl = insL (X0 ++ fr.map bl) (bl x)) := Lib.hid (by unfold insL; rw [if_neg hin, List.map_append, List.append_assoc]; rfl)
    have HIN := Lib.hid hin
    have HLEN := Lib.hid hlen
    have HKV : Hid (mkLock (tb10 (lockP (bl x)).1, tb10 (lockP (bl x)).2) = .agg #[.string k1, .string k2]) := Lib.hid (by rw [hk1, hk2])
    clear h hx hin hk1 hk2 hlen
    go_enter Try.func78, Try.ntmps78
    go_wp2_with (first | (at_lookup; refine wpList_look10 rfl _ _ rfl m (X0 ++ fr.map bl) x false rfl rfl HS.out.kp.2 HZ.out HI.out ?_; intro k y) | fail)
    obtain ⟨W2, hW2⟩ : ∃ W2, W2 = (w.alloc (.cells #[.string k1, .string k2] 93)).alloc (.cells #[.string k, .string y] 93) := ⟨_, rfl⟩
    have B2 : Hid (Below w.heap.size w W2) := Lib.hid (by rw [hW2]; exact ((Below.refl w.heap.size w).alloc (Nat.le_refl _) _).alloc (by simp) _)
    have S2 := Lib.hid ((HQ.out.below B2.out).below (drew10 W2))
    have cb : W2.heap[w.heap.size]? = some (.cells #[.string k1, .string k2] 93 (0, 0)) := by rw [hW2, Below.heap_alloc _ _ _ (by simp)]; exact Go.heap_alloc_new w _
    rw [← hW2]
    obtain ⟨w3, hrun, hm3, ht3⟩ := S2.out.kp.2.store HLEN.out x HZ.out HIN.out
    rw [HKV.out] at hrun
    obtain ⟨s3, l3, k3⟩ := S2.out.put hm3 ht3
    have cb3 := k3 (b := w.heap.size) (show W2.drew.heap[w.heap.size]? = _ from cb)
    have KS : W2.drew.cell? ⟨kb, 0, none⟩ = some (ptr10 p) ∧ W2.drew.cell? ⟨p, 0, none⟩ = some (.map (some m)) ∧ W2.drew.cell? ⟨w.heap.size, 0, none⟩ = some (.string k1) ∧ W2.drew.cell? ⟨w.heap.size, 1, none⟩ = some (.string k2) := ⟨cell_of_row _ _ _ _ _ _ S2.out.ck, S2.out.kp.cell, cell_of_row _ _ _ _ _ _ cb, cell_of_row _ _ _ _ _ _ cb⟩
    have KA : w3.cell? ⟨kb, 0, none⟩ = some (ptr10 p) ∧ w3.cell? ⟨p, 0, none⟩ = some (.map (some m)) ∧ w3.cell? ⟨w.heap.size, 0, none⟩ = some (.string k1) ∧ w3.cell? ⟨w.heap.size, 1, none⟩ = some (.string k2) := ⟨cell_of_row _ _ _ _ _ _ s3.ck, s3.kp.cell, cell_of_row _ _ _ _ _ _ cb3, cell_of_row _ _ _ _ _ _ cb3⟩
    have cf3 : w3.cell? ⟨fb, 0, none⟩ = some v := cell_of_row _ _ _ _ _ _ s3.cf
    have S3 := Lib.hid s3
    have L3 := Lib.hid ((Leaves10.refl B2.out).trans ((Leaves10.refl (drew10 W2)).trans l3))
    have HFL : Hid (fr.length ≤ 1000000000) := Lib.hid (by have := HLEN.out; rw [List.length_append, List.length_map] at this; omega)
    clear hm3 ht3 s3 l3 k3 cb cb3 ck cp HS BB hW2
    go_region_held3 (fun W => W.cell? ⟨kb, 0, none⟩ = some (ptr10 p) ∧ W.cell? ⟨p, 0, none⟩ = some (.map (some m)) ∧ W.cell? ⟨w.heap.size, 0, none⟩ = some (.string k1) ∧ W.cell? ⟨w.heap.size, 1, none⟩ = some (.string k2)) (first | assumption | exact KS | exact KA) (first | fail)
    clear hrun KS KA
    obtain ⟨a3, c3, rfl, _⟩ := ownT_row S3.out.own
    go_wp2_with (at_builtin; refine wpList_app10 rfl _ _ rfl rfl x rfl rfl S3.out.own S3.out.size HFL.out ?_; intro v' w4 hown hgrow hloc; obtain ⟨h1, h2, h3⟩ := S3.out.push hown hgrow hloc; obtain ⟨a4, c4, rfl, _⟩ := ownT_row hown; rw [List.length_append, List.length_singleton] at h2 h3; have cf4 : w4.cell? ⟨fb, 0, none⟩ = some (.slice a3 fr.length c3) := cell_of_row _ _ _ _ _ _ h1; have fq4 : w4.frozen? ⟨fb, 0, none⟩ = false := (show Boxed w4 fb 22 (.slice a3 fr.length c3) from h1).frozen; have S4 := Lib.hid h2; have L4 := Lib.hid (L3.out.trans h3); clear h1 h2 h3 hown hgrow hloc cf3)
    go_end0
    refine ⟨⟨_, rfl⟩, _, fr ++ [x], ?_, HR.out, List.prefix_append _ _, by rw [List.length_append, List.length_singleton]; exact L4.out⟩
    have e : X0 ++ (fr ++ [x]).map bl = X0 ++ fr.map bl ++ [bl x] := by rw [List.map_append, List.append_assoc]; rfl
    rw [e]
    exact S4.out
end Go.Proofs.Ytpajcalfjfkogaa.Pl

namespace Go.Proofs.Ytpajcalfjfkogaa.Pl
open Go.RowKit

/-- The library's own variable holds some number. -/
def MX (w : World) : Prop := ∃ m : Int, w.cell? ⟨0, 0, none⟩ = some (.int .i64 m)
theorem MX.pos {w : World} (h : MX w) : 0 < w.heap.size := by
  obtain ⟨m, hm⟩ := h
  unfold World.cell? at hm
  cases e : w.heap[0]? with
  | none => simp only [e] at hm; cases hm
  | some o => exact (Array.getElem?_eq_some_iff.1 e).1
theorem MX.below {B : Nat} {w w' : World} (h : MX w) (hb : Below B w w') (hB : 0 < B) : MX w' := by
  obtain ⟨m, hm⟩ := h
  exact ⟨m, (World.cell?_of_block (a := ⟨0, 0, none⟩) (hb.block _ hB)).trans hm⟩
theorem MX.step {w w' : World} (h : MX w) (hb : Below w.heap.size w w') : MX w' := h.below hb h.pos
/-- Is y that one, or does it stand in its key? -/
def matB (x key y : ByteArray) : Bool := decide (y = x) || Lib.contains key.data.toList y.data.toList
theorem matB_iff {x key y : ByteArray} : matB x key y = true ↔ y = x ∨ Lib.contains (bl key) (bl y) = true := by
  unfold matB
  rw [Bool.or_eq_true, decide_eq_true_iff]
  rfl
/-- What stands in a text is found. -/
theorem contains_in (y v : List UInt8) : ∀ u : List UInt8, Lib.contains (u ++ y ++ v) y = true
  | [] => by
    unfold Lib.contains
    rw [List.nil_append]
    cases e : y ++ v with
    | nil =>
      obtain ⟨rfl, rfl⟩ := List.append_eq_nil_iff.1 e
      rfl
    | cons b l =>
      have h : y.isPrefixOf (b :: l) = true := by
        rw [List.isPrefixOf_iff_prefix, ← e]
        exact List.prefix_append _ _
      unfold Lib.index
      rw [if_pos h]
      rfl
  | b :: u => by
    have ih := contains_in y v u
    unfold Lib.contains at ih ⊢
    have ih := of_decide_eq_true ih
    rw [List.cons_append, List.cons_append]
    unfold Lib.index
    split
    · rfl
    · rw [if_neg (by rw [beq_iff_eq]; omega)]
      exact decide_eq_true (by omega)
theorem str_ne10 {a b : ByteArray} (h : a ≠ b) : (a.toList == b.toList) = false ∧ (a.toList != b.toList) = true := by
  have h' : a.toList ≠ b.toList := fun e => h (by
    rw [Lib.toList_data, Lib.toList_data] at e
    exact bl_inj e)
  exact ⟨beq_eq_false_iff_ne.2 h', bne_iff_ne.2 h'⟩
set_option maxRecDepth 100000 in
theorem matters10_any (x key y : ByteArray) (hk : key.size ≤ 1000000) (xb lb : Nat) (w : World) (cx : w.cell? ⟨xb, 0, none⟩ = some (.string x)) (ck : w.cell? ⟨lb, 0, none⟩ = some (.string key)) (hM : MX w) :
    Calls Try.prog 98 #[.string y, ptr10 xb, ptr10 lb] w fun e w' => e = .returned (.bool (matB x key y)) ∧ w' = w := by
  by_cases h : y = x
  · subst h
    have HR : Hid (matB y key y = true) := Lib.hid (matB_iff.2 (.inl rfl))
    clear hM hk
    rw [HR.out]
    go_enter Try.func98, Try.ntmps98
    go_wp2_with fail
    go_ret
    exact ⟨rfl, rfl⟩
  · obtain ⟨m, hm⟩ := hM
    have HR : Hid (matB x key y = Lib.contains key.data.toList y.data.toList) := Lib.hid (by unfold matB; rw [decide_eq_false h, Bool.false_or])
    have HC := Lib.hid (Try.strings_Contains key y m w (by omega) hm)
    have e1 := (str_ne10 h).1
    clear hm hk
    rw [HR.out]
    go_enter Try.func98, Try.ntmps98
    go_wp2_with fail
    refine HC.out.mono ?_; rintro e w1 ⟨rfl, rfl⟩
    go_wp2_with fail
    go_ret
    exact ⟨rfl, rfl⟩
/-- Is there one among them that matters? -/
theorem anymat10_any (x key : ByteArray) (hk : key.size ≤ 1000000) (F : List ByteArray) (ao : Option Addr) (cap xb lb : Nat) (w : World) (cx : w.cell? ⟨xb, 0, none⟩ = some (.string x)) (ck : w.cell? ⟨lb, 0, none⟩ = some (.string key)) (hx : xb < w.heap.size) (hl : lb < w.heap.size) (hM : MX w) (hF : TxtRow w ao F) (hn : F.length ≤ 1000000000) :
    Calls Try.prog 100 #[.slice ao F.length cap, .func (.func 98) #[] #[ptr10 xb, ptr10 lb]] w fun e w' => e = .returned (.bool (F.any (matB x key))) ∧ Below w.heap.size w w' := by
  have heg : ∀ args w, (callFunc 98 args).run Try.prog w = .ok (.enter 98 args) w := enters_of Try.func98 (by kernel_rfl) rfl
  rcases hF with rfl | ⟨b, off, rfl, hlt, hc⟩
  · refine (Try.slices_ContainsFunc_empty (α := ByteArray) ao cap _ w).mono ?_
    rintro e w' ⟨rfl, rfl⟩
    exact ⟨rfl, Below.refl _ _⟩
  · refine (Try.slices_ContainsFunc Value.string (matB x key) 98 #[ptr10 xb, ptr10 lb] heg b off F.length cap F w ?_ (Nat.le_refl _) (by omega) ?_).mono ?_
    · intro W y hb
      refine (matters10_any x key y hk xb lb W ((World.cell?_of_block (a := ⟨xb, 0, none⟩) (hb.block _ hx)).trans cx) ((World.cell?_of_block (a := ⟨lb, 0, none⟩) (hb.block _ hl)).trans ck) (hM.step hb)).mono ?_
      rintro e w' ⟨rfl, rfl⟩
      exact ⟨rfl, 0, rfl⟩
    · intro j hj
      rw [hc j hj]
      congr 2
      simp [List.getD_eq_getElem?_getD, hj]
    · rintro e w' ⟨rfl, q, rfl⟩
      rw [List.take_length]
      exact ⟨rfl, ⟨rfl, rfl, rfl, Nat.le_refl _, fun _ _ => rfl⟩⟩
end Go.Proofs.Ytpajcalfjfkogaa.Pl

namespace Go.Proofs.Ytpajcalfjfkogaa.Pl
open Go.RowKit Go.Maps

/-- One that is opened. -/
def Opn10 (X : List (List UInt8)) (b : List UInt8) : Prop := ∃ a n x, LB X (sealT a n x) ∧ can (LB X) a ∧ x.enc = b
/-- One that is to be opened, if it has been met. -/
def Met10 (X : List (List UInt8)) (F : List ByteArray) (s : List UInt8) (L : List ByteArray) : Prop :=
  ∀ a n x, LB X (sealT a n x) → (sealT a n x).enc = s → can (LB X) a → (∃ y ∈ F, bl y = s ∨ Lib.contains a.enc (bl y) = true) → ∃ b ∈ L, bl b = x.enc

theorem Met10.more {X : List (List UInt8)} {F : List ByteArray} {s : List UInt8} {L M : List ByteArray} (h : Met10 X F s L) (hs : ∀ b ∈ L, b ∈ M) : Met10 X F s M := fun a n x h1 h2 h3 h4 => by
  obtain ⟨b, hb, e⟩ := h a n x h1 h2 h3 h4
  exact ⟨b, hs b hb, e⟩
theorem met_lock {X : List (List UInt8)} {a n x : Tm} {s : List UInt8} (h1 : LB X (sealT a n x)) (h2 : (sealT a n x).enc = s) : lockP s = (a.enc, x.enc) := by rw [← h2, lockP_enc h1.1, lockT_seal]
theorem met_none {X : List (List UInt8)} {F : List ByteArray} {s : List UInt8} {L : List ByteArray} (h : (lockP s).1 = []) : Met10 X F s L := fun a n x h1 h2 _ _ => by
  rw [met_lock h1 h2] at h
  exact absurd h (key_bytes (node_valid_parts h1.1 a (by simp)))
theorem met_not {X : List (List UInt8)} {F : List ByteArray} {s : List UInt8} {L : List ByteArray} {sx sk : ByteArray} (hx : bl sx = s) (hk : bl sk = (lockP s).1) (h : F.any (matB sx sk) = false) : Met10 X F s L := fun a n x h1 h2 _ h4 => by
  rw [met_lock h1 h2] at hk
  obtain ⟨y, hy, h4⟩ := h4
  have : F.any (matB sx sk) = true := List.any_eq_true.2 ⟨y, hy, matB_iff.2 (by rw [hk]; exact h4.imp (fun e => bl_inj (e.trans hx.symm)) id)⟩
  rw [h] at this
  cases this
theorem met_shut {X : List (List UInt8)} {F : List ByteArray} {s : List UInt8} {L : List ByteArray} {a0 n0 x0 : Tm} (hv : (sealT a0 n0 x0).valid) (hs : (sealT a0 n0 x0).enc = s) (h : canX X a0 = false) : Met10 X F s L := fun a n x h1 h2 h3 _ => by
  have e := enc_tm_inj h1.1.1 hv.1 (h2.trans hs.symm)
  injection e with _ e
  injection e with e _
  subst e
  rw [canX_iff.2 h3] at h
  cases h
theorem met_new {X : List (List UInt8)} {F : List ByteArray} {s : List UInt8} {L : List ByteArray} {sb : ByteArray} (hb : bl sb = (lockP s).2) : Met10 X F s (L ++ [sb]) := fun a n x h1 h2 _ _ => by
  rw [met_lock h1 h2] at hb
  exact ⟨sb, by simp, hb⟩
theorem met_snoc {X : List (List UInt8)} {F : List ByteArray} {ss : List (List UInt8)} {x : List UInt8} {L M : List ByteArray} (h : ∀ s ∈ ss, Met10 X F s L) (hs : ∀ b ∈ L, b ∈ M) (hx : Met10 X F x M) : ∀ s ∈ ss ++ [x], Met10 X F s M := fun s hm => by
  rcases List.mem_append.1 hm with hm | hm
  · exact (h s hm).more hs
  · rw [List.mem_singleton.1 hm]
    exact hx
theorem range_iter {w : World} {m r n cnt : Nat} {D : DataW Nat} {left : Lit → Bool} (h : w.ranges Try.prog 9 lockE m r n D left cnt) : (∃ es clock, w.heap[m]? = some (.map es clock)) ∧ ∃ a b c d, w.heap[r]? = some (.mapIter a b c d) := by
  obtain ⟨es, clock, since, seen, c0, hb, _, _, _, hr, _⟩ := h
  exact ⟨⟨es, clock, hb⟩, _, _, _, _, hr⟩
theorem range_ne {w : World} {m r n cnt B : Nat} {D : DataW Nat} {left : Lit → Bool} {v : Value} {L : List ByteArray} (h : w.ranges Try.prog 9 lockE m r n D left cnt) (ho : OwnT w B v L) : some m ≠ v.ownBlock ∧ some r ≠ v.ownBlock := by
  obtain ⟨⟨es, clock, hm⟩, a, b, c, d, hr⟩ := range_iter h
  exact ⟨fun e => own_ne10 ho (fun cur e2 => by rw [hm] at e2; cases e2) e.symm, fun e => own_ne10 ho (fun cur e2 => by rw [hr] at e2; cases e2) e.symm⟩
theorem range_below {w w' : World} {m r n cnt : Nat} {D : DataW Nat} {left : Lit → Bool} (h : w.ranges Try.prog 9 lockE m r n D left cnt) (hb : Below w.heap.size w w') : w'.ranges Try.prog 9 lockE m r n D left cnt := h.kept (below_grown hb none) (by simp) (by simp)

set_option maxHeartbeats 4000000 in
set_option maxRecDepth 100000 in
theorem opened10_any (p m : Nat) (X : List (List UInt8)) (F : List ByteArray) (ao : Option Addr) (cap : Nat) (w : World) (hq : KP w p m X) (hM : MX w) (hF : TxtRow w ao F) (hFl : F.length ≤ 1000000000) (hXl : X.length ≤ 1000000) (hX : ∀ s ∈ X, ∃ t : Tm, t.valid ∧ t.enc = s) :
    Calls Try.prog 80 #[ptr10 p, .slice ao F.length cap] w fun e w' => ∃ v L, e = .returned v ∧ OwnT w' w.heap.size v L ∧ (∀ b ∈ L, Opn10 X (bl b)) ∧ (∀ s ∈ X, Met10 X F s L) ∧ L.length ≤ X.length ∧ (F = [] → L = []) ∧ Below w.heap.size w w' := by
  have HQ := Lib.hid hq
  have HM := Lib.hid hM
  have HF := Lib.hid hF
  have HX := Lib.hid hX
  have HFl := Lib.hid hFl
  have HXl := Lib.hid hXl
  have cp := hq.cell
  have HSS : Hid (∀ ss : List (List UInt8), ss.Nodup → (∀ s ∈ ss, s ∈ X) → ss.length ≤ X.length) := Lib.hid (fun ss h1 h2 => nodup_len h1 h2)
  clear hq hM hF hX hFl hXl
  go_enter Try.func80, Try.ntmps80
  go_wp2_with (first | (at_range; refine wpList_range10 rfl _ rfl m X rfl HQ.out.2 ?_; intro w0 D hD hrg0 hg0 hs0) | fail)
  go_frame
  have HD := Lib.hid hD
  have BG : Hid (Below w.heap.size w w0) := Lib.hid ((Below.refl _ _).grown hg0 (Nat.le_refl _) (fun j hj => by cases hj))
  have HRG := Lib.hid hrg0
  have HS0 := Lib.hid hs0
  clear hD hrg0 hg0 hs0
  go_loopw [5] (fun v5 wr => ∃ (left : Lit → Bool) (cnt : Nat) (ss : List (List UInt8)) (L : List ByteArray), Hid (wr.ranges Try.prog 9 lockE m w.heap.size X.length D left cnt) ∧ Hid (Collected D left ss) ∧ Hid (∀ s ∈ ss, s ∈ X) ∧ Hid (OwnT wr w.heap.size v5 L) ∧
      Hid (∀ b ∈ L, Opn10 X (bl b)) ∧ Hid (∀ s ∈ ss, Met10 X F s L) ∧ Hid (L.length ≤ ss.length) ∧ Hid (F = [] → L = []) ∧ Hid (Below w.heap.size w wr)) (fun _ wr => wr.rangeLeft m w.heap.size)
  case atStart => exact ⟨_, _, [], [], HRG, Lib.hid (Collected.start D), Lib.hid (fun s hs => by cases hs), Lib.hid (ownT_nil _ _), Lib.hid (fun b hb => by cases hb), Lib.hid (fun s hs => by cases hs), Lib.hid (Nat.le_refl _), Lib.hid (fun _ => rfl), BG⟩
  case round =>
    obtain ⟨left, cnt, ss, L, hrg, hC, hin, hown, hop, hmet, hlen, hnil, hb⟩ := hrel
    go_wp2_with (first | (at_next; refine wpList_next10 rfl _ rfl m w.heap.size X ss D left cnt rfl hrg.out HD.out hC.out ?_ ?_) | fail)
    · intro hnd hall
      have HLE := Lib.hid (HSS.out ss hnd hin.out)
      have HALL := Lib.hid hall
      clear hnd hall
      go_wp2_with fail
      go_ret
      exact ⟨_, L, rfl, hown.out, hop.out, fun s hs => hmet.out s ((HALL.out s).2 hs), Nat.le_trans hlen.out HLE.out, hnil.out, hb.out⟩
    · intro x left' w1 cnt' hx hns hC' hrg' hlt hg1 hs1 hen
      obtain ⟨t, htv, hte⟩ := HX.out x hx
      generalize hsx : tb10 x = sx
      generalize hsk : tb10 (lockP x).1 = sk
      generalize hsb : tb10 (lockP x).2 = sb
      rw [hsx, hsk, hsb] at hen
      have b1 := hb.out.grown hg1 hb.out.size (fun j hj => by cases hj; exact Nat.le_refl _)
      have o1 : OwnT w1 w.heap.size u5 L := hown.out.kept hg1 (.inr (range_ne hrg.out hown.out).2.symm)
      obtain ⟨W2, hW2⟩ : ∃ W2, W2 = (w1.alloc (.cells #[.string sx] 9)).alloc (.cells #[.string sk, .string sb] 93) := ⟨_, rfl⟩
      have b2 : Below w1.heap.size w1 W2 := by rw [hW2]; exact ((Below.refl _ _).alloc (Nat.le_refl _) _).alloc (by simp) _
      have c1 : W2.heap[w1.heap.size]? = some (.cells #[.string sx] 9 (0, 0)) := by rw [hW2, Below.heap_alloc _ _ _ (by simp)]; exact Go.heap_alloc_new w1 _
      have cx : W2.cell? ⟨w1.heap.size, 0, none⟩ = some (.string sx) := cell_of_row _ _ _ _ _ _ c1
      have c2 : W2.heap[w1.heap.size + 1]? = some (.cells #[.string sk, .string sb] 93 (0, 0)) := by
        have := Go.heap_alloc_new (w1.alloc (.cells #[.string sx] 9)) (.cells #[.string sk, .string sb] 93)
        rw [World.size_alloc] at this
        rw [hW2]
        exact this
      have s2 : W2.heap.size = w1.heap.size + 2 := by rw [hW2]; simp
      have ck : W2.cell? ⟨w1.heap.size + 1, 0, none⟩ = some (.string sk) := cell_of_row _ _ _ _ _ _ c2
      have cb : W2.cell? ⟨w1.heap.size + 1, 1, none⟩ = some (.string sb) := cell_of_row _ _ _ _ _ _ c2
      have HX' := Lib.hid hx
      have HC' := Lib.hid hC'
      have HLT := Lib.hid hlt
      have B2 := Lib.hid (b1.trans (b2.mono b1.size))
      have O2 := Lib.hid (ownT_below o1 b2)
      have R2 := Lib.hid (range_below hrg' b2)
      have HIN : Hid (∀ s ∈ ss ++ [x], s ∈ X) := Lib.hid (fun s hs => by
        rcases List.mem_append.1 hs with hs | hs
        · exact hin.out s hs
        · rw [List.mem_singleton.1 hs]; exact hx)
      have HL1 : Hid (L.length ≤ (ss ++ [x]).length) := Lib.hid (by rw [List.length_append]; exact Nat.le_trans hlen.out (Nat.le_add_right _ _))
      by_cases hke : (lockP x).1 = []
      · have HME := Lib.hid (met_snoc hmet.out (fun _ h => h) (met_none (F := F) (X := X) (L := L) hke))
        have he : sk.toList.isEmpty = true := by
          rw [← hsk, hke, Lib.toList_data]
          rfl
        clear hx hns hC' hrg' hlt hg1 hs1 b1 b2 o1 cx ck cb c1 c2 s2 hsx hsk hsb hte htv
        go_wp2_with fail
        rw [← hW2]
        clear hW2
        go_roundw
        case rel => exact ⟨left', cnt', ss ++ [x], L, R2, HC', HIN, O2, hop, HME, HL1, hnil, B2⟩
        case measure => rw [R2.out.left_eq, hrg.out.left_eq]; exact HLT.out
      · have hkl : (lockT t).1 ≠ [] := by rw [← lockP_enc htv, hte]; exact hke
        obtain ⟨a0, n0, x0, rfl⟩ := lock_key htv hkl
        have hlp : lockP x = (a0.enc, x0.enc) := by rw [← hte, lockP_enc htv, lockT_seal]
        have ha : a0.valid := node_valid_parts htv a0 (by simp)
        have hbk : bl sk = a0.enc := by rw [← hsk, hlp]; rfl
        have hbx : bl sx = x := by rw [← hsx]; rfl
        have hbb : bl sb = (lockP x).2 := by rw [← hsb]; rfl
        have hks := valid_size ha hbk
        have he : sk.toList.isEmpty = false := by
          rw [Lib.toList_data]
          show (bl sk).isEmpty = false
          rw [hbk]
          cases e : a0.enc with
          | nil => exact absurd e (key_bytes ha)
          | cons => rfl
        have HA := Lib.hid (anymat10_any sx sk (by omega) F ao cap w1.heap.size (w1.heap.size + 1) W2 cx ck (by omega) (by omega) (HM.out.step B2.out) (HF.out.below B2.out) HFl.out)
        have HCAN : Hid (∀ V, Below w.heap.size w V → Calls Try.prog 28 #[ptr10 p, .string sk] V fun e w' => e = .returned (.bool (canX X a0)) ∧ Below V.heap.size V w') := Lib.hid (fun V hV => can10_at a0.deep a0 ha (Nat.le_refl _) sk hbk p m X V (HQ.out.below hV))
        cases hany : F.any (matB sx sk) with
        | false =>
          have HME := Lib.hid (met_snoc hmet.out (fun _ h => h) (met_not (F := F) (X := X) (L := L) hbx (hbk.trans (by rw [hlp])) hany))
          rw [hany] at HA
          clear hx hns hC' hrg' hlt hg1 hs1 b1 b2 o1 cx ck cb c1 c2 s2 hsx hsk hsb hte htv hkl hlp ha hbk hbx hbb hks hke hany
          go_wp2_with fail
          rw [← hW2]
          refine HA.out.mono ?_; rintro e w3 ⟨rfl, b3⟩
          have B3 := Lib.hid (below_step B2.out b3)
          have O3 := Lib.hid (ownT_below O2.out b3)
          have R3 := Lib.hid (range_below R2.out b3)
          clear hW2 b3
          go_wp2_with fail
          go_roundw
          case rel => exact ⟨left', cnt', ss ++ [x], L, R3, HC', HIN, O3, hop, HME, HL1, hnil, B3⟩
          case measure => rw [R3.out.left_eq, hrg.out.left_eq]; exact HLT.out
        | true =>
          rw [hany] at HA
          cases hcan : canX X a0 with
          | false =>
            have HME := Lib.hid (met_snoc hmet.out (fun _ h => h) (met_shut (F := F) (X := X) (L := L) htv hte hcan))
            rw [hcan] at HCAN
            have ck3 : ∀ V, Below W2.heap.size W2 V → V.cell? ⟨w1.heap.size + 1, 0, none⟩ = some (.string sk) := fun V hV => (World.cell?_of_block (a := ⟨w1.heap.size + 1, 0, none⟩) (hV.block _ (by rw [s2]; exact Nat.lt_succ_self _))).trans ck
            have CK3 := Lib.hid ck3
            clear hx hns hC' hrg' hlt hg1 hs1 b1 b2 o1 cx cb c1 c2 s2 hsx hsk hsb hte htv hkl hlp ha hbk hbx hbb hks hke hany hcan ck3
            go_wp2_with fail
            rw [← hW2]
            refine HA.out.mono ?_; rintro e w3 ⟨rfl, b3⟩
            have B3 := Lib.hid (below_step B2.out b3)
            have O3 := Lib.hid (ownT_below O2.out b3)
            have R3 := Lib.hid (range_below R2.out b3)
            have ck3 := CK3.out w3 b3
            clear hW2 b3 ck
            go_wp2_with fail
            refine (HCAN.out _ B3.out).mono ?_; rintro e w4 ⟨rfl, b4⟩
            have B4 := Lib.hid (below_step B3.out b4)
            have O4 := Lib.hid (ownT_below O3.out b4)
            have R4 := Lib.hid (range_below R3.out b4)
            clear b4 ck3
            go_wp2_with fail
            go_roundw
            case rel => exact ⟨left', cnt', ss ++ [x], L, R4, HC', HIN, O4, hop, HME, HL1, hnil, B4⟩
            case measure => rw [R4.out.left_eq, hrg.out.left_eq]; exact HLT.out
          | true =>
            have HME := Lib.hid (met_snoc (M := L ++ [sb]) hmet.out (fun _ h => List.mem_append.2 (.inl h)) (met_new (F := F) (X := X) (L := L) hbb))
            have HOP : Hid (∀ b ∈ L ++ [sb], Opn10 X (bl b)) := Lib.hid (fun b hb => by
              rcases List.mem_append.1 hb with hb | hb
              · exact hop.out b hb
              · rw [List.mem_singleton.1 hb]
                exact ⟨a0, n0, x0, ⟨htv, by rw [hte]; exact hx⟩, canX_iff.1 hcan, by rw [hbb, hlp]⟩)
            have HL2 : Hid ((L ++ [sb]).length ≤ (ss ++ [x]).length) := Lib.hid (by rw [List.length_append, List.length_append]; exact Nat.add_le_add_right hlen.out 1)
            have HNI : Hid (F = [] → L ++ [sb] = []) := Lib.hid (fun e => by rw [e] at hany; cases hany)
            have HLL : Hid (L.length ≤ 1000000000) := Lib.hid (by
              have h1 := HSS.out ss hC.out.1 hin.out
              have h2 := hlen.out
              have h3 := HXl.out
              omega)
            rw [hcan] at HCAN
            have ck3 : ∀ V, Below W2.heap.size W2 V → V.cell? ⟨w1.heap.size + 1, 0, none⟩ = some (.string sk) ∧ V.cell? ⟨w1.heap.size + 1, 1, none⟩ = some (.string sb) := fun V hV => ⟨(World.cell?_of_block (a := ⟨w1.heap.size + 1, 0, none⟩) (hV.block _ (by rw [s2]; exact Nat.lt_succ_self _))).trans ck, (World.cell?_of_block (a := ⟨w1.heap.size + 1, 1, none⟩) (hV.block _ (by rw [s2]; exact Nat.lt_succ_self _))).trans cb⟩
            have CK3 := Lib.hid ck3
            clear hx hns hC' hrg' hlt hg1 hs1 b1 b2 o1 cx cb c1 c2 s2 hsx hsk hsb hte htv hkl hlp ha hbk hbx hbb hks hke hany hcan ck3
            go_wp2_with fail
            rw [← hW2]
            refine HA.out.mono ?_; rintro e w3 ⟨rfl, b3⟩
            have B3 := Lib.hid (below_step B2.out b3)
            have O3 := Lib.hid (ownT_below O2.out b3)
            have R3 := Lib.hid (range_below R2.out b3)
            have B23 := Lib.hid b3
            have ck3 := (CK3.out w3 b3).1
            clear hW2 b3 ck
            go_wp2_with fail
            refine (HCAN.out _ B3.out).mono ?_; rintro e w4 ⟨rfl, b4⟩
            have B4 := Lib.hid (below_step B3.out b4)
            have O4 := Lib.hid (ownT_below O3.out b4)
            have R4 := Lib.hid (range_below R3.out b4)
            have cb4 := (CK3.out w4 (below_step B23.out b4)).2
            have HS4 : Hid (w.heap.size ≤ w4.heap.size) := Lib.hid B4.out.size
            clear b4 ck3
            go_wp2_with (at_builtin; refine wpList_app10 rfl _ _ rfl rfl sb rfl rfl O4.out HS4.out HLL.out ?_; intro v' w5 hown5 hgrow hloc)
            have RN := range_ne (range_below R4.out ((Below.refl w4.heap.size w4).alloc (Nat.le_refl _) (.cells #[.string sb] 9))) (ownT_below O4.out ((Below.refl w4.heap.size w4).alloc (Nat.le_refl _) (.cells #[.string sb] 9)))
            have R5 := Lib.hid ((range_below R4.out ((Below.refl w4.heap.size w4).alloc (Nat.le_refl _) (.cells #[.string sb] 9))).kept hgrow RN.1 RN.2)
            have B5 := Lib.hid ((B4.out.trans (((Below.refl w4.heap.size w4).alloc (Nat.le_refl _) (.cells #[.string sb] 9)).mono B4.out.size)).grown hgrow (by simp; have := HS4.out; omega) (fun j hj => own_lowB10 O4.out hj))
            have O5 := Lib.hid hown5
            clear hown5 hgrow hloc RN
            go_roundw
            case rel => exact ⟨left', cnt', ss ++ [x], L ++ [sb], R5, HC', HIN, O5, HOP, HME, HL2, HNI, B5⟩
            case measure => rw [R5.out.left_eq, hrg.out.left_eq]; exact HLT.out
end Go.Proofs.Ytpajcalfjfkogaa.Pl

namespace Go.Proofs.Ytpajcalfjfkogaa.Pl
open Go.RowKit Go.Maps

/-- Block p is somebody who has seen H; F: where what it holds lies. -/
def KnowAt (w : World) (F : Nat → Prop) (p : Nat) (H : List (List UInt8)) : Prop := ∃ m X, KP w p m X ∧ IsK H X ∧ X.length ≤ 2048 ∧ F p ∧ F m ∧ ∀ b, F b → b < w.heap.size
theorem KnowAt.kept {w w' : World} {F : Nat → Prop} {p : Nat} {H : List (List UInt8)} (h : KnowAt w F p H) (hs : w.heap.size ≤ w'.heap.size) (hb : ∀ b, b < w.heap.size → F b → w'.heap[b]? = w.heap[b]?) : KnowAt w' F p H := by
  obtain ⟨m, X, h1, h2, h3, h4, h5, h6⟩ := h
  exact ⟨m, X, ⟨(hb p (h6 p h4) h4).trans h1.1, h1.2.of_block (hb m (h6 m h5) h5)⟩, h2, h3, h4, h5, fun b hf => Nat.lt_of_lt_of_le (h6 b hf) hs⟩

end Go.Proofs.Ytpajcalfjfkogaa.Pl

namespace Go.Proofs.Ytpajcalfjfkogaa.Pl
open Go.RowKit

theorem seal_parts11 {s : List UInt8} (h : checkP s = 0) (hk : kindP s = 6) : ∃ a b d, (partsP s).1 = [a, b, d] := by
  obtain ⟨k, n, x, e, _⟩ := can_seal3 (seen_can (H := [s]) (List.mem_singleton.2 rfl) h) hk
  exact ⟨k, n, x, e⟩
set_option maxHeartbeats 4000000 in
set_option maxRecDepth 100000 in
theorem rstep11_part (s : Stp) (lo : Option Addr) (lc : Nat) (was : List ByteArray) (wo : Option Addr) (wc : Nat) (l : List ByteArray) (ao : Option Addr) (cap : Nat) (hx : ∀ x ∈ l, checkP (bl x) = 0) (ha : 0 ≤ s.a ∧ s.a < l.length) (e : s.fn = 3) (w : World) (hrow : TxtRow w ao l) : StepC s lo lc was wo wc l ao cap w := by
  unfold StepC
  obtain ⟨R, hR⟩ : ∃ R, R = stepP (was.map bl) (l.map bl) s := ⟨_, rfl⟩
  rw [← hR]
  rw [step3 _ _ e, termAt_map] at hR
  have hca := hx _ (term_in ha)
  have hsa : (l.getD s.a.toNat ByteArray.empty).size ≤ 16384 := by
    rw [size_bl]
    exact check_len hca
  have HK := Lib.hid (fun V => rkind_any (l.getD s.a.toNat ByteArray.empty) (by omega) V)
  have HP := Lib.hid (fun V => rparts6_any (l.getD s.a.toNat ByteArray.empty) (by omega) V)
  unfold stpV
  obtain ⟨f, a, b, c, n, tx, li⟩ := s
  simp only at e HK HP ha hca hsa hR ⊢
  subst e
  unfold st2
  obtain ⟨q, hq⟩ : ∃ q, q = l.length := ⟨_, rfl⟩
  obtain ⟨k, rfl⟩ := Int.eq_ofNat_of_zero_le ha.1
  have hk : k < l.length := by omega
  have hk2 : (k : Int) < (q : Int) := by omega
  have hk3 : k < q := by omega
  rw [← hq]
  rcases hrow with e | ⟨g, off, rfl, hlt, hc⟩
  · exfalso
    rw [e] at hk
    exact absurd hk (Nat.not_lt_zero _)
  have ck := hc k hk
  simp only [Int.toNat_natCast] at HK HP hca hsa hR 
  generalize l.getD k ByteArray.empty = t at *
  generalize was.length = m at *
  generalize li.length = r at *
  clear hx ha hc hk hq
  obtain ⟨W1, hW1⟩ : ∃ V, V = w.alloc (.cells #[.int .u8 3, .int .i64 k, .int .i64 b, .int .i64 c, .int .i64 n, .string tx, .slice lo r lc] 46) := ⟨_, rfl⟩
  have BW : Hid (Below w.heap.size w W1) := Lib.hid (by rw [hW1]; exact (Below.refl _ _).alloc (Nat.le_refl _) _)
  have HBX : Hid (∀ V, Below W1.heap.size W1 V → V.cell? ⟨w.heap.size, 0, none⟩ = some (.int .u8 3) ∧ V.cell? ⟨w.heap.size, 1, none⟩ = some (.int .i64 k) ∧ V.cell? ⟨w.heap.size, 2, none⟩ = some (.int .i64 b) ∧ V.cell? ⟨w.heap.size, 4, none⟩ = some (.int .i64 n)) := Lib.hid (fun V hV => by
    have hlt1 : w.heap.size < W1.heap.size := by rw [hW1]; simp
    refine ⟨(hV.cell (p := ⟨w.heap.size, 0, none⟩) hlt1).trans ?_, (hV.cell (p := ⟨w.heap.size, 1, none⟩) hlt1).trans ?_, (hV.cell (p := ⟨w.heap.size, 2, none⟩) hlt1).trans ?_, (hV.cell (p := ⟨w.heap.size, 4, none⟩) hlt1).trans ?_⟩ <;> rw [hW1] <;> simp)
  have HCK : Hid (∀ V, Below w.heap.size w V → V.cell? ⟨g, off + k, none⟩ = some (.string t)) := Lib.hid (fun V hV => (hV.cell (p := ⟨g, off + k, none⟩) hlt).trans ck)
  have hW2 := Lib.hid hW1
  obtain ⟨P, hP⟩ : ∃ P, P = partsP (bl t) := ⟨_, rfl⟩
  obtain ⟨kd, hkd⟩ : ∃ z, z = kindP (bl t) := ⟨_, rfl⟩
  rw [← hP] at HP hR
  rw [← hkd] at HK hR
  have hP3 : kd = 6 → ∃ a b d, P.1 = [a, b, d] := fun e => by rw [hP]; exact seal_parts11 hca (hkd.symm.trans e)
  have HP3 := Lib.hid hP3
  have HR := Lib.hid hR
  clear hW1 hca hsa hP hkd hP3 hR
  go_enter Try.func24, Try.ntmps24
  go_wp2_with fail
  rw [← hW2.out]
  clear hW2 ck hlt
  refine (HK.out _).mono ?_; rintro e w2 ⟨rfl, b2⟩
  obtain ⟨x0, x1, x2, x4⟩ := HBX.out w2 b2
  have y2 := HCK.out w2 (below_step BW.out b2)
  have B2 := Lib.hid b2
  clear b2 HK
  go_wp2_with fail
  refine (HP.out _).mono ?_; rintro e w3 ⟨v, L, rfl, hown, hL, b3⟩
  have B3 := Lib.hid (below_step B2.out b3)
  clear x0 x1 x2 x4 y2 b3 HP B2
  obtain ⟨x0, x1, x2, x4⟩ := HBX.out w3 B3.out
  have y3 := HCK.out w3 (below_step BW.out B3.out)
  have B4 := Lib.hid (below_step BW.out B3.out)
  clear B3 HBX HCK BW
  by_cases hkd : kd = 3
  case neg =>
    have q1 : ((kd : Int) != 3) = true := by rw [bne_iff_ne]; omega
    have q2 : ((kd : Int) == 3) = false := by rw [beq_eq_false_iff_ne]; omega
    have h := HR.out
    rw [if_neg hkd] at h
    have HH := Lib.hid h
    clear hown hL h HR
    go_wp2_with fail
    go_ret2
    exact ⟨by rw [HH.out]; rfl, B4.out⟩
  subst hkd
  have hR := HR.out
  rw [if_pos rfl] at hR
  clear HR
  obtain ⟨a5, c5, rfl, hr⟩ := ownT_row hown
  obtain ⟨ln, hln⟩ : ∃ z, z = L.length := ⟨_, rfl⟩
  rw [← hln]
  have hPl : P.1.length = ln := by rw [← hL, List.length_map, hln]
  rw [hPl] at hR
  clear hown
  by_cases h0 : 0 ≤ n
  case neg =>
    rw [if_neg (fun h => h0 h.1)] at hR
    have HH := Lib.hid hR
    clear hL hr hPl hln hR
    go_wp2_with fail
    go_ret2
    exact ⟨by rw [HH.out]; rfl, B4.out⟩
  obtain ⟨i, rfl⟩ := Int.eq_ofNat_of_zero_le h0
  by_cases h1 : i < ln
  case neg =>
    have h1' : ¬ (i : Int) < (ln : Int) := by omega
    rw [if_neg (fun h => h1' h.2)] at hR
    have HH := Lib.hid hR
    clear hL hr hPl hln hR
    go_wp2_with fail
    go_ret2
    exact ⟨by rw [HH.out]; rfl, B4.out⟩
  have h1' : (i : Int) < (ln : Int) := by omega
  rw [if_pos ⟨h0, h1'⟩] at hR
  have hil : i < L.length := by omega
  rcases hr with e | ⟨g5, o5, rfl, hlt5, hc5⟩
  · exfalso
    rw [e] at hil
    exact absurd hil (Nat.not_lt_zero _)
  have c5i := hc5 i hil
  have hv : P.1.getD ((i : Int)).toNat [] = bl (L.getD i ByteArray.empty) := by rw [← hL]; exact termAt_map L i
  rw [hv] at hR
  generalize L.getD i ByteArray.empty = z at *
  have HH := Lib.hid hR
  clear hL hPl hln hc5 hlt5 hil hv hR
  go_wp2_with fail
  go_ret2
  exact ⟨by rw [HH.out]; rfl, B4.out⟩
set_option maxHeartbeats 4000000 in
set_option maxRecDepth 100000 in
theorem rstep11_nonce (s : Stp) (lo : Option Addr) (lc : Nat) (was : List ByteArray) (wo : Option Addr) (wc : Nat) (l : List ByteArray) (ao : Option Addr) (cap : Nat) (hx : ∀ x ∈ l, checkP (bl x) = 0) (ha : 0 ≤ s.a ∧ s.a < l.length) (e : s.fn = 4) (w : World) (hrow : TxtRow w ao l) : StepC s lo lc was wo wc l ao cap w := by
  unfold StepC
  obtain ⟨R, hR⟩ : ∃ R, R = stepP (was.map bl) (l.map bl) s := ⟨_, rfl⟩
  rw [← hR]
  rw [step4 _ _ e, termAt_map] at hR
  have hca := hx _ (term_in ha)
  have hsa : (l.getD s.a.toNat ByteArray.empty).size ≤ 16384 := by
    rw [size_bl]
    exact check_len hca
  have HK := Lib.hid (fun V => rkind_any (l.getD s.a.toNat ByteArray.empty) (by omega) V)
  have HP := Lib.hid (fun V => rparts6_any (l.getD s.a.toNat ByteArray.empty) (by omega) V)
  unfold stpV
  obtain ⟨f, a, b, c, n, tx, li⟩ := s
  simp only at e HK HP ha hca hsa hR ⊢
  subst e
  unfold st2
  obtain ⟨q, hq⟩ : ∃ q, q = l.length := ⟨_, rfl⟩
  obtain ⟨k, rfl⟩ := Int.eq_ofNat_of_zero_le ha.1
  have hk : k < l.length := by omega
  have hk2 : (k : Int) < (q : Int) := by omega
  have hk3 : k < q := by omega
  rw [← hq]
  rcases hrow with e | ⟨g, off, rfl, hlt, hc⟩
  · exfalso
    rw [e] at hk
    exact absurd hk (Nat.not_lt_zero _)
  have ck := hc k hk
  simp only [Int.toNat_natCast] at HK HP hca hsa hR 
  generalize l.getD k ByteArray.empty = t at *
  generalize was.length = m at *
  generalize li.length = r at *
  clear hx ha hc hk hq
  obtain ⟨W1, hW1⟩ : ∃ V, V = w.alloc (.cells #[.int .u8 4, .int .i64 k, .int .i64 b, .int .i64 c, .int .i64 n, .string tx, .slice lo r lc] 46) := ⟨_, rfl⟩
  have BW : Hid (Below w.heap.size w W1) := Lib.hid (by rw [hW1]; exact (Below.refl _ _).alloc (Nat.le_refl _) _)
  have HBX : Hid (∀ V, Below W1.heap.size W1 V → V.cell? ⟨w.heap.size, 0, none⟩ = some (.int .u8 4) ∧ V.cell? ⟨w.heap.size, 1, none⟩ = some (.int .i64 k) ∧ V.cell? ⟨w.heap.size, 2, none⟩ = some (.int .i64 b) ∧ V.cell? ⟨w.heap.size, 4, none⟩ = some (.int .i64 n)) := Lib.hid (fun V hV => by
    have hlt1 : w.heap.size < W1.heap.size := by rw [hW1]; simp
    refine ⟨(hV.cell (p := ⟨w.heap.size, 0, none⟩) hlt1).trans ?_, (hV.cell (p := ⟨w.heap.size, 1, none⟩) hlt1).trans ?_, (hV.cell (p := ⟨w.heap.size, 2, none⟩) hlt1).trans ?_, (hV.cell (p := ⟨w.heap.size, 4, none⟩) hlt1).trans ?_⟩ <;> rw [hW1] <;> simp)
  have HCK : Hid (∀ V, Below w.heap.size w V → V.cell? ⟨g, off + k, none⟩ = some (.string t)) := Lib.hid (fun V hV => (hV.cell (p := ⟨g, off + k, none⟩) hlt).trans ck)
  have hW2 := Lib.hid hW1
  obtain ⟨P, hP⟩ : ∃ P, P = partsP (bl t) := ⟨_, rfl⟩
  obtain ⟨kd, hkd⟩ : ∃ z, z = kindP (bl t) := ⟨_, rfl⟩
  rw [← hP] at HP hR
  rw [← hkd] at HK hR
  have hP3 : kd = 6 → ∃ a b d, P.1 = [a, b, d] := fun e => by rw [hP]; exact seal_parts11 hca (hkd.symm.trans e)
  have HP3 := Lib.hid hP3
  have HR := Lib.hid hR
  clear hW1 hca hsa hP hkd hP3 hR
  go_enter Try.func24, Try.ntmps24
  go_wp2_with fail
  rw [← hW2.out]
  clear hW2 ck hlt
  refine (HK.out _).mono ?_; rintro e w2 ⟨rfl, b2⟩
  obtain ⟨x0, x1, x2, x4⟩ := HBX.out w2 b2
  have y2 := HCK.out w2 (below_step BW.out b2)
  have B2 := Lib.hid b2
  clear b2 HK
  go_wp2_with fail
  refine (HP.out _).mono ?_; rintro e w3 ⟨v, L, rfl, hown, hL, b3⟩
  have B3 := Lib.hid (below_step B2.out b3)
  clear x0 x1 x2 x4 y2 b3 HP B2
  obtain ⟨x0, x1, x2, x4⟩ := HBX.out w3 B3.out
  have y3 := HCK.out w3 (below_step BW.out B3.out)
  have B4 := Lib.hid (below_step BW.out B3.out)
  clear B3 HBX HCK BW
  by_cases hkd : kd = 6
  case neg =>
    have q1 : ((kd : Int) != 6) = true := by rw [bne_iff_ne]; omega
    have q2 : ((kd : Int) == 6) = false := by rw [beq_eq_false_iff_ne]; omega
    have h := HR.out
    rw [if_neg hkd] at h
    have HH := Lib.hid h
    clear hown hL h HR
    go_wp2_with fail
    go_ret2
    exact ⟨by rw [HH.out]; rfl, B4.out⟩
  subst hkd
  have hR := HR.out
  rw [if_pos rfl] at hR
  clear HR
  obtain ⟨pa, pb, pd, hp3⟩ := HP3.out rfl
  rw [hp3] at hL hR
  match L, hL with
  | [la, lb, ld], hL =>
    injection hL with e1 hL
    injection hL with e2 hL
    injection hL with e3 _
    obtain ⟨a5, c5, rfl, hr⟩ := ownT_row hown
    rcases hr with e | ⟨g5, o5, rfl, hlt5, hc5⟩
    · cases e
    have ca := hc5 0 (by simp)
    have cb := hc5 1 (by simp)
    have cd := hc5 2 (by simp)
    simp only [List.getD_cons_zero, List.getD_cons_succ, Nat.add_zero] at ca cb cd
    subst e1 e2 e3
    simp only [List.getD_cons_zero, List.getD_cons_succ] at hR
    clear hown hlt5 hc5 hp3
    have HH := Lib.hid hR
    clear hR
    go_wp2_with fail
    go_ret2
    exact ⟨by rw [HH.out]; rfl, B4.out⟩
set_option maxHeartbeats 4000000 in
set_option maxRecDepth 100000 in
theorem rstep11_body (s : Stp) (lo : Option Addr) (lc : Nat) (was : List ByteArray) (wo : Option Addr) (wc : Nat) (l : List ByteArray) (ao : Option Addr) (cap : Nat) (hx : ∀ x ∈ l, checkP (bl x) = 0) (ha : 0 ≤ s.a ∧ s.a < l.length) (hb : 0 ≤ s.b ∧ s.b < l.length) (e : s.fn = 5) (w : World) (hrow : TxtRow w ao l) : StepC s lo lc was wo wc l ao cap w := by
  unfold StepC
  obtain ⟨R, hR⟩ : ∃ R, R = stepP (was.map bl) (l.map bl) s := ⟨_, rfl⟩
  rw [← hR]
  rw [step5 _ _ e, termAt_map, termAt_map] at hR
  have hca := hx _ (term_in ha)
  have hcb := hx _ (term_in hb)
  have hsa : (l.getD s.a.toNat ByteArray.empty).size ≤ 16384 := by
    rw [size_bl]
    exact check_len hca
  have HK := Lib.hid (fun V => rkind_any (l.getD s.a.toNat ByteArray.empty) (by omega) V)
  have HP := Lib.hid (fun V => rparts6_any (l.getD s.a.toNat ByteArray.empty) (by omega) V)
  unfold stpV
  obtain ⟨f, a, b, c, n, tx, li⟩ := s
  simp only at e HK HP ha hb hcb hca hsa hR ⊢
  subst e
  unfold st2
  obtain ⟨q, hq⟩ : ∃ q, q = l.length := ⟨_, rfl⟩
  obtain ⟨k, rfl⟩ := Int.eq_ofNat_of_zero_le ha.1
  have hk : k < l.length := by omega
  have hk2 : (k : Int) < (q : Int) := by omega
  have hk3 : k < q := by omega
  obtain ⟨j, rfl⟩ := Int.eq_ofNat_of_zero_le hb.1
  have hj : j < l.length := by omega
  have hj2 : (j : Int) < (q : Int) := by omega
  have hj3 : j < q := by omega
  rw [← hq]
  rcases hrow with e | ⟨g, off, rfl, hlt, hc⟩
  · exfalso
    rw [e] at hk
    exact absurd hk (Nat.not_lt_zero _)
  have ck := hc k hk
  simp only [Int.toNat_natCast] at HK HP hca hsa hR hcb 
  generalize l.getD k ByteArray.empty = t at *
  have cj := hc j hj
  generalize l.getD j ByteArray.empty = u at *
  generalize was.length = m at *
  generalize li.length = r at *
  clear hx ha hb hc hk hj hq
  obtain ⟨W1, hW1⟩ : ∃ V, V = w.alloc (.cells #[.int .u8 5, .int .i64 k, .int .i64 j, .int .i64 c, .int .i64 n, .string tx, .slice lo r lc] 46) := ⟨_, rfl⟩
  have BW : Hid (Below w.heap.size w W1) := Lib.hid (by rw [hW1]; exact (Below.refl _ _).alloc (Nat.le_refl _) _)
  have HBX : Hid (∀ V, Below W1.heap.size W1 V → V.cell? ⟨w.heap.size, 0, none⟩ = some (.int .u8 5) ∧ V.cell? ⟨w.heap.size, 1, none⟩ = some (.int .i64 k) ∧ V.cell? ⟨w.heap.size, 2, none⟩ = some (.int .i64 j) ∧ V.cell? ⟨w.heap.size, 4, none⟩ = some (.int .i64 n)) := Lib.hid (fun V hV => by
    have hlt1 : w.heap.size < W1.heap.size := by rw [hW1]; simp
    refine ⟨(hV.cell (p := ⟨w.heap.size, 0, none⟩) hlt1).trans ?_, (hV.cell (p := ⟨w.heap.size, 1, none⟩) hlt1).trans ?_, (hV.cell (p := ⟨w.heap.size, 2, none⟩) hlt1).trans ?_, (hV.cell (p := ⟨w.heap.size, 4, none⟩) hlt1).trans ?_⟩ <;> rw [hW1] <;> simp)
  have HCK : Hid (∀ V, Below w.heap.size w V → V.cell? ⟨g, off + k, none⟩ = some (.string t) ∧ V.cell? ⟨g, off + j, none⟩ = some (.string u)) := Lib.hid (fun V hV => ⟨(hV.cell (p := ⟨g, off + k, none⟩) hlt).trans ck, (hV.cell (p := ⟨g, off + j, none⟩) hlt).trans cj⟩)
  have hW2 := Lib.hid hW1
  obtain ⟨P, hP⟩ : ∃ P, P = partsP (bl t) := ⟨_, rfl⟩
  obtain ⟨kd, hkd⟩ : ∃ z, z = kindP (bl t) := ⟨_, rfl⟩
  rw [← hP] at HP hR
  rw [← hkd] at HK hR
  have hP3 : kd = 6 → ∃ a b d, P.1 = [a, b, d] := fun e => by rw [hP]; exact seal_parts11 hca (hkd.symm.trans e)
  have HP3 := Lib.hid hP3
  have HR := Lib.hid hR
  clear hW1 hcb hca hsa hP hkd hP3 hR
  go_enter Try.func24, Try.ntmps24
  go_wp2_with fail
  rw [← hW2.out]
  clear hW2 ck hlt cj
  refine (HK.out _).mono ?_; rintro e w2 ⟨rfl, b2⟩
  obtain ⟨x0, x1, x2, x4⟩ := HBX.out w2 b2
  have y2 := HCK.out w2 (below_step BW.out b2)
  have B2 := Lib.hid b2
  clear b2 HK
  go_wp2_with fail
  refine (HP.out _).mono ?_; rintro e w3 ⟨v, L, rfl, hown, hL, b3⟩
  have B3 := Lib.hid (below_step B2.out b3)
  clear x0 x1 x2 x4 y2 b3 HP B2
  obtain ⟨x0, x1, x2, x4⟩ := HBX.out w3 B3.out
  have ⟨y3, z3⟩ := HCK.out w3 (below_step BW.out B3.out)
  have B4 := Lib.hid (below_step BW.out B3.out)
  clear B3 HBX HCK BW
  by_cases hkd : kd = 6
  case neg =>
    have q1 : ((kd : Int) != 6) = true := by rw [bne_iff_ne]; omega
    have q2 : ((kd : Int) == 6) = false := by rw [beq_eq_false_iff_ne]; omega
    have h := HR.out
    rw [if_neg hkd] at h
    have HH := Lib.hid h
    clear hown hL h HR
    go_wp2_with fail
    go_ret2
    exact ⟨by rw [HH.out]; rfl, B4.out⟩
  subst hkd
  have hR := HR.out
  rw [if_pos rfl] at hR
  clear HR
  obtain ⟨pa, pb, pd, hp3⟩ := HP3.out rfl
  rw [hp3] at hL hR
  match L, hL with
  | [la, lb, ld], hL =>
    injection hL with e1 hL
    injection hL with e2 hL
    injection hL with e3 _
    obtain ⟨a5, c5, rfl, hr⟩ := ownT_row hown
    rcases hr with e | ⟨g5, o5, rfl, hlt5, hc5⟩
    · cases e
    have ca := hc5 0 (by simp)
    have cb := hc5 1 (by simp)
    have cd := hc5 2 (by simp)
    simp only [List.getD_cons_zero, List.getD_cons_succ, Nat.add_zero] at ca cb cd
    subst e1 e2 e3
    simp only [List.getD_cons_zero, List.getD_cons_succ] at hR
    clear hown hlt5 hc5 hp3
    have KS : w3.cell? ⟨g5, o5, none⟩ = some (.string la) ∧ w3.cell? ⟨w.heap.size, 2, none⟩ = some (.int .i64 j) ∧ w3.cell? ⟨g, off + j, none⟩ = some (.string u) := ⟨ca, x2, z3⟩
    have hj4 : (0 : Int) ≤ (j : Int) := by omega
    have cd2 : w3.drew.cell? ⟨g5, o5 + 2, none⟩ = some (.string ld) := cd
    have B5 := Lib.hid (below_step B4.out (drew11 w3))
    have HR := Lib.hid hR
    clear hR
    go_wp2_with fail
    go_region_held3 (fun W => W.cell? ⟨g5, o5, none⟩ = some (.string la) ∧ W.cell? ⟨w.heap.size, 2, none⟩ = some (.int .i64 j) ∧ W.cell? ⟨g, off + j, none⟩ = some (.string u)) (first | assumption) (fail)
    clear KS ca cb cd x0 x1 x2 x4 y3 z3
    by_cases hq : la = u
    · subst hq
      have q9 : (!(la.toList == la.toList)) = false := by simp
      have hR := HR.out
      rw [if_pos rfl] at hR
      have HH := Lib.hid hR
      clear hR HR
      simp only [q9]
      go_wp2_with fail
      go_ret2
      exact ⟨by rw [HH.out]; rfl, B5.out⟩
    · obtain ⟨q7, q8⟩ := str6_ne hq
      have q9 : (!(la.toList == u.toList)) = true := by rw [q7]; rfl
      have hR := HR.out
      rw [if_neg (fun h => hq (bl_inj h))] at hR
      have HH := Lib.hid hR
      clear hq hR HR
      simp only [q9]
      go_wp2_with fail
      go_ret2
      exact ⟨by rw [HH.out]; rfl, B5.out⟩
end Go.Proofs.Ytpajcalfjfkogaa.Pl

namespace Go.Proofs.Ytpajcalfjfkogaa.Pl
open Go.RowKit

theorem named_in {v : Int} {k : Nat} (h : namedP true v k = true) : 0 ≤ v ∧ v < k := by
  simp only [namedP, if_true, Bool.and_eq_true, decide_eq_true_eq] at h
  exact h
theorem may_in {s : Stp} {k : Nat} (h : maySt s k = true) : (1 ≤ s.fn ∧ s.fn ≤ 9) ∧ (namesA s.fn = true → 0 ≤ s.a ∧ s.a < k) ∧ (namesB s.fn = true → 0 ≤ s.b ∧ s.b < k) ∧ (namesC s.fn = true → 0 ≤ s.c ∧ s.c < k) ∧ ∀ v ∈ s.list, 0 ≤ v ∧ v < k := by
  unfold maySt at h
  simp only [Bool.and_eq_true] at h
  obtain ⟨⟨⟨⟨⟨⟨⟨mk, ma⟩, mb⟩, mc⟩, _⟩, _⟩, _⟩, ml⟩ := h
  refine ⟨?_, fun e => ?_, fun e => ?_, fun e => ?_, fun v hv => ?_⟩
  · simpa only [namesK, Bool.and_eq_true, decide_eq_true_eq] using mk
  · rw [e] at ma; exact named_in ma
  · rw [e] at mb; exact named_in mb
  · rw [e] at mc; exact named_in mc
  · have h1 := List.all_eq_true.1 ml v hv
    simpa only [Bool.and_eq_true, decide_eq_true_eq] using h1
/-- A step whose fields may be. -/
theorem rstep11_any (s : Stp) (hf : s.Fit) (lo : Option Addr) (lc : Nat) (was : List ByteArray) (wo : Option Addr) (wc : Nat) (l : List ByteArray) (ao : Option Addr) (cap : Nat) (hs : ∀ x ∈ was, x.size ≤ 281474976710656) (ht : s.text.size ≤ 281474976710656) (hx : ∀ x ∈ l, checkP (bl x) = 0) (hm : maySt s l.length = true)
    (w : World) (hw : TxtRow w wo was) (hl : TxtRow w ao l) (hi : IntRow w lo s.list) : StepC s lo lc was wo wc l ao cap w := by
  obtain ⟨h0, ha, hb, hc, hli⟩ := may_in hm
  have hz : ∀ x ∈ l, x.size ≤ 16384 := fun x h => by rw [size_bl]; exact check_len (hx x h)
  have hcase : s.fn = 1 ∨ s.fn = 2 ∨ s.fn = 3 ∨ s.fn = 4 ∨ s.fn = 5 ∨ s.fn = 6 ∨ s.fn = 7 ∨ s.fn = 8 ∨ s.fn = 9 := by omega
  rcases hcase with e | e | e | e | e | e | e | e | e
  · exact rstep11_seen s lo lc was wo wc l ao cap hs e w hw
  · exact rstep11_data s lo lc was wo wc l ao cap ht e w
  · exact rstep11_part s lo lc was wo wc l ao cap hx (ha (by rw [e]; rfl)) e w hl
  · exact rstep11_nonce s lo lc was wo wc l ao cap hx (ha (by rw [e]; rfl)) e w hl
  · exact rstep11_body s lo lc was wo wc l ao cap hx (ha (by rw [e]; rfl)) (hb (by rw [e]; rfl)) e w hl
  · exact rstep11_row s lo lc was wo wc l ao cap hz hli hf.2.2.2.2.2.2.1 e w hl hi
  · exact rstep11_hash s lo lc was wo wc l ao cap hz (ha (by rw [e]; rfl)) e w hl
  · exact rstep11_mac s lo lc was wo wc l ao cap hz (ha (by rw [e]; rfl)) (hb (by rw [e]; rfl)) e w hl
  · exact rstep11_seal s lo lc was wo wc l ao cap hz (ha (by rw [e]; rfl)) (hb (by rw [e]; rfl)) (hc (by rw [e]; rfl)) e w hl
def tb11 (l : List UInt8) : ByteArray := ⟨l.toArray⟩
/-- What a step makes is a term. -/
theorem one_valid {was l : List (List UInt8)} {s : Stp} {t : List UInt8} (hl : ∀ x ∈ l, checkP x = 0) (h : oneP was l s = (t, 0)) : checkP t = 0 :=
  can_check (one_can (H := was ++ l) (fun _ hx _ => List.mem_append.2 (.inl hx)) (fun y hy => seen_can (List.mem_append.2 (.inr hy)) (hl y hy)) h)

set_option maxHeartbeats 4000000 in
set_option maxRecDepth 100000 in
theorem rterms11_any (ss : List Stp) (so : Option Addr) (sc : Nat) (was : List ByteArray) (wo : Option Addr) (wc : Nat) (hs : ∀ x ∈ was, x.size ≤ 281474976710656) (ht : ∀ s ∈ ss, s.text.size ≤ 281474976710656) (hsl : ss.length ≤ 9223372036854775807) (w : World) (hrow : StpRow w so ss) (hwas : TxtRow w wo was) :
    Calls Try.prog 13 #[.slice wo was.length wc, .slice so ss.length sc] w fun e w' => (∃ v L, e = .returned (.tuple #[v, .int .i64 (termsP (was.map bl) ss).2.1, .int .i64 (termsP (was.map bl) ss).2.2]) ∧ OwnT w' w.heap.size v L ∧ L.map bl = (termsP (was.map bl) ss).1) ∧ Below w.heap.size w w' := by
  obtain ⟨T, hT⟩ : ∃ T, T = termsP (was.map bl) ss := ⟨_, rfl⟩
  rw [← hT]
  obtain ⟨n, hn⟩ : ∃ n, n = ss.length := ⟨_, rfl⟩
  have HN := Lib.hid hn
  unfold termsP at hT
  rw [← hn] at hT hsl ⊢
  by_cases h0 : n = 0
  · rw [if_pos h0] at hT
    subst hT h0
    clear hs ht hrow hwas hn HN
    go_enter Try.func13, Try.ntmps13
    go_wp2_with fail
    go_ret3
    exact ⟨⟨_, [], rfl, ownT_nil _ _, rfl⟩, Below.refl _ _⟩
  rw [if_neg h0] at hT
  by_cases hbig : 32768 < n
  · rw [if_pos hbig] at hT
    subst hT
    have h1 : (32768 : Int) < (n : Int) := by omega
    clear hs ht hrow hwas hn HN
    go_enter Try.func13, Try.ntmps13
    go_wp2_with fail
    go_ret3
    exact ⟨⟨_, [], rfl, ownT_nil _ _, rfl⟩, Below.refl _ _⟩
  rw [if_neg hbig] at hT
  have h1 : ¬ (32768 : Int) < (n : Int) := by omega
  have HROW := Lib.hid (fun V (hV : Below w.heap.size w V) => hrow.below hV)
  have HWAS := Lib.hid (fun V (hV : Below w.heap.size w V) => hwas.below hV)
  have HS := Lib.hid hs
  have HTT := Lib.hid ht
  have HT := Lib.hid hT
  generalize hwn : was.length = wn at *
  have HWN := Lib.hid hwn
  clear hs ht hrow hwas hn hT hwn
  go_enter Try.func13, Try.ntmps13
  go_wp2_with fail
  go_loopw [7, 8] (fun lv iv wr => ∃ (j : Nat) (L : List ByteArray), iv = .int .i64 j ∧ j ≤ n ∧ L.length = j ∧ Hid (OwnT wr w.heap.size lv L) ∧ Hid (∀ x ∈ L, checkP (bl x) = 0) ∧ Hid (T = stepsP (was.map bl) (ss.drop j) (L.map bl)) ∧ Hid (Below w.heap.size w wr)) (fun _ iv _ => n - (intOf iv).toNat)
  case atStart => exact ⟨0, [], rfl, Nat.zero_le _, rfl, Lib.hid (ownT_nil _ _), Lib.hid (fun x h => by cases h), Lib.hid (by rw [HT.out]; rfl), Lib.hid (Below.refl _ _)⟩
  case round =>
    clear HT
    obtain ⟨j, L, rfl, hjn, hLj, hown, hval, hst, hb⟩ := hrel
    by_cases hj : j < n
    · have hj' : (j : Int) < (n : Int) := by omega
      have hjl : j < ss.length := by rw [← HN.out]; exact hj
      rcases HROW.out _ hb.out with e | ⟨b, off, rfl, hlt, hc⟩
      · exfalso
        rw [e] at hjl
        exact absurd hjl (Nat.not_lt_zero _)
      obtain ⟨⟨lo, lc, hcs, hil, hlo⟩, hfit⟩ := hc j hjl
      rw [Nat.mul_comm 7 j] at hcs
      have HTX := Lib.hid (HTT.out _ (List.getElem_mem hjl))
      have hst2 : T = stepsP (was.map bl) (ss[j] :: ss.drop (j + 1)) (L.map bl) := by rw [hst.out, List.drop_eq_getElem_cons hjl]
      generalize ss[j] = s at *
      have HC : Hid (∀ V, Below wr.heap.size wr V → V.cell? ⟨b, off + j * 7, none⟩ = some (.int .u8 s.fn) ∧ V.cell? ⟨b, off + j * 7 + 1, none⟩ = some (.int .i64 s.a) ∧ V.cell? ⟨b, off + j * 7 + 2, none⟩ = some (.int .i64 s.b) ∧ V.cell? ⟨b, off + j * 7 + 3, none⟩ = some (.int .i64 s.c) ∧ V.cell? ⟨b, off + j * 7 + 4, none⟩ = some (.int .i64 s.n) ∧ V.cell? ⟨b, off + j * 7 + 5, none⟩ = some (.string s.text) ∧ V.cell? ⟨b, off + j * 7 + 6, none⟩ = some (.slice lo s.list.length lc)) := Lib.hid (fun V hV => by
        have g : ∀ k, (hk : k < 7) → V.cell? ⟨b, off + j * 7 + k, none⟩ = some ((stpCells s lo lc)[k]'hk) := fun k hk => (hV.cell (p := ⟨b, off + j * 7 + k, none⟩) hlt).trans (hcs k hk)
        exact ⟨g 0 (by decide), g 1 (by decide), g 2 (by decide), g 3 (by decide), g 4 (by decide), g 5 (by decide), g 6 (by decide)⟩)
      obtain ⟨al, cl, rfl, hrl⟩ := ownT_row hown.out
      have HMAY := Lib.hid (fun V (hV : Below wr.heap.size wr V) => rmay11_any s lo lc j hfit.2.2.2.2.2.2.1 V (hil.below hV))
      obtain ⟨R, hR⟩ : ∃ R, R = stepP (was.map bl) (L.map bl) s := ⟨_, rfl⟩
      have HSTEP := Lib.hid (fun V (hV : Below wr.heap.size wr V) (h : maySt s j = true) => rstep11_any s hfit lo lc was wo wc L al cl HS.out HTX.out hval.out (by rw [hLj]; exact h) V (HWAS.out V (hb.out.trans (hV.mono hb.out.size))) (hrl.below hV) (hil.below hV))
      unfold StepC at HSTEP
      rw [← hR] at HSTEP
      have hone : oneP (was.map bl) (L.map bl) s = if maySt s j = true then R else ([], 2) := by rw [oneP, List.length_map, hLj, hR]
      have HONE : Hid (∀ x, maySt s j = true → R.2 = x → x ≠ 0 → T = ([], j, x)) := Lib.hid (fun x h e hx => by
        rw [hst2, stepsP, hone, if_pos h, if_neg (by rw [e]; exact hx), List.length_map, hLj, e])
      have HBAD : Hid (maySt s j = false → T = ([], j, 2)) := Lib.hid (fun h => by
        have h2 : oneP (was.map bl) (L.map bl) s = ([], 2) := by rw [hone, if_neg (by rw [h]; simp)]
        rw [hst2, stepsP, h2, if_neg (show ¬ (([], 2) : List UInt8 × Nat).2 = 0 by decide), List.length_map, hLj])
      have HGO : Hid (maySt s j = true → R.2 = 0 → T = stepsP (was.map bl) (ss.drop (j + 1)) ((L ++ [tb11 R.1]).map bl)) := Lib.hid (fun h e => by
        rw [hst2, stepsP, hone, if_pos h, if_pos e, List.map_append]
        rfl)
      have HVAL : Hid (maySt s j = true → R.2 = 0 → ∀ x ∈ L ++ [tb11 R.1], checkP (bl x) = 0) := Lib.hid (fun h e x hx => by
        rcases List.mem_append.1 hx with hx | hx
        · exact hval.out x hx
        · rw [List.mem_singleton.1 hx]
          refine one_valid (was := was.map bl) (l := L.map bl) (s := s) (fun y hy => ?_) ?_
          · obtain ⟨z, hz, rfl⟩ := List.mem_map.1 hy
            exact hval.out z hz
          · rw [hone, if_pos h]
            exact Prod.ext rfl e)
      obtain ⟨x0, x1, x2, x3, x4, x5, x6⟩ := HC.out wr (Below.refl _ _)
      have HLJ := Lib.hid hLj
      have HTW : Hid (was.length = wn) := HWN
      rw [hLj] at HSTEP ⊢
      unfold stpV at HMAY HSTEP
      rw [HTW.out] at HSTEP
      generalize s.list.length = r at *
      generalize maySt s j = my at *
      obtain ⟨f, sa, sb, sd, sn, tx, li⟩ := s
      dsimp only at x0 x1 x2 x3 x4 x5 x6 HC HMAY HSTEP
      clear hst hst2 hR hone hcs hil hlo hfit hlt hc hrl hLj HTX
      go_wp2_with fail
      refine (HMAY.out _ (Below.refl _ _)).mono ?_; rintro e w2 ⟨rfl, b2⟩
      have B2 := Lib.hid b2
      clear HMAY x0 x1 x2 x3 x4 x5 x6 b2
      cases my with
      | false =>
        have HH := Lib.hid (HBAD.out rfl)
        have B3 := Lib.hid (below_step hb.out B2.out)
        clear HSTEP HONE HBAD HGO HVAL HC
        go_wp2_with fail
        go_ret3
        rw [HH.out]
        exact ⟨⟨_, [], rfl, ownT_nil _ _, rfl⟩, B3.out⟩
      | true =>
        obtain ⟨x0, x1, x2, x3, x4, x5, x6⟩ := HC.out w2 B2.out
        clear HBAD HC
        go_wp2_with fail
        refine (HSTEP.out _ B2.out trivial).mono ?_; rintro e w3 ⟨rfl, b3⟩
        have B3 := Lib.hid (below_step hb.out (below_step B2.out b3))
        have O3 := Lib.hid (ownT_below hown.out (below_step B2.out b3))
        clear HSTEP x0 x1 x2 x3 x4 x5 x6 b3 B2
        obtain ⟨R1, x⟩ := R
        dsimp only at HONE HGO HVAL
        unfold st2
        by_cases hx : x = 0
        · subst hx
          have HG := Lib.hid (HGO.out trivial rfl)
          have HV := Lib.hid (HVAL.out trivial rfl)
          have HSZ := Lib.hid B3.out.size
          have HLL : Hid (L.length ≤ 1000000000) := Lib.hid (by rw [HLJ.out]; omega)
          clear HONE HGO HVAL
          dsimp only
          rw [show (⟨R1.toArray⟩ : ByteArray) = tb11 R1 from rfl]
          generalize tb11 R1 = z at *
          go_wp2_with (at_builtin; refine wpList_app10 rfl _ _ rfl rfl z (by rw [HLJ.out]; rfl) rfl O3.out HSZ.out HLL.out ?_; intro v' w4 ho4 hg4 _; have O4 := Lib.hid ho4; have B4 := Lib.hid (B3.out.trans (below_push11 O3.out HSZ.out hg4)); clear ho4 hg4)
          go_roundw
          case rel => exact ⟨j + 1, L ++ [z], by go_num, by omega, by rw [List.length_append, HLJ.out]; rfl, O4, HV, HG, B4⟩
          case measure => simp [intOf]; omega
        · have q2 : ((x : Int) != 0) = true := by rw [bne_iff_ne]; omega
          have HH := Lib.hid (HONE.out x trivial rfl hx)
          clear HONE HGO HVAL
          go_wp2_with fail
          go_ret3
          rw [HH.out]
          exact ⟨⟨_, [], rfl, ownT_nil _ _, rfl⟩, B3.out⟩
    · obtain rfl : j = n := by omega
      have hE : T = (L.map bl, 0, 0) := by rw [hst.out, List.drop_of_length_le (by rw [← HN.out]; exact Nat.le_refl _)]; rfl
      have HE := Lib.hid hE
      obtain ⟨al, cl, rfl, hrl⟩ := ownT_row hown.out
      clear hE hrl
      go_wp2_with fail
      go_ret3
      rw [HE.out]
      exact ⟨⟨_, L, rfl, hown.out, rfl⟩, hb.out⟩
end Go.Proofs.Ytpajcalfjfkogaa.Pl

namespace Go.Proofs.Ytpajcalfjfkogaa.Pl
open Go.RowKit

/-- What some steps come to: the term, which can't be, why. -/
noncomputable def runP (was : List (List UInt8)) (ss : List Stp) : List UInt8 × Nat × Nat :=
  if (termsP was ss).2.2 = 0 then ((termsP was ss).1.getD ((termsP was ss).1.length - 1) [], 0, 0) else ([], (termsP was ss).2.1, (termsP was ss).2.2)
theorem terms_pos {was : List (List UInt8)} {ss : List Stp} (h : (termsP was ss).2.2 = 0) : 0 < (termsP was ss).1.length ∧ (termsP was ss).1.length = ss.length ∧ (termsP was ss).2.1 = 0 := by
  unfold termsP at h ⊢
  by_cases h0 : ss.length = 0
  · rw [if_pos h0] at h
    cases h
  rw [if_neg h0] at h ⊢
  by_cases h1 : 32768 < ss.length
  · rw [if_pos h1] at h
    cases h
  rw [if_neg h1] at h ⊢
  obtain ⟨h2, _, h3⟩ := steps_len was ss [] _ _ (Prod.ext rfl (Prod.ext rfl h))
  rw [List.length_nil, Nat.zero_add] at h2
  exact ⟨by rw [h2]; omega, h2, h3⟩
set_option maxHeartbeats 4000000 in
set_option maxRecDepth 100000 in
theorem rrun11_any (ss : List Stp) (so : Option Addr) (sc : Nat) (was : List ByteArray) (wo : Option Addr) (wc : Nat) (hs : ∀ x ∈ was, x.size ≤ 281474976710656) (ht : ∀ s ∈ ss, s.text.size ≤ 281474976710656) (hsl : ss.length ≤ 9223372036854775807) (w : World) (hrow : StpRow w so ss) (hwas : TxtRow w wo was) :
    Calls Try.prog 11 #[.slice wo was.length wc, .slice so ss.length sc] w fun e w' => e = .returned (.tuple #[.string ⟨(runP (was.map bl) ss).1.toArray⟩, .int .i64 (runP (was.map bl) ss).2.1, .int .i64 (runP (was.map bl) ss).2.2]) ∧ Below w.heap.size w w' := by
  have HT := Lib.hid (rterms11_any ss so sc was wo wc hs ht hsl w hrow hwas)
  have HPOS := Lib.hid (fun h => terms_pos (was := was.map bl) (ss := ss) h)
  obtain ⟨R, hR⟩ : ∃ R, R = runP (was.map bl) ss := ⟨_, rfl⟩
  rw [← hR]
  unfold runP at hR
  have HR := Lib.hid hR
  clear hR hs ht hrow hwas
  generalize termsP (was.map bl) ss = T at *
  generalize hn : ss.length = n at *
  generalize was.length = m at *
  obtain ⟨L0, p, x⟩ := T
  dsimp only at HT HPOS HR
  go_enter Try.func11, Try.ntmps11
  go_wp2_with fail
  refine HT.out.mono ?_; rintro e w2 ⟨⟨v, L, rfl, hown, hL⟩, b2⟩
  have B2 := Lib.hid b2
  clear b2 HT
  by_cases hx : x = 0
  · subst hx
    obtain ⟨h1, h2, _⟩ := HPOS.out rfl
    have hz := HR.out
    rw [if_pos rfl] at hz
    obtain ⟨al, cl, rfl, hrl⟩ := ownT_row hown
    have hll : L.length = L0.length := by rw [← hL, List.length_map]
    obtain ⟨k, hk⟩ : ∃ k, k + 1 = L.length := ⟨L.length - 1, by omega⟩
    have hk1 : L0.length - 1 = k := by rw [← hL, List.length_map]; omega
    rw [hk1, ← hL] at hz
    have hzz : (L.map bl).getD k [] = bl (L.getD k ByteArray.empty) := termAt_map L (k : Int)
    rw [hzz] at hz
    rw [← hk]
    rcases hrl with e | ⟨g, off, rfl, _, hc⟩
    · rw [e] at hk; simp at hk
    have ck := hc k (by omega)
    have HZ := Lib.hid hz
    generalize L.getD k ByteArray.empty = t at *
    have hkb : k ≤ 9223372036854775806 := by omega
    have hw3 : wrap64 (k : Int) = (k : Int) := IntWalk.wrap64_in _ ⟨by omega, by omega⟩
    have hk0 : (0 : Int) ≤ (k : Int) := by omega
    have hk4 : (k : Int) < (k : Int) + 1 := by omega
    clear h1 h2 hn hz hk1 hzz hc hown hL HPOS HR hk hll
    go_wp2_with fail
    go_ret3
    exact ⟨by rw [HZ.out]; rfl, B2.out⟩
  · have q2 : ((x : Int) != 0) = true := by rw [bne_iff_ne]; omega
    have hz := HR.out
    rw [if_neg hx] at hz
    have HZ := Lib.hid hz
    obtain ⟨al, cl, rfl, hrl⟩ := ownT_row hown
    clear hz hown hL HPOS HR hrl
    go_wp2_with fail
    go_ret3
    exact ⟨by rw [HZ.out]; rfl, B2.out⟩
end Go.Proofs.Ytpajcalfjfkogaa.Pl

namespace Go.Proofs.Ytpajcalfjfkogaa.Pl
open Go.RowKit

/-- What forge.Run is to answer. -/
def RunC : Prop := ∀ (ss : List Stp) (so : Option Addr) (sc : Nat) (was : List ByteArray) (wo : Option Addr) (wc : Nat), ss.length ≤ 200 → (∀ x ∈ was, x.size ≤ 6000) → was.length ≤ 80 → (∀ s ∈ ss, s.list.length ≤ 40 ∧ s.text.size ≤ 2000) → ∀ V : World, StpRow V so ss → TxtRow V wo was →
  Calls Try.prog 10 #[.slice wo was.length wc, .slice so ss.length sc] V fun e w' => e = .returned (.tuple #[.string ⟨(runP (was.map bl) ss).1.toArray⟩, .int .i64 (runP (was.map bl) ss).2.1, .int .i64 (runP (was.map bl) ss).2.2]) ∧ Below V.heap.size V w'
/-- What forge.Terms is to answer. -/
def TermsC : Prop := ∀ (ss : List Stp) (so : Option Addr) (sc : Nat) (was : List ByteArray) (wo : Option Addr) (wc : Nat), ss.length ≤ 200 → (∀ x ∈ was, x.size ≤ 6000) → was.length ≤ 80 → (∀ s ∈ ss, s.list.length ≤ 40 ∧ s.text.size ≤ 2000) → ∀ V : World, StpRow V so ss → TxtRow V wo was →
  Calls Try.prog 12 #[.slice wo was.length wc, .slice so ss.length sc] V fun e w' => (∃ v L, e = .returned (.tuple #[v, .int .i64 (termsP (was.map bl) ss).2.2]) ∧ OwnT w' V.heap.size v L ∧ L.map bl = (termsP (was.map bl) ss).1) ∧ Below V.heap.size V w'
theorem wpList_copyS {ops : Array Oper} {rest : List Oper} {o : Oper} {a : Act} {Q : Exit → Act → World → Prop} {W0 W : World} (hgd : o.guard = none) (x : Operand)
    (ho : o.op = .call { callee := .builtin .append, args := #[.const (.slice none 0 0), x], argTypes := #[23, 23] }) (hty : o.type = 23) {u : Value} {m : List Stp} {ao : Option Addr} {cap : Nat} (hx : a.eval x = u) (hu : u = .slice ao m.length cap)
    (hb0 : Below W0.heap.size W0 W) (hrow : StpRow W0 ao m) (hp : ao = none → cap = 0) (hl : m.length ≤ 1000000)
    (K : ∀ v' w', OwnSt W0 w' v' m → Below W.heap.size W w' → wpList Try.prog ops Q rest (a.put o.dst v') w') : wpList Try.prog ops Q (o :: rest) a W := by
  subst hu
  refine wpList_plain hgd fun _ hK => ?_
  obtain ⟨v', w', hr, h2, _, h3⟩ := appS_run hb0 (ownSt_nil W0 W) hrow hp (by simpa using hl)
  unfold Oper.wp execOp
  simp only [ho, hty, resolve, invoke, builtin, Sem.run_bind, Sem.run_pure, Result.andThen_ok, List.map_toArray, List.map_cons, List.map_nil, Act.eval]
  simp only [Act.eval] at hx
  rw [hx]
  rw [hr]
  exact hK _ _ (K v' w' h2 ((Below.refl _ W).grown h3 (Nat.le_refl _) (fun j hj => by cases hj)))
theorem map_bl_inj11 : ∀ {a b : List ByteArray}, a.map bl = b.map bl → a = b
  | [], [], _ => rfl
  | [], _ :: _, h => by cases h
  | _ :: _, [], h => by cases h
  | x :: a, y :: b, h => by
    injection h with h1 h2
    rw [bl_inj h1, map_bl_inj11 h2]
theorem small_each : ∀ {l : List ByteArray}, ((l.map bl).map List.length).sum ≤ 6000 → ∀ x ∈ l, x.size ≤ 6000
  | [], _, x, hx => by cases hx
  | y :: l, h, x, hx => by
    simp only [List.map_cons, List.sum_cons] at h
    rcases List.mem_cons.1 hx with rfl | hx
    · rw [size_bl]; omega
    · exact small_each (by omega) x hx
set_option maxHeartbeats 8000000 in
set_option maxRecDepth 100000 in
theorem forgeruns_any (HRUN : RunC) (HTER : TermsC) (l : List ByteArray) (ss : List Stp) (ao so : Option Addr) (cap sc : Nat)
    (w : World) (hal : ∀ V, Below w.heap.size w V → Calls Try.prog 9 #[] V fun e w' => e = .returned (.bool true) ∧ Below V.heap.size V w') (hrow : TxtRow w ao l) (hp : ao = none → cap = 0) (hst : StpRow w so ss) (hsp : so = none → sc = 0) :
    Calls Try.prog 3 #[.slice ao l.length cap, .slice so ss.length sc] w fun e w' => e = .returned (.bool true) ∧ Below w.heap.size w w' := by
  have HAL := Lib.hid hal
  have HLONG := Lib.hid (long10_any l ao cap w hrow)
  have HHEAVY := Lib.hid (heavy11_any ss so sc w hst)
  cases hlong : longB l with
  | true =>
    rw [hlong] at HLONG
    generalize l.length = n at *
    generalize ss.length = m at *
    clear hal hrow hst HRUN HTER HHEAVY
    go_enter Try.func3, Try.ntmps3
    go_wp2_with fail
    refine HLONG.out.mono ?_; rintro e w0 ⟨rfl, e0⟩; subst e0
    go_wp2_with fail
    refine (HAL.out _ (Below.refl _ _)).mono ?_; rintro e w3 ⟨rfl, bz⟩
    have BZ := Lib.hid bz
    clear bz
    go_wp2_with fail
    go_ret
    exact ⟨rfl, BZ.out⟩
  | false =>
  cases hheavy : heavyB ss with
  | true =>
    rw [hlong] at HLONG
    rw [hheavy] at HHEAVY
    generalize l.length = n at *
    generalize ss.length = m at *
    clear hal hrow hst HRUN HTER
    go_enter Try.func3, Try.ntmps3
    go_wp2_with fail
    refine HLONG.out.mono ?_; rintro e w0 ⟨rfl, e0⟩; subst e0
    go_wp2_with fail
    refine HHEAVY.out.mono ?_; rintro e w0 ⟨rfl, e0⟩; have e1 := e0.symm; clear e0; subst e1
    go_wp2_with fail
    refine (HAL.out _ (Below.refl _ _)).mono ?_; rintro e w3 ⟨rfl, bz⟩
    have BZ := Lib.hid bz
    clear bz
    go_wp2_with fail
    go_ret
    exact ⟨rfl, BZ.out⟩
  | false =>
  rw [hlong] at HLONG
  rw [hheavy] at HHEAVY
  obtain ⟨hl40, hlB⟩ := long_no hlong
  have hlz := small_each hlB
  obtain ⟨hs100, hsz⟩ := heavy_no hheavy
  have HR1 : Hid (∀ V a c so' sc', StpRow V so' ss → TxtRow V a l → Calls Try.prog 10 #[.slice a l.length c, .slice so' ss.length sc'] V fun e w' => e = .returned (.tuple #[.string ⟨(runP (l.map bl) ss).1.toArray⟩, .int .i64 (runP (l.map bl) ss).2.1, .int .i64 (runP (l.map bl) ss).2.2]) ∧ Below V.heap.size V w') := Lib.hid (fun V a c so' sc' h1 h2 => HRUN ss so' sc' l a c (by omega) hlz (by omega) hsz V h1 h2)
  have HT1 := Lib.hid (fun V a c (h1 : StpRow V so ss) (h2 : TxtRow V a l) => HTER ss so sc l a c (by omega) hlz (by omega) hsz V h1 h2)
  have HR2 := Lib.hid (fun V (h1 : StpRow V so ss) (h2 : TxtRow V ao l) => rrun11_any ss so sc l ao cap (fun x hx => by have := hlz x hx; omega) (fun s hs => by have := (hsz s hs).2; omega) (by omega) V h1 h2)
  have HT2 := Lib.hid (fun V (h1 : StpRow V so ss) (h2 : TxtRow V ao l) => rterms11_any ss so sc l ao cap (fun x hx => by have := hlz x hx; omega) (fun s hs => by have := (hsz s hs).2; omega) (by omega) V h1 h2)
  have HTN : Hid ((termsP (l.map bl) ss).1.length ≤ 200) := Lib.hid (by
    by_cases h : (termsP (l.map bl) ss).2.2 = 0
    · rw [(terms_pos h).2.1]; omega
    · have : (termsP (l.map bl) ss).1 = [] := by
        unfold termsP at h ⊢
        by_cases h0 : ss.length = 0
        · rw [if_pos h0]
        rw [if_neg h0] at h ⊢
        by_cases h1 : 32768 < ss.length
        · rw [if_pos h1]
        rw [if_neg h1] at h ⊢
        exact steps_none _ _ _ h
      rw [this]
      simp)
  have HROW := Lib.hid (fun V (hV : Below w.heap.size w V) => hrow.below hV)
  have HST := Lib.hid (fun V (hV : Below w.heap.size w V) => hst.below hV)
  have HST0 := Lib.hid hst
  have HP := Lib.hid hp
  have HSP := Lib.hid hsp
  obtain ⟨n, hn⟩ : ∃ n, n = l.length := ⟨_, rfl⟩
  obtain ⟨m, hm⟩ : ∃ m, m = ss.length := ⟨_, rfl⟩
  have HN := Lib.hid hn
  have HM := Lib.hid hm
  have HU1 : Hid ((Value.slice ao n cap) = .slice ao l.length cap) := Lib.hid (by rw [hn])
  have HU2 : Hid ((Value.slice so m sc) = .slice so ss.length sc) := Lib.hid (by rw [hm])
  have HL4 : Hid (l.length ≤ 40) := Lib.hid hl40
  have HS1 : Hid (ss.length ≤ 1000000) := Lib.hid (by omega)
  rw [← hn] at HLONG HR1 HT1 HR2 HT2
  rw [← hm] at HHEAVY HR1 HT1 HR2 HT2
  rw [← hn, ← hm]
  generalize runP (l.map bl) ss = R at *
  generalize termsP (l.map bl) ss = T at *
  clear hal hrow hp hst hsp hlong hheavy hl40 hlB hlz hs100 hsz HRUN HTER hn hm
  go_enter Try.func3, Try.ntmps3
  go_wp2_with fail
  refine HLONG.out.mono ?_; rintro e w0 ⟨rfl, e0⟩; subst e0
  go_wp2_with fail
  refine HHEAVY.out.mono ?_; rintro e w0 ⟨rfl, e0⟩; have e1 := e0.symm; clear e0; subst e1
  clear HLONG HHEAVY
  go_wp2_with (first
    | (at_builtin; refine wpList_copyS (W0 := w) (u := .slice so m sc) (m := ss) (ao := so) (cap := sc) rfl (.tmp 28) rfl rfl rfl HU2.out B1.out HST0.out HSP.out HS1.out ?_; intro v2 w2 ho2 hb2; have B2 := Lib.hid (below_step B1.out hb2); obtain ⟨s2, c2, rfl, hr2, _⟩ := ownSt_row ho2 B2.out; rw [← HM.out]; have S2 := Lib.hid hr2; have R2 := Lib.hid (R1.out.below hb2); clear ho2 hb2 hr2)
    | (at_builtin; refine wpList_copy10 rfl (.tmp 24) rfl ao cap l HU1.out (HROW.out _ (Below.refl _ _)) (by have := HL4.out; omega) HP.out w.heap.size (Nat.le_refl _) ?_; intro v1 w1 ho1 hb1 _; have B1 := Lib.hid hb1; obtain ⟨a1, c1, rfl, hr1⟩ := ownT_row ho1; rw [← HN.out]; have R1 := Lib.hid hr1; clear ho1 hb1 hr1)
    | fail)
  clear R1 B1
  refine (HR1.out _ a1 c1 s2 c2 S2.out R2.out).mono ?_; rintro e w3 ⟨rfl, b3⟩
  have B3 := Lib.hid (below_step B2.out b3)
  have R3 := Lib.hid (R2.out.below b3)
  clear HR1 S2 R2 B2 b3
  go_wp2_with fail
  refine (HR2.out _ (HST.out _ B3.out) (HROW.out _ B3.out)).mono ?_; rintro e w4 ⟨rfl, b4⟩
  have B4 := Lib.hid (below_step B3.out b4)
  have R4 := Lib.hid (R3.out.below b4)
  clear HR2 R3 B3 b4
  go_wp2_with fail
  refine (HT1.out _ a1 c1 (HST.out _ B4.out) R4.out).mono ?_; rintro e w5 ⟨⟨v5, L5, rfl, o5, e5⟩, b5⟩
  have B5 := Lib.hid (below_step B4.out b5)
  have R5 := Lib.hid (R4.out.below b5)
  have O5 := Lib.hid o5
  have E5 := Lib.hid e5
  clear HT1 R4 B4 b5 o5 e5
  go_wp2_with fail
  refine (HT2.out _ (HST.out _ B5.out) (HROW.out _ B5.out)).mono ?_; rintro e w6 ⟨⟨v6, L6, rfl, o6, e6⟩, b6⟩
  have B6 := Lib.hid (below_step B5.out b6)
  have R6 := Lib.hid (R5.out.below b6)
  obtain ⟨a5, c5, rfl, r5⟩ := ownT_row (ownT_below O5.out b6)
  obtain ⟨a6, c6, rfl, r6⟩ := ownT_row o6
  have hLL : L5 = L6 := by
    have : L5.map bl = L6.map bl := by rw [E5.out, e6]
    exact map_bl_inj11 this
  subst hLL
  have hl5 : L5.length ≤ 200 := by
    have := HTN.out
    rw [← e6, List.length_map] at this
    exact this
  have HS1' := Lib.hid (fun V (h1 : TxtRow V a5 L5) (h2 : TxtRow V a6 L5) => rsame_any L5 L5 a5 a6 c5 c6 (by omega) (by omega) V h1 h2 true (by simp))
  have HS2' := Lib.hid (fun V (h1 : TxtRow V a1 l) (h2 : TxtRow V ao l) => rsame_any l l a1 ao c1 cap (by have := HL4.out; omega) (by have := HL4.out; omega) V h1 h2 true (by simp))
  rw [← HN.out] at HS2'
  have Q5 := Lib.hid r5
  have Q6 := Lib.hid r6
  clear HT2 R5 B5 b6 o6 e6 O5 E5 r5 r6
  generalize L5.length = q at *
  obtain ⟨R0, R1', R2'⟩ := R
  obtain ⟨T0, T1', T2'⟩ := T
  dsimp only
  go_wp2_with fail
  refine (HS1'.out _ Q5.out Q6.out).mono ?_; rintro e w7 ⟨rfl, b7⟩
  have B7 := Lib.hid (below_step B6.out b7)
  have R7 := Lib.hid (R6.out.below b7)
  clear B6 R6 b7 HS1' Q5 Q6
  go_wp2_with fail
  refine (HS2'.out _ R7.out (HROW.out _ B7.out)).mono ?_; rintro e w8 ⟨rfl, b8⟩
  have B8 := Lib.hid (below_step B7.out b8)
  clear B7 R7 b8 HS2'
  go_wp2_with fail
  refine (HAL.out _ B8.out).mono ?_; rintro e w9 ⟨rfl, b9⟩
  have B9 := Lib.hid (below_step B8.out b9)
  clear b9 B8
  go_wp2_with fail
  go_ret
  exact ⟨rfl, B9.out⟩
end Go.Proofs.Ytpajcalfjfkogaa.Pl

namespace Go.Proofs.Ytpajcalfjfkogaa.Pl
open Go.RowKit

theorem wpList_appR11 {ops : Array Oper} {rest : List Oper} {o : Oper} {a : Act} {Q : Exit → Act → World → Prop} {W : World} (hgd : o.guard = none) (s x : Operand)
    (ho : o.op = .call { callee := .builtin .append, args := #[s, x], argTypes := #[22, 22] }) (hty : o.type = 22) {B : Nat} {v u : Value} {l m : List ByteArray} {ao : Option Addr} {cap : Nat} (hs : a.eval s = v) (hx : a.eval x = u) (hu : u = .slice ao m.length cap)
    (hown : OwnT W B v l) (hB : B ≤ W.heap.size) (hrow : TxtRow W ao m) (hp : ao = none → cap = 0) (hl : l.length + m.length ≤ 1000000000)
    (K : ∀ v' w', OwnT w' B v' (l ++ m) → Below B W w' → wpList Try.prog ops Q rest (a.put o.dst v') w') : wpList Try.prog ops Q (o :: rest) a W := by
  subst hu
  refine wpList_plain hgd fun _ hK => ?_
  obtain ⟨v', w', hr, h2, h3, _⟩ := appT_run hown hB hrow hp hl
  refine wp_appT s x ho hty hs hx hr ?_
  exact hK _ _ (K v' w' h2 h3)
theorem wpList_appS {ops : Array Oper} {rest : List Oper} {o : Oper} {a : Act} {Q : Exit → Act → World → Prop} {W0 W : World} (hgd : o.guard = none) (s x : Operand)
    (ho : o.op = .call { callee := .builtin .append, args := #[s, x], argTypes := #[23, 23] }) (hty : o.type = 23) {v u : Value} {l m : List Stp} {ao : Option Addr} {cap : Nat} (hs : a.eval s = v) (hx : a.eval x = u) (hu : u = .slice ao m.length cap)
    (hb0 : Below W0.heap.size W0 W) (hown : OwnSt W0 W v l) (hrow : StpRow W0 ao m) (hp : ao = none → cap = 0) (hl : l.length + m.length ≤ 1000000)
    (K : ∀ v' w', OwnSt W0 w' v' (l ++ m) → Below W0.heap.size W w' → wpList Try.prog ops Q rest (a.put o.dst v') w') : wpList Try.prog ops Q (o :: rest) a W := by
  subst hu
  refine wpList_plain hgd fun _ hK => ?_
  obtain ⟨v', w', hr, h2, h3, _⟩ := appS_run hb0 hown hrow hp hl
  unfold Oper.wp execOp
  simp only [ho, hty, resolve, invoke, builtin, Sem.run_bind, Sem.run_pure, Result.andThen_ok, List.map_toArray, List.map_cons, List.map_nil, hs, hx, hr]
  exact hK _ _ (K v' w' h2 h3)
theorem terms_ok {was : List (List UInt8)} {ss : List Stp} (h : (termsP was ss).2.2 = 0) : 0 < ss.length ∧ ss.length ≤ 32768 ∧ stepsP was ss [] = ((termsP was ss).1, 0, 0) := by
  obtain ⟨h1, h2, h3⟩ := terms_pos h
  unfold termsP at h h2 h3 ⊢
  by_cases h0 : ss.length = 0
  · rw [if_pos h0] at h
    cases h
  rw [if_neg h0] at h h2 h3 ⊢
  by_cases h4 : 32768 < ss.length
  · rw [if_pos h4] at h
    cases h
  rw [if_neg h4] at h h2 h3 ⊢
  exact ⟨by omega, by omega, Prod.ext rfl (Prod.ext h3 h)⟩
theorem terms_more {was more : List (List UInt8)} {ss : List Stp} (h : (termsP was ss).2.2 = 0) : termsP (was ++ more) ss = termsP was ss := by
  obtain ⟨h1, h2, h3⟩ := terms_ok h
  have h4 := steps_more (more := more) ss [] _ _ h3
  have e1 : termsP (was ++ more) ss = ((termsP was ss).1, 0, 0) := by
    rw [termsP, if_neg (by omega), if_neg (by omega)]
    exact h4
  have e2 : termsP was ss = ((termsP was ss).1, 0, 0) := by
    conv => lhs; rw [termsP, if_neg (show ¬ ss.length = 0 by omega), if_neg (show ¬ 32768 < ss.length by omega)]
    exact h3
  rw [e1, ← e2]
theorem terms_then {was : List (List UInt8)} {ss tt : List Stp} (h : (termsP was ss).2.2 = 0) (k : (termsP was (ss ++ tt)).2.2 = 0) : (termsP was (ss ++ tt)).1.length = ss.length + tt.length ∧ (termsP was (ss ++ tt)).1.take (termsP was ss).1.length = (termsP was ss).1 := by
  obtain ⟨_, _, h3⟩ := terms_ok h
  obtain ⟨_, _, k3⟩ := terms_ok k
  rw [steps_then ss tt _ _ _ h3] at k3
  obtain ⟨q1, q2, _⟩ := steps_len was tt _ _ _ k3
  refine ⟨?_, List.prefix_iff_eq_take.1 q2 |>.symm⟩
  rw [q1, (terms_pos h).2.1]
theorem terms_le {was : List (List UInt8)} {ss : List Stp} : (termsP was ss).1.length ≤ ss.length := by
  by_cases h : (termsP was ss).2.2 = 0
  · rw [(terms_pos h).2.1]
    exact Nat.le_refl _
  · have : (termsP was ss).1 = [] := by
      unfold termsP at h ⊢
      by_cases h0 : ss.length = 0
      · rw [if_pos h0]
      rw [if_neg h0] at h ⊢
      by_cases h1 : 32768 < ss.length
      · rw [if_pos h1]
      rw [if_neg h1] at h ⊢
      exact steps_none _ _ _ h
    rw [this]
    exact Nat.zero_le _

set_option maxHeartbeats 8000000 in
set_option maxRecDepth 100000 in
theorem forgemore_any (HTER : TermsC) (l r : List ByteArray) (ss tt : List Stp) (ao ro so to : Option Addr) (cap rc sc tc : Nat)
    (w : World) (hal : ∀ V, Below w.heap.size w V → Calls Try.prog 9 #[] V fun e w' => e = .returned (.bool true) ∧ Below V.heap.size V w') (hrow : TxtRow w ao l) (hp : ao = none → cap = 0) (hrr : TxtRow w ro r) (hrp : ro = none → rc = 0) (hst : StpRow w so ss) (hsp : so = none → sc = 0) (htt : StpRow w to tt) (htp : to = none → tc = 0) :
    Calls Try.prog 6 #[.slice ao l.length cap, .slice ro r.length rc, .slice so ss.length sc, .slice to tt.length tc] w fun e w' => e = .returned (.bool true) ∧ Below w.heap.size w w' := by
  have HAL := Lib.hid hal
  have HL1 := Lib.hid (long10_any l ao cap w hrow)
  have HL2 := Lib.hid (long10_any r ro rc w hrr)
  have HH1 := Lib.hid (heavy11_any ss so sc w hst)
  have HH2 := Lib.hid (heavy11_any tt to tc w htt)
  have HTR := Lib.hid HTER
  have HROW := Lib.hid (fun V (hV : Below w.heap.size w V) => hrow.below hV)
  have HRR := Lib.hid (fun V (hV : Below w.heap.size w V) => hrr.below hV)
  have HST := Lib.hid (fun V (hV : Below w.heap.size w V) => hst.below hV)
  have HTT := Lib.hid (fun V (hV : Below w.heap.size w V) => htt.below hV)
  have HP := Lib.hid hp
  have HRP := Lib.hid hrp
  have HSP := Lib.hid hsp
  have HTP := Lib.hid htp
  obtain ⟨nl, hnl⟩ : ∃ n, n = l.length := ⟨_, rfl⟩
  obtain ⟨nr, hnr⟩ : ∃ n, n = r.length := ⟨_, rfl⟩
  obtain ⟨ns, hns⟩ : ∃ n, n = ss.length := ⟨_, rfl⟩
  obtain ⟨nt, hnt⟩ : ∃ n, n = tt.length := ⟨_, rfl⟩
  have HNL := Lib.hid hnl
  have HNR := Lib.hid hnr
  have HNS := Lib.hid hns
  have HNT := Lib.hid hnt
  have HU1 : Hid ((Value.slice ao nl cap) = .slice ao l.length cap) := Lib.hid (by rw [hnl])
  have HU2 : Hid ((Value.slice ro nr rc) = .slice ro r.length rc) := Lib.hid (by rw [hnr])
  have HU3 : Hid ((Value.slice so ns sc) = .slice so ss.length sc) := Lib.hid (by rw [hns])
  have HU4 : Hid ((Value.slice to nt tc) = .slice to tt.length tc) := Lib.hid (by rw [hnt])
  rw [← hnl] at HL1
  rw [← hnr] at HL2
  rw [← hns] at HH1
  rw [← hnt] at HH2
  rw [← hnl, ← hnr, ← hns, ← hnt]
  clear hal hrow hp hrr hrp hst hsp htt htp hnl hnr hns hnt HTER
  go_enter Try.func6, Try.ntmps6
  go_wp2_with fail
  refine HL1.out.mono ?_; rintro e w0 ⟨rfl, e0⟩; subst e0
  clear HL1
  cases q1 : longB l with
  | true =>
    go_wp2_with fail
    refine (HAL.out _ (Below.refl _ _)).mono ?_; rintro e wz ⟨rfl, bz⟩
    have BZ := Lib.hid (below_step (Below.refl _ _) bz)
    clear bz
    go_wp2_with fail
    go_ret
    exact ⟨rfl, BZ.out⟩
  | false =>
  go_wp2_with fail
  refine HL2.out.mono ?_; rintro e w0 ⟨rfl, e0⟩; subst e0
  clear HL2
  cases q2 : longB r with
  | true =>
    go_wp2_with fail
    refine (HAL.out _ (Below.refl _ _)).mono ?_; rintro e wz ⟨rfl, bz⟩
    have BZ := Lib.hid (below_step (Below.refl _ _) bz)
    clear bz
    go_wp2_with fail
    go_ret
    exact ⟨rfl, BZ.out⟩
  | false =>
  go_wp2_with fail
  refine HH1.out.mono ?_; rintro e w0 ⟨rfl, e0⟩; have e1 := e0.symm; clear e0; subst e1
  clear HH1
  cases q3 : heavyB ss with
  | true =>
    go_wp2_with fail
    refine (HAL.out _ (Below.refl _ _)).mono ?_; rintro e wz ⟨rfl, bz⟩
    have BZ := Lib.hid (below_step (Below.refl _ _) bz)
    clear bz
    go_wp2_with fail
    go_ret
    exact ⟨rfl, BZ.out⟩
  | false =>
  go_wp2_with fail
  refine HH2.out.mono ?_; rintro e w0 ⟨rfl, e0⟩; have e1 := e0.symm; clear e0; subst e1
  clear HH2
  cases q4 : heavyB tt with
  | true =>
    go_wp2_with fail
    refine (HAL.out _ (Below.refl _ _)).mono ?_; rintro e wz ⟨rfl, bz⟩
    have BZ := Lib.hid (below_step (Below.refl _ _) bz)
    clear bz
    go_wp2_with fail
    go_ret
    exact ⟨rfl, BZ.out⟩
  | false =>
  obtain ⟨hl40, hlB⟩ := long_no q1
  obtain ⟨hr40, hrB⟩ := long_no q2
  obtain ⟨hs100, hsz⟩ := heavy_no q3
  obtain ⟨ht100, htz⟩ := heavy_no q4
  have hlz := small_each hlB
  have hrz := small_each hrB
  have HT1 : Hid (∀ V, Below w.heap.size w V → Calls Try.prog 12 #[.slice ao nl cap, .slice so ns sc] V fun e w' => (∃ v L, e = .returned (.tuple #[v, .int .i64 (termsP (l.map bl) ss).2.2]) ∧ OwnT w' V.heap.size v L ∧ L.map bl = (termsP (l.map bl) ss).1) ∧ Below V.heap.size V w') := Lib.hid (fun V hV => by
    rw [HNL.out, HNS.out]
    exact HTR.out ss so sc l ao cap (by omega) hlz (by omega) hsz V (HST.out V hV) (HROW.out V hV))
  have HT2 : Hid ((termsP (l.map bl) ss).2.2 = 0 → ∀ V a c, Below w.heap.size w V → TxtRow V a (l ++ r) → Calls Try.prog 12 #[.slice a (l.length + r.length) c, .slice so ns sc] V fun e w' => (∃ v L, e = .returned (.tuple #[v, .int .i64 (termsP (l.map bl) ss).2.2]) ∧ OwnT w' V.heap.size v L ∧ L.map bl = (termsP (l.map bl) ss).1) ∧ Below V.heap.size V w') := Lib.hid (fun h V a c hV hR => by
    rw [HNS.out, ← List.length_append, ← terms_more (more := r.map bl) h, ← List.map_append]
    exact HTR.out ss so sc (l ++ r) a c (by omega) (fun x hx => (List.mem_append.1 hx).elim (hlz x) (hrz x)) (by rw [List.length_append]; omega) hsz V (HST.out V hV) hR)
  have HT3 : Hid (∀ V a c, Below w.heap.size w V → StpRow V a (ss ++ tt) → Calls Try.prog 12 #[.slice ao nl cap, .slice a (ss.length + tt.length) c] V fun e w' => (∃ v L, e = .returned (.tuple #[v, .int .i64 (termsP (l.map bl) (ss ++ tt)).2.2]) ∧ OwnT w' V.heap.size v L ∧ L.map bl = (termsP (l.map bl) (ss ++ tt)).1) ∧ Below V.heap.size V w') := Lib.hid (fun V a c hV hR => by
    rw [HNL.out, ← List.length_append]
    exact HTR.out (ss ++ tt) a c l ao cap (by rw [List.length_append]; omega) hlz (by omega) (fun x hx => (List.mem_append.1 hx).elim (hsz x) (htz x)) V hR (HROW.out V hV))
  have HTH := Lib.hid (fun (h : (termsP (l.map bl) ss).2.2 = 0) (k : (termsP (l.map bl) (ss ++ tt)).2.2 = 0) => terms_then (tt := tt) h k)
  have HLE : Hid ((termsP (l.map bl) ss).1.length ≤ 100) := Lib.hid (Nat.le_trans terms_le hs100)
  have HB1 : Hid (l.length ≤ 1000000000) := Lib.hid (by omega)
  have HB2 : Hid (l.length + r.length ≤ 1000000000) := Lib.hid (by omega)
  have HB3 : Hid (ss.length ≤ 1000000) := Lib.hid (by omega)
  have HB4 : Hid (ss.length + tt.length ≤ 1000000) := Lib.hid (by omega)
  have HNS100 : Hid (ns ≤ 100 ∧ nt ≤ 100) := Lib.hid (by rw [HNS.out, HNT.out]; exact ⟨hs100, ht100⟩)
  clear q1 q2 q3 q4 hl40 hlB hr40 hrB hs100 hsz ht100 htz hlz hrz HTR
  generalize termsP (l.map bl) ss = T1 at *
  generalize termsP (l.map bl) (ss ++ tt) = T3 at *
  obtain ⟨A1, p1, x⟩ := T1
  obtain ⟨A3, p3, y⟩ := T3
  dsimp only at HT1 HT2 HT3 HTH HLE
  go_wp2_with fail
  refine (HT1.out _ (Below.refl _ _)).mono ?_; rintro e w1 ⟨⟨v1, L1, rfl, o1, e1⟩, b1⟩
  obtain ⟨a1, c1, rfl, r1⟩ := ownT_row o1
  have B1 := Lib.hid b1
  have R1 := Lib.hid r1
  have E1 := Lib.hid e1
  clear HT1 b1 r1 e1 o1
  by_cases hx : x = 0
  case neg =>
    have q5 : ((x : Int) != 0) = true := by rw [bne_iff_ne]; omega
    go_wp2_with fail
    refine (HAL.out _ B1.out).mono ?_; rintro e wz ⟨rfl, bz⟩
    have BZ := Lib.hid (below_step B1.out bz)
    clear bz
    go_wp2_with fail
    go_ret
    exact ⟨rfl, BZ.out⟩
  subst hx
  go_wp2_with (first
    | (at_builtin; refine wpList_appR11 (u := .slice ro nr rc) (v := v2) (l := l) (m := r) (ao := ro) (cap := rc) (B := w1.heap.size) rfl (.tmp 39) (.tmp 40) rfl rfl rfl rfl HU2.out ho2 hb2.size (HRR.out _ (below_step B1.out hb2)) HRP.out HB2.out ?_; intro v3 w3 ho3 hb3; obtain ⟨a3, c3, rfl, hr3⟩ := ownT_row ho3; have K3 := Lib.hid (hb2.trans hb3); have B3 := Lib.hid (below_step B1.out (hb2.trans hb3)); have R3 := Lib.hid hr3; clear ho2 hb2 ho3 hb3 hr3)
    | (at_builtin; refine wpList_copy10 rfl (.tmp 38) rfl ao cap l HU1.out (HROW.out _ B1.out) HB1.out HP.out w1.heap.size (Nat.le_refl _) ?_; intro v2 w2 ho2 hb2 _)
    | fail)
  refine (HT2.out trivial _ a3 c3 B3.out R3.out).mono ?_; rintro e w4 ⟨⟨v4, L4, rfl, o4, e4⟩, b4⟩
  have hLL : L4 = L1 := map_bl_inj11 (e4.trans E1.out.symm)
  subst hLL
  have K4 : Hid (Below w1.heap.size w1 w4) := Lib.hid (K3.out.trans (b4.mono K3.out.size))
  have B4 := Lib.hid (below_step B3.out b4)
  obtain ⟨a4, c4, rfl, r4⟩ := ownT_row o4
  have Q1 := Lib.hid (R1.out.below K4.out)
  have Q4 := Lib.hid r4
  have hl4 : L4.length ≤ 200 := by
    have := HLE.out
    rw [← E1.out, List.length_map] at this
    omega
  have HSA := Lib.hid (fun V (h1 : TxtRow V a1 L4) (h2 : TxtRow V a4 L4) => rsame_any L4 L4 a1 a4 c1 c4 (by omega) (by omega) V h1 h2 true (by simp))
  clear HT2 K3 B3 R3 b4 r4 o4 e4 K4 R1
  go_wp2_with fail
  refine (HSA.out _ Q1.out Q4.out).mono ?_; rintro e w5 ⟨rfl, b5⟩
  have B5 := Lib.hid (below_step B4.out b5)
  have Q5 := Lib.hid (Q1.out.below b5)
  clear b5 B4 HSA Q1 Q4
  go_wp2_with (first
    | (at_builtin; refine wpList_appS (W0 := w5) (v := v6) (u := .slice to nt tc) (l := ss) (m := tt) (ao := to) (cap := tc) rfl (.tmp 57) (.tmp 58) rfl rfl rfl rfl HU4.out hb6 ho6 (HTT.out _ B5.out) HTP.out HB4.out ?_; intro v7 w7 ho7 hb7; have B7 := Lib.hid (below_step B5.out (hb6.trans hb7)); obtain ⟨a7, c7, rfl, hr7, _⟩ := ownSt_row ho7 (hb6.trans hb7); have Q7 := Lib.hid (Q5.out.below (hb6.trans hb7)); have S7 := Lib.hid hr7; clear ho6 hb6 ho7 hb7 hr7)
    | (at_builtin; refine wpList_copyS (W0 := w5) (u := .slice so ns sc) (m := ss) (ao := so) (cap := sc) rfl (.tmp 56) rfl rfl rfl HU3.out (Below.refl _ _) (HST.out _ B5.out) HSP.out HB3.out ?_; intro v6 w6 ho6 hb6)
    | fail)
  refine (HT3.out _ a7 c7 B7.out S7.out).mono ?_; rintro e w8 ⟨⟨v8, L8, rfl, o8, e8⟩, b8⟩
  have B8 := Lib.hid (below_step B7.out b8)
  have Q8 := Lib.hid (Q7.out.below b8)
  obtain ⟨a8, c8, rfl, sh8, hc8, r8⟩ := own_shape o8
  clear HT3 B7 S7 b8 o8 Q7 B5 Q5
  by_cases hy : y = 0
  case neg =>
    have q6 : ((y : Int) != 0) = true := by rw [bne_iff_ne]; omega
    clear hc8 r8 e8 sh8
    go_wp2_with fail
    refine (HAL.out _ B8.out).mono ?_; rintro e wz ⟨rfl, bz⟩
    have BZ := Lib.hid (below_step B8.out bz)
    clear bz
    go_wp2_with fail
    go_ret
    exact ⟨rfl, BZ.out⟩
  subst hy
  obtain ⟨h1, h2⟩ := HTH.out trivial rfl
  have hln : L8.length = ns + nt := by
    have : L8.length = A3.length := by rw [← e8, List.length_map]
    rw [this, h1, HNS.out, HNT.out]
  have htk : L8.take L4.length = L4 := by
    refine map_bl_inj11 ?_
    rw [List.map_take, e8, E1.out]
    have : L4.length = A1.length := by rw [← E1.out, List.length_map]
    rw [this]
    exact h2
  have hle : L4.length ≤ c8 := by
    have : (L8.take L4.length).length = L4.length := by rw [htk]
    rw [List.length_take] at this
    omega
  have KF := cut_front a8 L8.length c8 L4.length sh8 hle
  have hfr := front_row r8 L4.length
  rw [htk] at hfr
  have FR := Lib.hid hfr
  have HSB := Lib.hid (fun V (h1 : TxtRow V a8 L4) (h2 : TxtRow V a1 L4) => rsame_any L4 L4 a8 a1 c8 c1 (by omega) (by omega) V h1 h2 true (by simp))
  rw [hln] at KF
  rw [hln]
  have hwr : IntKind.i64.wrap ((ns : Int) + (nt : Int)) = ((ns + nt : Nat) : Int) := by
    have := HNS100.out
    rw [IntWalk.i64_in _ ⟨by omega, by omega⟩]
    omega
  clear hfr htk hle hln h1 h2 e8 r8 hc8 sh8 HTH
  go_wp2_with fail
  refine (HSB.out _ FR.out Q8.out).mono ?_; rintro e w9 ⟨rfl, b9⟩
  have B9 := Lib.hid (below_step B8.out b9)
  clear b9 B8 KF FR Q8 HSB
  go_wp2_with fail
  refine (HAL.out _ B9.out).mono ?_; rintro e wz ⟨rfl, bz⟩
  have BZ := Lib.hid (below_step B9.out bz)
  clear bz
  go_wp2_with fail
  go_ret
  exact ⟨rfl, BZ.out⟩
end Go.Proofs.Ytpajcalfjfkogaa.Pl
