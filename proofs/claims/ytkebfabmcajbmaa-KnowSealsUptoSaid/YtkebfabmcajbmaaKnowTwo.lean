/- Two who have seen some texts, in memory of their own; what the laws of layer 10 say of them. -/
import Derived.Test.YtkebfabmcajbmaaKnowOrderP
namespace Go.Proofs.Ytkebfabmcajbmaa.Pl
open Go.RowKit

structure Two (S : Nat) (w : World) (F G : Nat → Prop) (p q : Nat) (H K : List (List UInt8)) : Prop where
  fst : KnowAt w F p H
  snd : KnowAt w G q K
  apart : ∀ b, F b → G b → False
  lowF : ∀ b, F b → S ≤ b
  lowG : ∀ b, G b → S ≤ b
theorem Two.below {S : Nat} {w w' : World} {F G : Nat → Prop} {p q : Nat} {H K : List (List UInt8)} (h : Two S w F G p q H K) (hb : Below w.heap.size w w') : Two S w' F G p q H K :=
  ⟨h.fst.kept hb.size (fun b hlt _ => hb.block b hlt), h.snd.kept hb.size (fun b hlt _ => hb.block b hlt), h.apart, h.lowF, h.lowG⟩
theorem Two.turn {S : Nat} {w w' : World} {F G G' : Nat → Prop} {p q : Nat} {H K K' : List (List UInt8)} (h : Two S w F G p q H K) (hS : S ≤ w.heap.size) (hk : KnowAt w' G' q K') (hG : ∀ b, G' b → G b ∨ w.heap.size ≤ b) (ht : Turn G w w') : Two S w' F G' p q H K' :=
  ⟨h.fst.kept ht.size (fun b hlt hf => ht.block b hlt (fun hg => h.apart b hf hg)), hk, fun b hf hg => (hG b hg).elim (h.apart b hf) (fun e => by have := h.fst.foot b hf; omega), h.lowF, fun b hg => (hG b hg).elim (h.lowG b) (fun e => Nat.le_trans hS e)⟩
theorem Two.swap {S : Nat} {w : World} {F G : Nat → Prop} {p q : Nat} {H K : List (List UInt8)} (h : Two S w F G p q H K) : Two S w G F q p K H := ⟨h.snd, h.fst, fun b a c => h.apart b c a, h.lowG, h.lowF⟩
theorem two_new {S : Nat} {w w' : World} {F G : Nat → Prop} {p q : Nat} {H K : List (List UInt8)} (h : KnowAt w F p H) (hF : ∀ b, F b → S ≤ b) (hS : S ≤ w.heap.size) (hb : Below w.heap.size w w') (k : KnowAt w' G q K) (hG : ∀ b, G b → w.heap.size ≤ b) : Two S w' F G p q H K :=
  ⟨h.kept hb.size (fun b hlt _ => hb.block b hlt), k, fun b hf hg => by
    have h1 := h.foot b hf
    have h2 := hG b hg
    omega, hF, fun b hg => Nat.le_trans hS (hG b hg)⟩
theorem list_len {H : List (List UInt8)} {L : List ByteArray} (h : SortK H (L.map bl)) : L.length = cntP H := by
  rw [← cnt_eq (sortK_isK h), List.length_map]
theorem list_small {H : List (List UInt8)} {L : List ByteArray} (h : SortK H (L.map bl)) : ∀ x ∈ L, x.size ≤ 16384 := by
  intro x hx
  obtain ⟨y, hy, e⟩ := (h.2 (bl x)).1 (List.mem_map_of_mem hx)
  rw [← bl_length, ← e]
  exact (cl_valid hy).2.2
theorem seen_cnt {l : List (List UInt8)} (hl : (l.map List.length).sum ≤ 6000) : cntP (learns [] l) ≤ 2000 := by
  have := cnt_sub (H := learns [] l) (K := l) (fun s hs => (learns_sub l [] s hs).elim id (fun h => by cases h))
  omega
theorem long_each {l : List ByteArray} (hl : ((l.map bl).map List.length).sum ≤ 6000) (k : Nat) (hk : k < l.length) : l[k].size ≤ 6000 := by
  have hk' : k < (l.map bl).length := by rw [List.length_map]; exact hk
  have e : (l.map bl)[k] = bl l[k] := by simp
  have h2 := sum_front (l.map bl) (k + 1)
  rw [List.take_succ_eq_append_getElem hk', List.map_append, List.sum_append, e] at h2
  simp only [List.map_cons, List.map_nil, List.sum_cons, List.sum_nil, bl_length] at h2
  omega
end Go.Proofs.Ytkebfabmcajbmaa.Pl
