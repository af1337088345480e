/- How the program reads a ballot, part by part, over plain bytes, and that it is what the document reads; mathematics. -/
import Derived.Test.YtbdlegjklfkdmaaGreatDoorBallA21
namespace Go.Proofs.YtbdlegjklfkdmaaGreatDoor.Pl
open Go.RowKit

theorem txnR_is13 {t : ByteArray} {c e q : Int} (h : txnR t = some (c, e, q)) : mayX c e q = true ∧ bl t = txnT c e q := by
  unfold txnR at h
  split at h
  · rename_i c' e' q' k
    split at h
    · rename_i hm
      simp only [Option.some.injEq, Prod.mk.injEq] at h
      obtain ⟨rfl, rfl, rfl⟩ := h
      obtain ⟨k1, k2, _⟩ := rowR_again k
      have k3 := txnG_again k1
      rw [List.map_nil, List.append_nil] at k3
      rw [k3] at k2
      exact ⟨hm, by unfold txnT; rw [k2]⟩
    · cases h
  · cases h
theorem five_row {s : List UInt8} (h : (partsP s).1.length = 5) : kindP s = 3 := by
  unfold partsP at h
  split at h
  · rename_i hd l k
    obtain ⟨hv, e⟩ := treeOf_at k
    rw [List.length_map] at h
    obtain ⟨c, kd⟩ := head_kind hv.1.1
    rw [h] at kd
    cases kd with
    | row v e1 _ _ => rw [← e, kindh12 hv e1]; rfl
    | data _ _ _ e => omega
    | atom _ _ _ _ e => omega
    | hash _ e => omega
    | mac _ e => omega
    | seal_ _ e => omega
  · cases h
noncomputable def goodBt (p0 p1 p2 p3 p4 : ByteArray) : Bool :=
  decide (p0 = tb (dataP ballotW).1) && ((txnR p1).isSome && ((rdN p2).isSome && ((membersR (txGet (txnR p1)).1 p3).isSome && ((rdN p4).isSome && mayBt (candBt p1 p2 p3 p4)))))
theorem read_good {t p0 p1 p2 p3 p4 : ByteArray} (hp : partsB t = [p0, p1, p2, p3, p4]) : (goodBt p0 p1 p2 p3 p4 = true → readBt t = some (candBt p1 p2 p3 p4)) ∧ (goodBt p0 p1 p2 p3 p4 = false → readBt t = none) := by
  have hk : kindP (bl t) = 3 := five_row (by have := congrArg List.length hp; unfold partsB at this; rw [List.length_map] at this; exact this)
  obtain ⟨h1, h2⟩ := readBt_five hk hp
  have key : goodBt p0 p1 p2 p3 p4 = true ↔ bodyP (candBt p1 p2 p3 p4) = (bl t, 0) := by
    constructor
    · intro h
      unfold goodBt at h
      simp only [Bool.and_eq_true, decide_eq_true_eq, Option.isSome_iff_exists] at h
      obtain ⟨rfl, ⟨⟨c, e, q⟩, k1⟩, ⟨a, k2⟩, ⟨l, k3⟩, ⟨o, k4⟩, hm⟩ := h
      rw [k1] at k3
      have hc : candBt p1 p2 p3 p4 = ⟨c, e, q, a, l, o⟩ := by
        unfold candBt
        rw [k1]
        show (⟨c, e, q, (rdN p2).getD 0, (membersR c p3).getD [], (rdN p4).getD 0⟩ : Bt) = _
        rw [k2, k4, show membersR c p3 = some l from k3]
        rfl
      rw [hc] at hm ⊢
      have e1 := (txnR_is13 k1).2
      have e2 := (rdN_again k2).2.2
      have e3 := (membersR_again (c := c) k3).2
      have e4 := (rdN_again k4).2.2
      obtain ⟨r1, _, _⟩ := row_again hk
      unfold bodyP
      rw [if_neg (by rw [hm]; simp), if_neg (by show ¬ (membersT l).2 ≠ 0; rw [e3]; simp)]
      rw [show bodyL ⟨c, e, q, a, l, o⟩ = (partsP (bl t)).1 from ?_]
      · exact r1
      have hpl : (partsP (bl t)).1 = (partsB t).map bl := by unfold partsB; rw [map_bl_tb]
      rw [hpl, hp]
      unfold bodyL
      simp only [List.map_cons, List.map_nil, bl_tb, e1, e2, e3, e4]
    · intro h
      obtain ⟨hm, h5, _⟩ := body_row h
      obtain ⟨_, hL, _⟩ := body_parts h
      rw [tb_bl, hp] at hL
      unfold bodyL at hL
      simp only [List.map_cons, List.map_nil, List.cons.injEq, and_true] at hL
      obtain ⟨e0, e1, e2, e3, e4⟩ := hL
      generalize candBt p1 p2 p3 p4 = b at *
      obtain ⟨hx, ho, hl, _⟩ := mayBt_iff.1 hm
      have ha := orgP_iff.1 ho
      have hg := orgP_iff.1 (mayBt_org hm)
      have k1 : txnR p1 = some (b.c, b.e, b.q) := by rw [e1]; exact txnR_ok hx
      have k2 : rdN p2 = some b.aud := by rw [e2]; exact (rdN_num ha.1 (by omega)).1
      have k3 : membersR b.c p3 = some b.mem := by rw [e3]; exact membersR_ok hl h5
      have k4 : rdN p4 = some b.org := by rw [e4]; exact (rdN_num hg.1 (by omega)).1
      unfold goodBt
      rw [k1, k2, k4, show (txGet (some (b.c, b.e, b.q))).1 = b.c from rfl, k3, decide_eq_true e0]
      simp only [Option.isSome_some, Bool.true_and]
      unfold candBt
      rw [k1, k2, k4]
      show mayBt ⟨b.c, b.e, b.q, b.aud, (membersR b.c p3).getD [], b.org⟩ = true
      rw [k3]
      exact hm
  exact ⟨fun h => h1 (key.1 h), fun h => h2 (fun e => by rw [key.2 e] at h; cases h)⟩

/-- Where Read stands: whether all is well so far, the parts that are left, the ballot so far. -/
structure RdS where
  z : Bool
  ps : List ByteArray
  b : Bt
def nextS (f : Bt → ByteArray → Bt × Bool) (s : RdS) : RdS :=
  if s.z = false then s else match s.ps with
    | [] => ⟨false, [], s.b⟩
    | p :: r => if (f s.b p).2 = true then ⟨true, r, (f s.b p).1⟩ else ⟨false, p :: r, (f s.b p).1⟩
noncomputable def f0 (b : Bt) (p : ByteArray) : Bt × Bool := (b, decide (p = tb (dataP ballotW).1))
noncomputable def f1 (b : Bt) (p : ByteArray) : Bt × Bool := (⟨(txGet (txnR p)).1, (txGet (txnR p)).2.1, (txGet (txnR p)).2.2, b.aud, b.mem, b.org⟩, (txnR p).isSome)
noncomputable def f2 (b : Bt) (p : ByteArray) : Bt × Bool := (⟨b.c, b.e, b.q, ((readnumP (bl p)).1 : Int), b.mem, b.org⟩, (readnumP (bl p)).2)
noncomputable def f3 (b : Bt) (p : ByteArray) : Bt × Bool := (⟨b.c, b.e, b.q, b.aud, (membersR b.c p).getD [], b.org⟩, (membersR b.c p).isSome)
noncomputable def f4 (b : Bt) (p : ByteArray) : Bt × Bool := (⟨b.c, b.e, b.q, b.aud, b.mem, ((readnumP (bl p)).1 : Int)⟩, (readnumP (bl p)).2)
noncomputable def ownBt (t : ByteArray) : RdS := nextS f4 (nextS f3 (nextS f2 (nextS f1 (nextS f0 ⟨(partsP (bl t)).2, partsB t, zeroBt⟩))))
theorem next_stays {f : Bt → ByteArray → Bt × Bool} {s : RdS} (h : s.z = false) : nextS f s = s := if_pos h
theorem next_out {f : Bt → ByteArray → Bt × Bool} {b : Bt} : nextS f ⟨true, [], b⟩ = ⟨false, [], b⟩ := rfl
theorem next_yes {f : Bt → ByteArray → Bt × Bool} {b : Bt} {p : ByteArray} {r : List ByteArray} (h : (f b p).2 = true) : nextS f ⟨true, p :: r, b⟩ = ⟨true, r, (f b p).1⟩ := by
  unfold nextS
  rw [if_neg (by simp)]
  exact if_pos h
theorem next_not {f : Bt → ByteArray → Bt × Bool} {b : Bt} {p : ByteArray} {r : List ByteArray} (h : (f b p).2 = false) : nextS f ⟨true, p :: r, b⟩ = ⟨false, p :: r, (f b p).1⟩ := by
  unfold nextS
  rw [if_neg (by simp)]
  exact if_neg (by simp [h])
theorem rdN_is (p : ByteArray) : (rdN p).isSome = (readnumP (bl p)).2 ∧ ((readnumP (bl p)).2 = true → (rdN p).getD 0 = ((readnumP (bl p)).1 : Int)) := by
  unfold rdN
  cases h : (readnumP (bl p)).2 with
  | true => exact ⟨rfl, fun _ => rfl⟩
  | false => exact ⟨rfl, fun e => by cases e⟩
theorem parts_no {s : List UInt8} (h : (partsP s).2 = false) : (partsP s).1 = [] := by
  unfold partsP at h ⊢
  split at h
  · cases h
  · rfl
/-- What the program reads is what the document reads. -/
theorem own_read (t : ByteArray) : readBt t = if (ownBt t).z = true ∧ (ownBt t).ps = [] ∧ mayBt (ownBt t).b = true then some (ownBt t).b else none := by
  unfold ownBt
  have hnone : (partsB t).length ≠ 5 → readBt t = none := fun h => readBt_not (fun e => h e.2)
  cases hz : (partsP (bl t)).2 with
  | false =>
    have hp : partsB t = [] := by unfold partsB; rw [parts_no hz]; rfl
    rw [hnone (by rw [hp]; simp), next_stays rfl, next_stays rfl, next_stays rfl, next_stays rfl, next_stays rfl, if_neg (fun e => by cases e.1)]
  | true =>
    generalize hp : partsB t = ps at *
    have fin : ∀ s : RdS, s.z = false → (if s.z = true ∧ s.ps = [] ∧ mayBt s.b = true then some s.b else none) = none := fun s h => if_neg (fun e => by rw [h] at e; cases e.1)
    cases ps with
    | nil => rw [hnone (by simp), next_out, next_stays rfl, next_stays rfl, next_stays rfl, next_stays rfl, fin _ rfl]
    | cons p0 r0 =>
    cases g0 : (f0 zeroBt p0).2 with
    | false =>
      rw [next_not g0, next_stays rfl, next_stays rfl, next_stays rfl, next_stays rfl, fin _ rfl]
      by_cases h5 : (p0 :: r0).length = 5
      · match r0, h5 with
        | [p1, p2, p3, p4], _ => exact (read_good hp).2 (by unfold goodBt; rw [show decide (p0 = tb (dataP ballotW).1) = false from g0]; rfl)
      · exact hnone h5
    | true =>
    rw [next_yes g0]
    cases r0 with
    | nil => rw [hnone (by simp), next_out, next_stays rfl, next_stays rfl, next_stays rfl, fin _ rfl]
    | cons p1 r1 =>
    cases g1 : (f1 zeroBt p1).2 with
    | false =>
      rw [next_not (show (f1 (f0 zeroBt p0).1 p1).2 = false from g1), next_stays rfl, next_stays rfl, next_stays rfl, fin _ rfl]
      by_cases h5 : (p0 :: p1 :: r1).length = 5
      · match r1, h5 with
        | [p2, p3, p4], _ => exact (read_good hp).2 (by unfold goodBt; rw [show (txnR p1).isSome = false from g1]; simp)
      · exact hnone h5
    | true =>
    rw [next_yes (show (f1 (f0 zeroBt p0).1 p1).2 = true from g1)]
    cases r1 with
    | nil => rw [hnone (by simp), next_out, next_stays rfl, next_stays rfl, fin _ rfl]
    | cons p2 r2 =>
    generalize hb1 : (f1 (f0 zeroBt p0).1 p1).1 = b1 at *
    have hc1 : b1.c = (txGet (txnR p1)).1 := by rw [← hb1]; rfl
    cases g2 : (f2 b1 p2).2 with
    | false =>
      rw [next_not g2, next_stays rfl, next_stays rfl, fin _ rfl]
      by_cases h5 : (p0 :: p1 :: p2 :: r2).length = 5
      · match r2, h5 with
        | [p3, p4], _ => exact (read_good hp).2 (by unfold goodBt; rw [(rdN_is p2).1, show (readnumP (bl p2)).2 = false from g2]; simp)
      · exact hnone h5
    | true =>
    rw [next_yes g2]
    cases r2 with
    | nil => rw [hnone (by simp), next_out, next_stays rfl, fin _ rfl]
    | cons p3 r3 =>
    cases g3 : (membersR b1.c p3).isSome with
    | false =>
      rw [next_not (show (f3 (f2 b1 p2).1 p3).2 = false from g3), next_stays rfl, fin _ rfl]
      by_cases h5 : (p0 :: p1 :: p2 :: p3 :: r3).length = 5
      · match r3, h5 with
        | [p4], _ => exact (read_good hp).2 (by unfold goodBt; rw [← hc1, g3]; simp)
      · exact hnone h5
    | true =>
    rw [next_yes (show (f3 (f2 b1 p2).1 p3).2 = true from g3)]
    cases r3 with
    | nil => rw [hnone (by simp), next_out, fin _ rfl]
    | cons p4 r4 =>
    cases g4 : (readnumP (bl p4)).2 with
    | false =>
      rw [next_not (show (f4 (f3 (f2 b1 p2).1 p3).1 p4).2 = false from g4), fin _ rfl]
      by_cases h5 : (p0 :: p1 :: p2 :: p3 :: p4 :: r4).length = 5
      · match r4, h5 with
        | [], _ => exact (read_good hp).2 (by unfold goodBt; rw [(rdN_is p4).1, g4]; simp)
      · exact hnone h5
    | true =>
    rw [next_yes (show (f4 (f3 (f2 b1 p2).1 p3).1 p4).2 = true from g4)]
    cases r4 with
    | cons p5 r5 => rw [hnone (by simp), if_neg (fun e => by cases e.2.1)]
    | nil =>
      have hb : (f4 (f3 (f2 b1 p2).1 p3).1 p4).1 = candBt p1 p2 p3 p4 := by
        show (⟨b1.c, b1.e, b1.q, ((readnumP (bl p2)).1 : Int), (membersR b1.c p3).getD [], ((readnumP (bl p4)).1 : Int)⟩ : Bt) = _
        rw [← (rdN_is p2).2 g2, ← (rdN_is p4).2 g4, ← hb1]
        rfl
      rw [hb]
      have hgd : goodBt p0 p1 p2 p3 p4 = mayBt (candBt p1 p2 p3 p4) := by
        unfold goodBt
        rw [show decide (p0 = tb (dataP ballotW).1) = true from g0, show (txnR p1).isSome = true from g1, (rdN_is p2).1, show (readnumP (bl p2)).2 = true from g2, ← hc1, g3, (rdN_is p4).1, g4]
        rfl
      cases hm : mayBt (candBt p1 p2 p3 p4) with
      | true => rw [(read_good hp).1 (by rw [hgd, hm])]; exact (if_pos ⟨rfl, rfl, rfl⟩).symm
      | false => rw [(read_good hp).2 (by rw [hgd, hm])]; exact (if_neg (fun e => by cases e.2.2)).symm
end Go.Proofs.YtbdlegjklfkdmaaGreatDoor.Pl
