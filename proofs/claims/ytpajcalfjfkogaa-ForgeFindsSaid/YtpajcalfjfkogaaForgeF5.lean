/- The steps that How lays make what they are to make, and how many terms there can be; plain mathematics alone. What the finding of steps keeps in memory: the rows and maps of a maker. -/
import Derived.Test.YtpajcalfjfkogaaForgeF4
import Derived.Test.YtpajcalfjfkogaaForgeF3
import Derived.Laws.AppendOwn
namespace Go.Proofs.Ytpajcalfjfkogaa.Pl

/-- A step but for its indices. -/
def stp0 (f : Nat) (n : Int) (text : ByteArray) : Stp := ⟨f, 0, 0, 0, n, text, []⟩
def emp : ByteArray := ⟨#[]⟩
theorem termAt_nat (l : List (List UInt8)) (i : Nat) : termAt l (i : Int) = l.getD i [] := by
  unfold termAt
  rw [Int.toNat_natCast]
variable {was : List (List UInt8)}
theorem one_idx {l : List (List UInt8)} {is : List Nat} {a : List UInt8} (he : is.map (fun i => l.getD i []) = [a]) (hl : ∀ i ∈ is, i < l.length) : ∃ i, is = [i] ∧ i < l.length ∧ l.getD i [] = a := by
  match is, he with
  | [i], he => exact ⟨i, rfl, hl i (by simp), by simpa using he⟩
theorem two_idx {l : List (List UInt8)} {is : List Nat} {a b : List UInt8} (he : is.map (fun i => l.getD i []) = [a, b]) (hl : ∀ i ∈ is, i < l.length) : ∃ i j, is = [i, j] ∧ (i < l.length ∧ l.getD i [] = a) ∧ j < l.length ∧ l.getD j [] = b := by
  match is, he with
  | [i, j], he =>
    simp only [List.map_cons, List.map_nil, List.cons.injEq, and_true] at he
    exact ⟨i, j, rfl, ⟨hl i (by simp), he.1⟩, hl j (by simp), he.2⟩
theorem three_idx {l : List (List UInt8)} {is : List Nat} {a b c : List UInt8} (he : is.map (fun i => l.getD i []) = [a, b, c]) (hl : ∀ i ∈ is, i < l.length) : ∃ i j k, is = [i, j, k] ∧ (i < l.length ∧ l.getD i [] = a) ∧ (j < l.length ∧ l.getD j [] = b) ∧ k < l.length ∧ l.getD k [] = c := by
  match is, he with
  | [i, j, k], he =>
    simp only [List.map_cons, List.map_nil, List.cons.injEq, and_true] at he
    exact ⟨i, j, k, rfl, ⟨hl i (by simp), he.1⟩, ⟨hl j (by simp), he.2.1⟩, hl k (by simp), he.2.2⟩
theorem named_yes {i k : Nat} (h : i < k) : namedP true (i : Int) k = true := by
  simp only [namedP, if_true, Bool.and_eq_true, decide_eq_true_eq]
  omega
theorem named_no (k : Nat) : namedP false 0 k = true := by simp [namedP]
theorem makes_seen {n : Nat} (hn : n < was.length) (hc : checkP (was.getD n []) = 0) : Makes was ⟨was.getD n [], stp0 1 n emp, []⟩ := by
  refine ⟨by simp, by show emp.size ≤ 1024; decide, ?_⟩
  intro l is _ he
  obtain rfl : is = [] := by simpa using he
  have hr : referP (stp0 1 n emp) (idx []) = stp0 1 n emp := rfl
  have hm : maySt (stp0 1 n emp) l.length = true := by simp [maySt, stp0, namesK, namesA, namesB, namesC, namesN, namesT, namesL, namedP, emp, ByteArray.size]
  rw [hr, oneP, if_pos hm, step1 _ _ rfl]
  rw [show (stp0 1 n emp).n = (n : Int) from rfl, if_pos (by omega), termAt_nat, if_pos hc]
theorem makes_part {h : List UInt8} {l' : List Tm} (hv : (Tm.node h l').valid) (h3 : h.head? = some 114) {j : Nat} (hj : j < l'.length) : Makes was ⟨(l'[j]).enc, stp0 3 j emp, [(Tm.node h l').enc]⟩ := by
  refine ⟨by simp <;> omega, by show emp.size ≤ 1024; decide, ?_⟩
  intro l is hl he
  obtain ⟨i, rfl, h1, h2⟩ := one_idx he hl
  have hr : referP (stp0 3 j emp) (idx [i]) = { stp0 3 j emp with a := (i : Int) } := rfl
  have hm : maySt { stp0 3 j emp with a := (i : Int) } l.length = true := by simp [maySt, stp0, namesK, namesA, namesB, namesC, namesN, namesT, namesL, namedP, emp, ByteArray.size, h1]
  obtain ⟨c, hk, hkd⟩ := kd_node hv
  have hc : c = 3 := (kd_first hk).2.2.1.2 h3
  rw [hr, oneP, if_pos hm, step3 _ _ rfl]
  rw [show ({ stp0 3 j emp with a := (i : Int) } : Stp).a = (i : Int) from rfl, show ({ stp0 3 j emp with a := (i : Int) } : Stp).n = (j : Int) from rfl, termAt_nat, h2, if_pos (hkd.trans hc), parts_node hv]
  rw [if_pos (by simp only [List.length_map]; omega)]
  simp [List.getD_eq_getElem?_getD, hj]
theorem makes_nonce {k n x : Tm} (hv : (sealT k n x).valid) : Makes was ⟨n.enc, stp0 4 0 emp, [(sealT k n x).enc]⟩ := by
  refine ⟨by simp <;> omega, by show emp.size ≤ 1024; decide, ?_⟩
  intro l is hl he
  obtain ⟨i, rfl, h1, h2⟩ := one_idx he hl
  have hr : referP (stp0 4 0 emp) (idx [i]) = { stp0 4 0 emp with a := (i : Int) } := rfl
  have hm : maySt { stp0 4 0 emp with a := (i : Int) } l.length = true := by simp [maySt, stp0, namesK, namesA, namesB, namesC, namesN, namesT, namesL, namedP, emp, ByteArray.size, h1]
  obtain ⟨c, hk, hkd⟩ := kd_node hv
  have hc : c = 6 := (kd_first hk).2.2.2.2 rfl
  rw [hr, oneP, if_pos hm, step4 _ _ rfl]
  rw [show ({ stp0 4 0 emp with a := (i : Int) } : Stp).a = (i : Int) from rfl, termAt_nat, h2, if_pos (hkd.trans hc), parts_node hv]
  rfl
theorem makes_body {k n x : Tm} (hv : (sealT k n x).valid) : Makes was ⟨x.enc, stp0 5 0 emp, [(sealT k n x).enc, k.enc]⟩ := by
  refine ⟨by simp <;> omega, by show emp.size ≤ 1024; decide, ?_⟩
  intro l is hl he
  obtain ⟨i, j, rfl, ⟨h1, h2⟩, h3, h4⟩ := two_idx he hl
  have hr : referP (stp0 5 0 emp) (idx [i, j]) = { stp0 5 0 emp with a := (i : Int), b := (j : Int) } := rfl
  have hm : maySt { stp0 5 0 emp with a := (i : Int), b := (j : Int) } l.length = true := by simp [maySt, stp0, namesK, namesA, namesB, namesC, namesN, namesT, namesL, namedP, emp, ByteArray.size, h1, h3]
  obtain ⟨c, hk, hkd⟩ := kd_node hv
  have hc : c = 6 := (kd_first hk).2.2.2.2 rfl
  rw [hr, oneP, if_pos hm, step5 _ _ rfl]
  rw [show ({ stp0 5 0 emp with a := (i : Int), b := (j : Int) } : Stp).a = (i : Int) from rfl, show ({ stp0 5 0 emp with a := (i : Int), b := (j : Int) } : Stp).b = (j : Int) from rfl, termAt_nat, termAt_nat, h2, h4, if_pos (hkd.trans hc), parts_node hv]
  exact if_pos rfl

/-! ### What is composed -/
/-- Which step makes terms of a kind of their parts; 0: none does. -/
def doOf (c : Nat) : Nat := if c = 1 then 2 else if c = 3 then 6 else if c = 4 then 7 else if c = 5 then 8 else if c = 6 then 9 else 0
theorem makes_data {t : List UInt8} (h : t.length ≤ 1024) : Makes was ⟨(Tm.node (100 :: txt t) []).enc, stp0 2 0 ⟨t.toArray⟩, []⟩ := by
  refine ⟨by simp, by show (⟨t.toArray⟩ : ByteArray).size ≤ 1024; simpa [ByteArray.size] using h, ?_⟩
  intro l is _ he
  obtain rfl : is = [] := by simpa using he
  have hr : referP (stp0 2 0 ⟨t.toArray⟩) (idx []) = stp0 2 0 ⟨t.toArray⟩ := rfl
  have hm : maySt (stp0 2 0 ⟨t.toArray⟩) l.length = true := by simp [maySt, stp0, namesK, namesA, namesB, namesC, namesN, namesT, namesL, namedP]
  rw [hr, oneP, if_pos hm, step2 _ _ rfl]
  rw [show (stp0 2 0 ⟨t.toArray⟩).text = ⟨t.toArray⟩ from rfl, show bl (⟨t.toArray⟩ : ByteArray) = t from by simp [bl], dataP, if_neg (by omega), Tm.enc_node]
  simp [encs]
theorem makes_hash {x : Tm} (hv : (Tm.node [104] [x]).valid) : Makes was ⟨(Tm.node [104] [x]).enc, stp0 7 0 emp, [x.enc]⟩ := by
  refine ⟨by simp <;> omega, by show emp.size ≤ 1024; decide, ?_⟩
  intro l is hl he
  obtain ⟨i, rfl, h1, h2⟩ := one_idx he hl
  have hr : referP (stp0 7 0 emp) (idx [i]) = { stp0 7 0 emp with a := (i : Int) } := rfl
  have hm : maySt { stp0 7 0 emp with a := (i : Int) } l.length = true := by simp [maySt, stp0, namesK, namesA, namesB, namesC, namesN, namesT, namesL, namedP, emp, ByteArray.size, h1]
  rw [hr, oneP, if_pos hm, step7 _ _ rfl]
  rw [show ({ stp0 7 0 emp with a := (i : Int) } : Stp).a = (i : Int) from rfl, termAt_nat, h2]
  exact made_again hv
theorem makes_mac {x y : Tm} (hv : (Tm.node [109] [x, y]).valid) : Makes was ⟨(Tm.node [109] [x, y]).enc, stp0 8 0 emp, [x.enc, y.enc]⟩ := by
  refine ⟨by simp <;> omega, by show emp.size ≤ 1024; decide, ?_⟩
  intro l is hl he
  obtain ⟨i, j, rfl, ⟨h1, h2⟩, h3, h4⟩ := two_idx he hl
  have hr : referP (stp0 8 0 emp) (idx [i, j]) = { stp0 8 0 emp with a := (i : Int), b := (j : Int) } := rfl
  have hm : maySt { stp0 8 0 emp with a := (i : Int), b := (j : Int) } l.length = true := by simp [maySt, stp0, namesK, namesA, namesB, namesC, namesN, namesT, namesL, namedP, emp, ByteArray.size, h1, h3]
  rw [hr, oneP, if_pos hm, step8 _ _ rfl]
  rw [show ({ stp0 8 0 emp with a := (i : Int), b := (j : Int) } : Stp).a = (i : Int) from rfl, show ({ stp0 8 0 emp with a := (i : Int), b := (j : Int) } : Stp).b = (j : Int) from rfl, termAt_nat, termAt_nat, h2, h4]
  exact made_again hv
theorem makes_seal {x y z : Tm} (hv : (Tm.node [115] [x, y, z]).valid) : Makes was ⟨(Tm.node [115] [x, y, z]).enc, stp0 9 0 emp, [x.enc, y.enc, z.enc]⟩ := by
  refine ⟨by simp <;> omega, by show emp.size ≤ 1024; decide, ?_⟩
  intro l is hl he
  obtain ⟨i, j, k, rfl, ⟨h1, h2⟩, ⟨h3, h4⟩, h5, h6⟩ := three_idx he hl
  have hr : referP (stp0 9 0 emp) (idx [i, j, k]) = { stp0 9 0 emp with a := (i : Int), b := (j : Int), c := (k : Int) } := rfl
  have hm : maySt { stp0 9 0 emp with a := (i : Int), b := (j : Int), c := (k : Int) } l.length = true := by simp [maySt, stp0, namesK, namesA, namesB, namesC, namesN, namesT, namesL, namedP, emp, ByteArray.size, h1, h3, h5]
  rw [hr, oneP, if_pos hm, step9 _ _ rfl]
  rw [show ({ stp0 9 0 emp with a := (i : Int), b := (j : Int), c := (k : Int) } : Stp).a = (i : Int) from rfl, show ({ stp0 9 0 emp with a := (i : Int), b := (j : Int), c := (k : Int) } : Stp).b = (j : Int) from rfl, show ({ stp0 9 0 emp with a := (i : Int), b := (j : Int), c := (k : Int) } : Stp).c = (k : Int) from rfl, termAt_nat, termAt_nat, termAt_nat, h2, h4, h6]
  exact made_again hv
theorem makes_row {v : Nat} {l' : List Tm} (hv : (Tm.node (114 :: enc v) l').valid) (h32 : v ≤ 32) (hl' : l'.length = v) : Makes was ⟨(Tm.node (114 :: enc v) l').enc, stp0 6 0 emp, l'.map Tm.enc⟩ := by
  refine ⟨by simp <;> omega, by show emp.size ≤ 1024; decide, ?_⟩
  intro l is hl he
  have hlen : is.length = v := by
    have := congrArg List.length he
    simpa [hl'] using this
  have hr : referP (stp0 6 0 emp) (idx is) = { stp0 6 0 emp with list := idx is } := rfl
  have hall : (idx is).all (fun v => decide (0 ≤ v) && decide (v < l.length)) = true := by
    rw [List.all_eq_true]
    intro z hz
    obtain ⟨i, hi, rfl⟩ := List.mem_map.1 hz
    have := hl i hi
    simp only [Bool.and_eq_true, decide_eq_true_eq]
    omega
  have hm : maySt { stp0 6 0 emp with list := idx is } l.length = true := by
    simp only [maySt, Bool.and_eq_true]
    refine ⟨⟨⟨⟨⟨⟨⟨rfl, rfl⟩, rfl⟩, rfl⟩, rfl⟩, rfl⟩, rfl⟩, ?_⟩
    exact hall
  rw [hr, oneP, if_pos hm, step6 _ _ rfl]
  have ht : ((({ stp0 6 0 emp with list := idx is } : Stp).list).take 33).map (termAt l) = l'.map Tm.enc := by
    rw [show ({ stp0 6 0 emp with list := idx is } : Stp).list = idx is from rfl, List.take_of_length_le (by unfold idx; rw [List.length_map]; omega)]
    refine Eq.trans ?_ he
    unfold idx
    rw [List.map_map]
    exact List.map_congr_left fun i _ => termAt_nat l i
  rw [ht, rowP, List.length_map, hl']
  exact made_again hv
/-- The step that composes a tree: its text, its kind. -/
theorem makes_node {h : List UInt8} {l : List Tm} (hv : (Tm.node h l).valid) {c : Nat} (hk : Kd h l.length c) (h2 : c ≠ 2) : ∃ tx, ((c = 1 ∧ h = 100 :: txt tx ∧ tx.length ≤ 1024 ∧ l = []) ∨ (c ≠ 1 ∧ tx = [])) ∧ 1 ≤ doOf c ∧ Makes was ⟨(Tm.node h l).enc, stp0 (doOf c) 0 ⟨tx.toArray⟩, l.map Tm.enc⟩ := by
  rcases hk with ⟨t, rfl, ht, h0⟩ | ⟨t, rfl, _, _, h0⟩ | ⟨v, rfl, hv32, h0⟩ | ⟨rfl, h0⟩ | ⟨rfl, h0⟩ | ⟨rfl, h0⟩
  · obtain rfl := List.length_eq_zero_iff.1 h0
    exact ⟨t, .inl ⟨rfl, rfl, ht, rfl⟩, by decide, makes_data ht⟩
  · exact absurd rfl h2
  · exact ⟨[], .inr ⟨by decide, rfl⟩, by decide, makes_row hv hv32 h0⟩
  · match l, h0 with
    | [x], _ => exact ⟨[], .inr ⟨by decide, rfl⟩, by decide, makes_hash hv⟩
  · match l, h0 with
    | [x, y], _ => exact ⟨[], .inr ⟨by decide, rfl⟩, by decide, makes_mac hv⟩
  · match l, h0 with
    | [x, y, z], _ => exact ⟨[], .inr ⟨by decide, rfl⟩, by decide, makes_seal hv⟩

/-! ### How many -/
mutual
def subsT : Tm → List Tm
  | .node h l => .node h l :: subsTs l
def subsTs : List Tm → List Tm
  | [] => []
  | t :: l => subsT t ++ subsTs l
end
theorem mem_subsTs {y : Tm} : ∀ {l : List Tm}, y ∈ subsTs l ↔ ∃ t ∈ l, y ∈ subsT t
  | [] => by simp [subsTs]
  | t :: l => by rw [subsTs, List.mem_append, mem_subsTs]; simp
theorem subs_self (t : Tm) : t ∈ subsT t := by
  obtain ⟨h, l⟩ := t
  rw [subsT]
  exact List.mem_cons_self
theorem subs_part : ∀ (T : Tm) (h : List UInt8) (l : List Tm), Tm.node h l ∈ subsT T → ∀ t ∈ l, t ∈ subsT T := by
  refine Tm.ind fun hd ls ih h l hin t ht => ?_
  rw [subsT] at hin ⊢
  rcases List.mem_cons.1 hin with e | hin
  · injection e with _ e
    subst e
    exact List.mem_cons.2 (.inr (mem_subsTs.2 ⟨t, ht, subs_self t⟩))
  · obtain ⟨u, hu, hin⟩ := mem_subsTs.1 hin
    exact List.mem_cons.2 (.inr (mem_subsTs.2 ⟨u, hu, ih u hu h l hin t ht⟩))
theorem subsTs_len : ∀ l : List Tm, (∀ t ∈ l, (subsT t).length ≤ t.enc.length) → (subsTs l).length ≤ (encs l).length
  | [], _ => Nat.le_refl _
  | t :: l, h => by
    have h1 := h t (List.mem_cons.2 (.inl rfl))
    have h2 := subsTs_len l fun u hu => h u (List.mem_cons.2 (.inr hu))
    rw [subsTs, encs, List.length_append, List.length_append]
    omega
theorem subs_len : ∀ t : Tm, t.good → (subsT t).length ≤ t.enc.length := by
  refine Tm.ind fun hd l ih hg => ?_
  have hg' := hg
  simp only [Tm.good] at hg'
  have h1 : 1 ≤ hd.length := List.length_pos_iff.2 hg'.1.pos
  have h2 := subsTs_len l fun t ht => ih t ht (goods_mem hg'.2 t ht)
  rw [subsT, Tm.enc_node, List.length_append, List.length_cons]
  omega
/-- All that stands in some texts. -/
noncomputable def allS (L : List (List UInt8)) : List Tm := L.flatMap fun s => match treeOf s with | some t => subsT t | none => []
theorem allS_len : ∀ L : List (List UInt8), (allS L).length ≤ (L.map List.length).sum
  | [] => Nat.le_refl _
  | s :: L => by
    have h2 := allS_len L
    unfold allS at h2 ⊢
    rw [List.flatMap_cons, List.length_append, List.map_cons, List.sum_cons]
    have h1 : (match treeOf s with | some t => subsT t | none => [] : List Tm).length ≤ s.length := by
      by_cases h : checkP s = 0
      · obtain ⟨t, ht, rfl⟩ := check_iff.1 h
        rw [treeOf_enc ht]
        exact subs_len t ht.1
      · rw [treeOf_none h]
        exact Nat.zero_le _
    omega
/-- What stands in one of them. -/
def InS (L : List (List UInt8)) (T : Tm) : Prop := T ∈ allS L
theorem inS_part {L : List (List UInt8)} {h : List UInt8} {l : List Tm} (k : InS L (.node h l)) : ∀ t ∈ l, InS L t := by
  obtain ⟨s, hs, k⟩ := List.mem_flatMap.1 k
  intro t ht
  refine List.mem_flatMap.2 ⟨s, hs, ?_⟩
  cases e : treeOf s with
  | none => rw [e] at k; cases k
  | some T =>
    rw [e] at k
    exact subs_part T h l k t ht
theorem inS_self {L : List (List UInt8)} {T : Tm} (hT : T.valid) (k : T.enc ∈ L) : InS L T := by
  refine List.mem_flatMap.2 ⟨T.enc, k, ?_⟩
  rw [treeOf_enc hT]
  exact subs_self T
theorem keys_few {L : List (List UInt8)} {E : List Ent} (h : Good was (InS L) E) {T : List (List UInt8)} (hn : T.Nodup) (hs : ∀ t ∈ T, t ∈ keysE E) : T.length ≤ (L.map List.length).sum := by
  refine Nat.le_trans (nodup_len (C := (allS L).map Tm.enc) hn fun t ht => ?_) (by rw [List.length_map]; exact allS_len L)
  obtain ⟨T', _, h2, h3⟩ := h.inU t (hs t ht)
  exact List.mem_map.2 ⟨T', h2, h3⟩
end Go.Proofs.Ytpajcalfjfkogaa.Pl

namespace Go.Proofs.Ytpajcalfjfkogaa.Pl
open Go.RowKit

/-- One more value is appended: where the longer row lies. -/
theorem appL_run {t e : TypeId} {i0 : TypeInfo} {z : Value} {size bytes : Nat} (ht : Try.prog.underlying t = some (.slice e)) (hi : Try.prog.info? e = some i0) (hz0 : i0.zero = some z) (hz1 : i0.size = size) (hz2 : i0.bytes = bytes) (hzs : z.cells.size = size) (hpos : 0 < size) (hby : bytes ≤ 1000)
    {W1 : World} {n₀ n : Nat} {v : Value} {xs : List Value} (cs : Array Value) (hnl : cs.size = size) (h1 : ∀ u ∈ cs.toList, u.oneCell' = true) (hrow : W1.ownsRow n₀ e size v n xs) (hn : n₀ ≤ W1.heap.size) (hl : n ≤ 1000000000) :
    ∃ v' w', (Builtin.append_ #[t, t] t #[v, .slice (some ⟨W1.heap.size, 0, none⟩) 1 1]).run Try.prog (W1.alloc (.cells cs e)) = .ok v' w' ∧ w'.ownsRow n₀ e size v' (n + 1) (xs ++ cs.toList) ∧
      (W1.alloc (.cells cs e)).grownBy w' v.ownBlock ∧ ((v'.ownBlock = v.ownBlock ∧ v.ownBlock ≠ none) ∨ (v'.ownBlock = some (W1.heap.size + 1) ∧ (W1.alloc (.cells cs e)).grownBy w' none)) := by
  have hnews : ∀ (j : Nat) (u : Value), cs.toList[j]? = some u → (W1.alloc (.cells cs e)).cell? ((⟨W1.heap.size, 0, none⟩ : Addr).add j) = some u := by
    intro j u hj
    have ha := Go.heap_alloc_new W1 (.cells cs e)
    rw [addr_add, Nat.zero_add]
    unfold World.cell?
    simp only [ha]
    simpa using hj
  have hb1 : (n + 1) * bytes ≤ 140737488355328 := Nat.le_trans (Nat.mul_le_mul_left _ hby) (by omega)
  obtain ⟨v', w', hrun, hown', hgrow, _⟩ := run_append_own (P := Try.prog) (W1.alloc (.cells cs e)) n₀ t t e i0 z size bytes ht hi hz0 hz1 hz2 hzs hpos v n xs (World.ownsRow.alloc hrow _) ⟨W1.heap.size, 0, none⟩ 1 1 cs.toList (by simpa using hnl) hnews h1 (by unfold maxLen; omega) hb1 (by simp; omega)
  refine ⟨v', w', hrun, hown', hgrow, ?_⟩
  have hrow2 := World.ownsRow.alloc hrow (.cells cs e)
  rcases hrow2.2 with ⟨rfl, h0⟩ | ⟨g, cap, cur, rfl, hbg, hg, hnc, hcm, hcs, htake⟩
  · right
    have hr := run_append_nil (P := Try.prog) (W1.alloc (.cells cs e)) t t e i0 z ht hi hz0 ⟨W1.heap.size, 0, none⟩ 1 1 cs.toList (by rw [hz1]; simpa using hnl) hnews (by omega) (by omega) (by rw [hz2]; omega)
    rw [hrun] at hr
    injection hr with h1 h2
    refine ⟨by rw [h1]; simp [Value.ownBlock], hgrow⟩
  · by_cases hroom : n + 1 ≤ cap
    · left
      have hfit : n * i0.size + cs.toList.length ≤ cur.size := by
        rw [hz1, hcs, Array.length_toList, hnl, ← Nat.succ_mul]
        exact Nat.mul_le_mul_right _ hroom
      have hr := run_append_room (P := Try.prog) (W1.alloc (.cells cs e)) t t e i0 ht hi g n cap cur hg ⟨W1.heap.size, 0, none⟩ 1 1 cs.toList (by rw [hz1]; simpa using hnl) hnews h1 hroom hfit
      rw [hrun] at hr
      injection hr with h1 h2
      exact ⟨by rw [h1]; rfl, by simp [Value.ownBlock]⟩
    · right
      have hr := run_append_grow (P := Try.prog) (W1.alloc (.cells cs e)) t t e i0 z ht hi hz0 ⟨g, 0, none⟩ n cap xs (by rw [hz1]; exact hrow2.1) (hrow2.cells (g := g) rfl) ⟨W1.heap.size, 0, none⟩ 1 1 cs.toList (by rw [hz1]; simpa using hnl) hnews (by omega) (by omega) (by rw [hz2]; exact growslice_fits (by omega) hb1)
      rw [hrun] at hr
      injection hr with h1 h2
      refine ⟨by rw [h1]; simp [Value.ownBlock], ?_⟩
      rw [h2]
      exact ⟨rfl, rfl, rfl, by simp, fun k hk _ => Below.heap_alloc _ _ k hk⟩
theorem infoClosed : (Try.prog.info? 99).map (fun i => (i.zero, i.size, i.bytes)) = some (some (.agg #[.string ⟨#[]⟩, .string ⟨#[]⟩, .string ⟨#[]⟩]), 3, 48) := by kernel_rfl
abbrev shutV (c : Shut) : Array Value := #[.string (tb10 c.t), .string (tb10 c.k), .string (tb10 c.b)]
def flatC : List Shut → List Value
  | [] => []
  | c :: S => .string (tb10 c.t) :: .string (tb10 c.k) :: .string (tb10 c.b) :: flatC S
theorem flatC_snoc (c : Shut) : ∀ S : List Shut, flatC (S ++ [c]) = flatC S ++ (shutV c).toList
  | [] => rfl
  | d :: S => by
    rw [List.cons_append, flatC, flatC_snoc c S]
    rfl
theorem flatC_at : ∀ (S : List Shut) (j : Nat), (hj : j < S.length) → (flatC S)[j * 3]? = some (.string (tb10 (S[j]).t)) ∧ (flatC S)[j * 3 + 1]? = some (.string (tb10 (S[j]).k)) ∧ (flatC S)[j * 3 + 2]? = some (.string (tb10 (S[j]).b))
  | [], j, hj => absurd hj (Nat.not_lt_zero _)
  | c :: S, 0, _ => ⟨rfl, rfl, rfl⟩
  | c :: S, j + 1, hj => by
    have := flatC_at S j (by simpa using hj)
    rw [show (j + 1) * 3 = j * 3 + 1 + 1 + 1 by omega]
    exact this
/-- A row of closed seals that the maker owns. -/
def OwnC (w : World) (v : Value) (S : List Shut) : Prop := w.ownsRow 0 99 3 v S.length (flatC S)
theorem ownC_nil (w : World) : OwnC w (.slice none 0 0) [] := World.ownsRow_nil _ _ _ _
theorem ownC_other {w w' : World} {v : Value} {S : List Shut} (h : OwnC w v S) (hb : ∀ b, v.ownBlock = some b → w'.heap[b]? = w.heap[b]?) : OwnC w' v S := by
  refine ⟨h.1, ?_⟩
  rcases h.2 with hn | ⟨g, cap, cur, hv, hbg, hg, rest⟩
  · exact .inl hn
  · exact .inr ⟨g, cap, cur, hv, hbg, (hb g (by rw [hv]; rfl)).trans hg, rest⟩
/-- A row of closed seals to be read. -/
def RowC (w : World) (ao : Option Addr) (S : List Shut) : Prop := S = [] ∨ ∃ g, ao = some ⟨g, 0, none⟩ ∧ g < w.heap.size ∧ ∀ j, (hj : j < S.length) → w.cell? ⟨g, j * 3, none⟩ = some (.string (tb10 (S[j]).t)) ∧ w.cell? ⟨g, j * 3 + 1, none⟩ = some (.string (tb10 (S[j]).k)) ∧ w.cell? ⟨g, j * 3 + 2, none⟩ = some (.string (tb10 (S[j]).b))
theorem ownC_row {w : World} {v : Value} {S : List Shut} (h : OwnC w v S) : ∃ ao cap, v = .slice ao S.length cap ∧ RowC w ao S := by
  have h' := h
  unfold OwnC at h'
  rcases h.2 with ⟨hv, h0⟩ | ⟨g, cap, cur, hv, hbg, hg, rest⟩
  · exact ⟨none, 0, by rw [hv, h0], .inl (List.length_eq_zero_iff.1 h0)⟩
  · refine ⟨some ⟨g, 0, none⟩, cap, hv, .inr ⟨g, rfl, (Array.getElem?_eq_some_iff.1 hg).1, fun j hj => ?_⟩⟩
    have k := h'.cells (g := g) (by rw [hv]; rfl)
    obtain ⟨a1, a2, a3⟩ := flatC_at S j hj
    have k1 := k _ _ a1
    have k2 := k _ _ a2
    have k3 := k _ _ a3
    rw [addr_add, Nat.zero_add] at k1 k2 k3
    exact ⟨k1, k2, k3⟩
theorem appC_run {W1 : World} {v : Value} {S : List Shut} (c : Shut) (h : OwnC W1 v S) (hl : S.length ≤ 1000000000) :
    ∃ v' w', (Builtin.append_ #[58, 58] 58 #[v, .slice (some ⟨W1.heap.size, 0, none⟩) 1 1]).run Try.prog (W1.alloc (.cells (shutV c) 99)) = .ok v' w' ∧ OwnC w' v' (S ++ [c]) ∧
      (W1.alloc (.cells (shutV c) 99)).grownBy w' v.ownBlock ∧ ∀ b, v'.ownBlock = some b → v.ownBlock = some b ∨ W1.heap.size ≤ b := by
  obtain ⟨i0, hi, hz0, hz1, hz2⟩ := info_parts infoClosed
  obtain ⟨v', w', r1, r2, r3, r4⟩ := appL_run (t := 58) (e := 99) (z := .agg #[.string ⟨#[]⟩, .string ⟨#[]⟩, .string ⟨#[]⟩]) Try.underlying58 hi hz0 hz1 hz2 rfl (by decide) (by decide) (shutV c) rfl (by intro u hu; simp only [List.mem_cons, List.not_mem_nil, or_false] at hu; rcases hu with rfl | rfl | rfl <;> rfl) h (Nat.zero_le _) hl
  refine ⟨v', w', r1, ?_, r3, fun b hb => ?_⟩
  · unfold OwnC
    rw [List.length_append, flatC_snoc]
    exact r2
  · rcases r4 with ⟨h1, _⟩ | ⟨h1, _⟩
    · exact .inl (h1 ▸ hb)
    · rw [h1] at hb
      have := Option.some.inj hb
      exact .inr (by omega)

/-! ### Origins -/
abbrev orgV (f : Nat) (n : Int) (tx : ByteArray) (ao : Option Addr) (q cap : Nat) : Value := .agg #[.int .u8 f, .int .i64 0, .int .i64 0, .int .i64 0, .int .i64 n, .string tx, .slice none 0 0, .slice ao q cap]
/-- A row that the maker does not turn. -/
def RowOut (F : Nat → Prop) (w : World) (ao : Option Addr) (L : List ByteArray) : Prop := L = [] ∨ ∃ b off, ao = some ⟨b, off, none⟩ ∧ b < w.heap.size ∧ ¬ F b ∧ ∀ j, j < L.length → w.cell? ⟨b, off + j, none⟩ = some (.string (L.getD j ByteArray.empty))
theorem RowOut.txt {F : Nat → Prop} {w : World} {ao : Option Addr} {L : List ByteArray} (h : RowOut F w ao L) : TxtRow w ao L := by
  rcases h with h | ⟨b, off, e, hlt, _, hc⟩
  · exact .inl h
  · exact .inr ⟨b, off, e, hlt, hc⟩
theorem cell_of_heap {w w' : World} {b k : Nat} (h : w'.heap[b]? = w.heap[b]?) : w'.cell? ⟨b, k, none⟩ = w.cell? ⟨b, k, none⟩ := by
  unfold World.cell?
  simp only [h]
theorem RowOut.turn {F F' : Nat → Prop} {w w' : World} {ao : Option Addr} {L : List ByteArray} (h : RowOut F w ao L) (ht : Turn F w w') (hF : ∀ b, F' b → F b ∨ w.heap.size ≤ b) : RowOut F' w' ao L := by
  rcases h with h | ⟨b, off, e, hlt, hn, hc⟩
  · exact .inl h
  · exact .inr ⟨b, off, e, Nat.lt_of_lt_of_le hlt ht.size, fun k => (hF b k).elim hn (fun k2 => by omega), fun j hj => (cell_of_heap (ht.block b hlt hn)).trans (hc j hj)⟩
def OrgAt (F : Nat → Prop) (w : World) (e : Ent) (v : Value) : Prop := ∃ (f : Nat) (n : Int) (tx : ByteArray) (ao : Option Addr) (cap : Nat) (L : List ByteArray), e.s = stp0 f n tx ∧ e.s.Fit ∧ v = orgV f n tx ao L.length cap ∧ L.map bl = e.o ∧ RowOut F w ao L
theorem OrgAt.turn {F F' : Nat → Prop} {w w' : World} {e : Ent} {v : Value} (h : OrgAt F w e v) (ht : Turn F w w') (hF : ∀ b, F' b → F b ∨ w.heap.size ≤ b) : OrgAt F' w' e v := by
  obtain ⟨f, n, tx, ao, cap, L, h1, h2, h3, h4, h5⟩ := h
  exact ⟨f, n, tx, ao, cap, L, h1, h2, h3, h4, h5.turn ht hF⟩
/-- What is made, as a map's pairs. -/
def prs (E : List Ent) (V : List Value) : List (Lit × Value) := (E.map fun e => Lit.string e.t).zip V
theorem prs_keys {E : List Ent} {V : List Value} (h : V.length = E.length) : (prs E V).map Prod.fst = E.map fun e => Lit.string e.t := by
  unfold prs
  exact List.map_fst_zip (by rw [List.length_map]; omega)
theorem prs_key {E : List Ent} {V : List Value} (h : V.length = E.length) (t : List UInt8) : Lit.string t ∈ (prs E V).map Prod.fst ↔ t ∈ keysE E := by
  rw [prs_keys h, List.mem_map]
  unfold keysE
  rw [List.mem_map]
  constructor
  · rintro ⟨e, h1, h2⟩
    injection h2 with h2
    exact ⟨e, h1, h2⟩
  · rintro ⟨e, h1, h2⟩
    exact ⟨e, h1, by rw [h2]⟩
theorem prs_snoc {E : List Ent} {V : List Value} (h : V.length = E.length) (e : Ent) (v : Value) : prs (E ++ [e]) (V ++ [v]) = prs E V ++ [(.string e.t, v)] := by
  unfold prs
  rw [List.map_append, List.zip_append (by rw [List.length_map]; omega)]
  rfl
theorem prs_len {E : List Ent} {V : List Value} (h : V.length = E.length) : (prs E V).length = E.length := by
  unfold prs
  simp [h]
theorem prs_at {E : List Ent} {V : List Value} (h : V.length = E.length) {k : Nat} (hk : k < E.length) : (Lit.string (E[k]).t, V[k]'(by omega)) ∈ prs E V := by
  unfold prs
  refine List.mem_of_getElem? (i := k) (List.getElem?_zip_eq_some.2 ⟨?_, List.getElem?_eq_getElem _⟩)
  rw [List.getElem?_map, List.getElem?_eq_getElem hk]
  rfl
/-- A maker: what is made, what is closed up. F: what it may turn. -/
structure MkA (w : World) (F : Nat → Prop) (p : Nat) (E : List Ent) (S : List Shut) (mm ma : Nat) (sv : Value) (V : List Value) : Prop where
  cells : w.heap[p]? = some (.cells #[.map (some mm), sv, .slice none 0 0, .map (some ma)] 60 (0, 0))
  len : V.length = E.length
  made : MapV w 9 mm (prs E V)
  org : ∀ k, (hk : k < E.length) → OrgAt F w E[k] (V[k]'(by omega))
  seals : OwnC w sv S
  at_ : MapV w 9 ma []
  fp : F p
  fm : F mm
  fa : F ma
  fs : ∀ b, sv.ownBlock = some b → F b
  foot : ∀ b, F b → b < w.heap.size
  nma : mm ≠ ma
/-- What turns nothing of it leaves it as it is. -/
theorem MkA.kept {w w' : World} {F : Nat → Prop} {p mm ma : Nat} {E : List Ent} {S : List Shut} {sv : Value} {V : List Value} (h : MkA w F p E S mm ma sv V) (hb : Below w.heap.size w w') : MkA w' F p E S mm ma sv V :=
  ⟨(hb.block p (h.foot p h.fp)).trans h.cells, h.len, h.made.below hb, fun k hk => (h.org k hk).turn (turn_below hb) (fun _ hb => .inl hb), ownC_other h.seals (fun b k => hb.block b (h.foot b (h.fs b k))), h.at_.below hb, h.fp, h.fm, h.fa, h.fs, fun b k => Nat.lt_of_lt_of_le (h.foot b k) hb.size, h.nma⟩
/-- Somebody's maker. -/
def Mk (w : World) (F : Nat → Prop) (p : Nat) (E : List Ent) (S : List Shut) : Prop := ∃ mm ma sv V, MkA w F p E S mm ma sv V
theorem Mk.kept {w w' : World} {F : Nat → Prop} {p : Nat} {E : List Ent} {S : List Shut} (h : Mk w F p E S) (hb : Below w.heap.size w w') : Mk w' F p E S := by
  obtain ⟨mm, ma, sv, V, k⟩ := h
  exact ⟨mm, ma, sv, V, k.kept hb⟩
theorem MkA.ne {w : World} {F : Nat → Prop} {p mm ma : Nat} {E : List Ent} {S : List Shut} {sv : Value} {V : List Value} (h : MkA w F p E S mm ma sv V) : p ≠ mm ∧ p ≠ ma ∧ (∀ b, sv.ownBlock = some b → p ≠ b ∧ mm ≠ b ∧ ma ≠ b) := by
  obtain ⟨es, c, h1⟩ := h.made.ex
  obtain ⟨es2, c2, h2⟩ := h.at_.ex
  have h0 := h.cells
  refine ⟨fun e => ?_, fun e => ?_, fun b hb => ?_⟩
  · rw [e, h1] at h0
    cases h0
  · rw [e, h2] at h0
    cases h0
  · rcases h.seals.2 with ⟨rfl, _⟩ | ⟨g, cap, cur, rfl, _, hg, _⟩
    · cases hb
    · obtain rfl : g = b := Option.some.inj hb
      refine ⟨fun e => ?_, fun e => ?_, fun e => ?_⟩
      · rw [e, hg] at h0
        injection h0 with h0
        injection h0 with _ h0
        exact absurd h0 (by decide)
      · rw [e, hg] at h1
        cases h1
      · rw [e, hg] at h2
        cases h2
/-- One term more is made. -/
theorem MkA.made_ {w w' : World} {F : Nat → Prop} {p mm ma : Nat} {E : List Ent} {S : List Shut} {sv : Value} {V : List Value} (h : MkA w F p E S mm ma sv V) {e : Ent} {v : Value} (ho : OrgAt F w e v) (hm : MapV w' 9 mm (prs E V ++ [(.string e.t, v)])) (ht : w.mapTurned w' mm) : MkA w' F p (E ++ [e]) S mm ma sv (V ++ [v]) := by
  obtain ⟨n1, n2, n3⟩ := h.ne
  have hT : Turn F w w' := turned_turn ht h.fm
  have g : ∀ b, b < w.heap.size → b ≠ mm → w'.heap[b]? = w.heap[b]? := fun b hb hn => ht.grown.block b hb (fun e => hn (Option.some.inj e))
  refine ⟨(g p (h.foot p h.fp) n1).trans h.cells, by simp [h.len], by rw [prs_snoc h.len]; exact hm, fun k hk => ?_, ownC_other h.seals (fun b k => g b (h.foot b (h.fs b k)) (fun e => (n3 b k).2.1 e.symm)), h.at_.of_block (g ma (h.foot ma h.fa) (fun e => h.nma e.symm)), h.fp, h.fm, h.fa, h.fs, fun b k => Nat.lt_of_lt_of_le (h.foot b k) hT.size, h.nma⟩
  by_cases hk2 : k < E.length
  · have := (h.org k hk2).turn hT (fun _ hb => .inl hb)
    rw [List.getElem_append_left hk2, List.getElem_append_left (by rw [h.len]; exact hk2)]
    exact this
  · have hk3 : k = E.length := by simp at hk; omega
    subst hk3
    rw [List.getElem_append_right (Nat.le_refl _), List.getElem_append_right (by rw [h.len]; exact Nat.le_refl _)]
    simp only [Nat.sub_self, List.getElem_cons_zero, h.len]
    exact ho.turn hT (fun _ hb => .inl hb)
/-- One seal more is closed up. -/
theorem MkA.sealed {W w5 : World} {F : Nat → Prop} {p mm ma : Nat} {E : List Ent} {S : List Shut} {sv v' : Value} {V : List Value} (h : MkA W F p E S mm ma sv V) {c : Shut} (ho : OwnC w5 v' (S ++ [c])) (hg : (W.alloc (.cells (shutV c) 99)).grownBy w5 sv.ownBlock) (hloc : ∀ b, v'.ownBlock = some b → sv.ownBlock = some b ∨ W.heap.size ≤ b) :
    MkA (w5.setCell ⟨p, 1, none⟩ v') (fun b => F b ∨ v'.ownBlock = some b) p E (S ++ [c]) mm ma v' V ∧ Turn F W (w5.setCell ⟨p, 1, none⟩ v') := by
  obtain ⟨n1, n2, n3⟩ := h.ne
  have hlt := h.foot
  have hsz := hg.size
  rw [World.size_alloc] at hsz
  have g : ∀ b, b < W.heap.size → (∀ o, sv.ownBlock = some o → b ≠ o) → w5.heap[b]? = W.heap[b]? := fun b hb hn => (hg.block b (by simp; omega) (fun e => hn b e.symm rfl)).trans (Below.heap_alloc W _ b hb)
  have g2 : ∀ b, b < W.heap.size → b ≠ p → (∀ o, sv.ownBlock = some o → b ≠ o) → (w5.setCell ⟨p, 1, none⟩ v').heap[b]? = W.heap[b]? := fun b hb hp hn => (Below.heap_setCell w5 ⟨p, 1, none⟩ v' b hp).trans (g b hb hn)
  have hT : Turn F W (w5.setCell ⟨p, 1, none⟩ v') := by
    refine ⟨?_, ?_, ?_, ?_, fun b hb hn => g2 b hb (fun e => hn (e ▸ h.fp)) (fun o ho e => hn (e ▸ h.fs o ho))⟩
    · exact hg.os.trans rfl
    · exact hg.tape.trans rfl
    · exact hg.output.trans rfl
    · simp [World.setCell]; omega
  have hown := ho
  have hp5 : w5.heap[p]? = some (.cells #[.map (some mm), sv, .slice none 0 0, .map (some ma)] 60 (0, 0)) := (g p (hlt p h.fp) (fun o k e => (n3 o k).1 e)).trans h.cells
  have hbp : ∀ b, v'.ownBlock = some b → b ≠ p := fun b hb e => by
    rcases hown.2 with ⟨rfl, _⟩ | ⟨gg, cap, cur, rfl, _, hgg, _⟩
    · cases hb
    · obtain rfl : gg = b := Option.some.inj hb
      rw [e, hp5] at hgg
      injection hgg with hgg
      injection hgg with _ hgg
      exact absurd hgg (by decide)
  refine ⟨⟨?_, h.len, h.made.of_block (g2 mm (hlt mm h.fm) (fun e => n1 e.symm) (fun o k => (n3 o k).2.1)), fun k hk => (h.org k hk).turn hT (fun b hb => hb.elim .inl (fun q => (hloc b q).elim (fun r => .inl (h.fs b r)) .inr)), ownC_other ho (fun b hb => Below.heap_setCell w5 ⟨p, 1, none⟩ v' b (hbp b hb)), h.at_.of_block (g2 ma (hlt ma h.fa) (fun e => n2 e.symm) (fun o k => (n3 o k).2.2)), .inl h.fp, .inl h.fm, .inl h.fa, fun b hb => .inr hb, fun b hb => ?_, h.nma⟩, hT⟩
  · have := heap_setCell_same w5 p 1 #[.map (some mm), sv, .slice none 0 0, .map (some ma)] 60 v' hp5
    simpa using this
  · have hs : (w5.setCell ⟨p, 1, none⟩ v').heap.size = w5.heap.size := by simp [World.setCell]
    rw [hs]
    rcases hb with hb | hb
    · have := hlt b hb
      omega
    · exact (World.ownsRow.lt hown b hb).2
end Go.Proofs.Ytpajcalfjfkogaa.Pl
