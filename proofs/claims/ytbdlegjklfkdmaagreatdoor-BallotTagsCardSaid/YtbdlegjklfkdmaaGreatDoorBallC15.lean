/- What the document's ReadNum of layer 6 answers: the number in a datum. Messages as terms, over plain bytes: what may be, what is encoded, what is read. Messages as terms, over plain bytes: what is encoded is read, and what is read is encoded as it was. More of what suites make of plain bytes: what a datum says, what a seal's parts are, images of trees; plain mathematics alone. Images of rows of trees, part by part; how long they are; plain mathematics alone. What the document's names of keys are, and who is in a set. CipherOpens answers true, whatever it is given. What is sealed and opened again, over texts. The suite's sums, tags and seals over plain bytes are those of the stages before. -/
import Derived.Test.YtbdlegjklfkdmaaGreatDoorBallC12
import Derived.Test.YtbdlegjklfkdmaaGreatDoorBallC2
import Derived.Test.YtbdlegjklfkdmaaGreatDoorBallC1
import Derived.Test.YtbdlegjklfkdmaaGreatDoorBallC11
import Derived.Test.YtbdlegjklfkdmaaGreatDoorBallC14
import Derived.Lib.Strings
import Derived.Test.YtbdlegjklfkdmaaGreatDoorBallC7
namespace Go.Proofs.YtbdlegjklfkdmaaGreatDoor.Pl
open Go.RowKit

noncomputable def readnumP (s : List UInt8) : Nat × Bool :=
  if (textP s).2 = true ∧ kindP s = 1 ∧ (rdn (textP s).1).2.2 = 0 ∧ (rdn (textP s).1).2.1 = (textP s).1.length ∧ (rdn (textP s).1).1 ≤ 2147483647 then ((rdn (textP s).1).1, true) else (0, false)
theorem rdt_out (l : List UInt8) (m : Int) : (rdt l m).1.length ≤ l.length := by
  unfold rdt
  by_cases h1 : (rdn l).2.2 ≠ 0
  · rw [if_pos h1]; simp
  · rw [if_neg h1]
    by_cases h2 : max m 0 < ((rdn l).1 : Int)
    · rw [if_pos h2]; simp
    · rw [if_neg h2]
      by_cases h3 : l.length - (rdn l).2.1 < (rdn l).1
      · rw [if_pos h3]; simp
      · rw [if_neg h3]; simp; omega
theorem textP_len (s : List UInt8) : (textP s).1.length ≤ s.length := by
  unfold textP
  by_cases h : checkP s = 0 ∧ (s.head? = some 100 ∨ s.head? = some 97)
  · rw [if_pos h]
    have h1 := rdt_out (s.drop 1) 1024
    rw [List.length_drop] at h1
    simp only
    omega
  · rw [if_neg h]; simp
end Go.Proofs.YtbdlegjklfkdmaaGreatDoor.Pl

namespace Go.Proofs.YtbdlegjklfkdmaaGreatDoor.Pl
open Go.RowKit

def tb (l : List UInt8) : ByteArray := ⟨l.toArray⟩
theorem bl_tb (l : List UInt8) : bl (tb l) = l := rfl
theorem tb_bl (x : ByteArray) : tb (bl x) = x := rfl
theorem map_tb_bl (l : List ByteArray) : (l.map bl).map tb = l := by
  rw [List.map_map]; exact (List.map_congr_left (fun x _ => tb_bl x)).trans (List.map_id l)

/-! ### Trees and kinds -/
theorem kindh12 {h : List UInt8} {l : List Tm} (hv : (Tm.node h l).valid) {b : UInt8} {r : List UInt8} (e : h = b :: r) : kindP (Tm.node h l).enc = if b = 100 then 1 else if b = 97 then 2 else if b = 114 then 3 else if b = 104 then 4 else if b = 109 then 5 else 6 := by
  unfold kindP
  rw [if_pos (check_enc hv), Tm.enc_node, e, List.cons_append]
theorem texth12 {h : List UInt8} {l : List Tm} (hv : (Tm.node h l).valid) {x : List UInt8} (e : h = 100 :: txt x) (hx : x.length ≤ 1024) : textP (Tm.node h l).enc = (x, true) := by
  have hr := rdt_txt (t := x) (by rw [two64]; omega) (encs l) 1024 (by omega)
  unfold textP
  rw [if_pos ⟨check_enc hv, by rw [Tm.enc_node, e]; simp⟩, Tm.enc_node, e, List.cons_append, List.drop_succ_cons, List.drop_zero, hr]
theorem row_read {l : List (List UInt8)} (h8 : l.length < 256 ^ 8) {r : List UInt8} (h : rowP l = (r, 0)) : kindP r = 3 ∧ (partsP r).1 = l ∧ checkP r = 0 := by
  obtain ⟨m, hv, e, em⟩ := row_parts h8 h
  refine ⟨by rw [← e, kindh12 hv rfl]; rfl, ?_, by rw [← e]; exact check_enc hv⟩
  unfold partsP
  rw [← e, treeOf_enc hv]
  exact em
theorem row_err {l : List (List UInt8)} (h : ∀ x ∈ l, checkP x = 0) : (rowP l).2 = 0 ∨ rowP l = ([], 5) := by
  unfold rowP madeP
  rw [if_pos h]
  split
  · exact .inl rfl
  · exact .inr rfl
theorem row_ok {l : List (List UInt8)} (h : (rowP l).2 = 0) : rowP l = ((rowP l).1, 0) := Prod.ext rfl h
theorem leaf12 {x : List UInt8} (hx : x.length ≤ 1024) : (Tm.node (100 :: txt x) []).valid ∧ (Tm.node (100 :: txt x) []).enc = 100 :: txt x := by
  have e : (Tm.node (100 :: txt x) []).enc = 100 :: txt x := by rw [Tm.enc_node]; simp [encs]
  refine ⟨⟨by simp only [Tm.good]; exact ⟨data_head hx, by simp [goods]⟩, by simp [Tm.deep, deeps], ?_⟩, e⟩
  rw [e, List.length_cons, txt_len]
  have := enc_len x.length
  omega
theorem data_read {x : List UInt8} (hx : x.length ≤ 1024) : dataP x = (100 :: txt x, 0) ∧ kindP (100 :: txt x) = 1 ∧ textP (100 :: txt x) = (x, true) ∧ checkP (100 :: txt x) = 0 := by
  obtain ⟨hv, e⟩ := leaf12 hx
  have h1 := kindh12 hv rfl
  have h2 := texth12 hv rfl hx
  rw [e] at h1 h2
  exact ⟨by unfold dataP; exact if_neg (by omega), h1, h2, by rw [← e]; exact check_enc hv⟩
/-- A number's term. -/
theorem num_read {v : Int} (h0 : 0 ≤ v) (h1 : v ≤ 2147483647) : ∃ s, numP v = (s, 0) ∧ checkP s = 0 ∧ kindP s = 1 ∧ readnumP s = (v.toNat, true) ∧ s.length ≤ 19 := by
  have he := enc_len v.toNat
  obtain ⟨_, k1, k2, k3⟩ := data_read (x := enc v.toNat) (by omega)
  refine ⟨100 :: txt (enc v.toNat), if_pos ⟨h0, h1⟩, k3, k1, ?_, ?_⟩
  · have hr := rdn_enc (v := v.toNat) (by rw [two64]; omega) []
    rw [List.append_nil] at hr
    unfold readnumP
    rw [k2, k1, hr]
    rw [if_pos ⟨rfl, rfl, rfl, rfl, by simp only; omega⟩]
  · rw [List.length_cons, txt_len]
    have := enc_len (enc v.toNat).length
    omega
/-! ### What may be -/
abbrev Mb := Int × ByteArray
def orgP (v : Int) : Bool := decide (0 ≤ v) && decide (v < 8)
def mayX (c e q : Int) : Bool := orgP c && decide (1 ≤ e) && decide (e ≤ 255) && decide (1 ≤ q) && decide (q ≤ 65535)
def termP (s : ByteArray) : Bool := checkP (bl s) == 0
def mayM1 (c last : Int) (m : Mb) : Bool := orgP m.1 && !(m.1 == c) && decide (last < m.1) && termP m.2
def mayMs (c : Int) : Int → List Mb → Bool
  | _, [] => true
  | last, m :: r => mayM1 c last m && mayMs c m.1 r
def mayL (c : Int) (l : List Mb) : Bool := decide (1 ≤ l.length) && decide (l.length ≤ 6) && mayMs c (-1) l
/-! ### What is encoded -/
def txnL (c e q : Int) : List (List UInt8) := [(numP c).1, (numP e).1, (numP q).1]
def txnT (c e q : Int) : List UInt8 := (rowP (txnL c e q)).1
def memT (m : Mb) : List UInt8 × Nat := rowP [(numP m.1).1, bl m.2]
def membersT (l : List Mb) : List UInt8 × Nat := if ∀ m ∈ l, (memT m).2 = 0 then rowP (l.map fun m => (memT m).1) else ([], 5)
/-! ### What is read -/
noncomputable def partsB (t : ByteArray) : List ByteArray := (partsP (bl t)).1.map tb
noncomputable def rdN (x : ByteArray) : Option Int := if (readnumP (bl x)).2 = true then some ((readnumP (bl x)).1 : Int) else none
noncomputable def getN : List ByteArray → Option (Int × List ByteArray)
  | [] => none
  | a :: r => (rdN a).map fun v => (v, r)
def endR {α : Type} : Option (α × List ByteArray) → Option α
  | some (x, []) => some x
  | _ => none
noncomputable def rowR {α : Type} (t : ByteArray) (g : List ByteArray → Option (α × List ByteArray)) : Option α :=
  if kindP (bl t) = 3 then endR (g (partsB t)) else none
noncomputable def txnG (l : List ByteArray) : Option ((Int × Int × Int) × List ByteArray) :=
  match getN l with
  | none => none
  | some (c, l1) => match getN l1 with
    | none => none
    | some (e, l2) => match getN l2 with
      | none => none
      | some (q, l3) => some ((c, e, q), l3)
noncomputable def txnR (t : ByteArray) : Option (Int × Int × Int) := match rowR t txnG with | some (c, e, q) => if mayX c e q = true then some (c, e, q) else none | none => none
noncomputable def memG (l : List ByteArray) : Option (Mb × List ByteArray) :=
  match getN l with
  | none => none
  | some (o, l1) => match l1 with
    | [] => none
    | d :: r => some ((o, d), r)
noncomputable def memsR : List ByteArray → Option (List Mb)
  | [] => some []
  | p :: r => match rowR p memG with
    | none => none
    | some m => (memsR r).map fun l => m :: l
noncomputable def membersR (c : Int) (t : ByteArray) : Option (List Mb) :=
  if kindP (bl t) = 3 then (match memsR (partsB t) with | some l => if mayL c l = true then some l else none | none => none) else none
end Go.Proofs.YtbdlegjklfkdmaaGreatDoor.Pl

namespace Go.Proofs.YtbdlegjklfkdmaaGreatDoor.Pl
open Go.RowKit

theorem orgP_iff {v : Int} : orgP v = true ↔ 0 ≤ v ∧ v < 8 := by simp [orgP]
theorem mayX_iff {c e q : Int} : mayX c e q = true ↔ (0 ≤ c ∧ c < 8) ∧ (1 ≤ e ∧ e ≤ 255) ∧ 1 ≤ q ∧ q ≤ 65535 := by
  simp only [mayX, Bool.and_eq_true, decide_eq_true_eq, orgP]
  constructor
  · rintro ⟨⟨⟨⟨⟨a, b⟩, c⟩, d⟩, e⟩, f⟩; exact ⟨⟨a, b⟩, ⟨c, d⟩, e, f⟩
  · rintro ⟨⟨a, b⟩, ⟨c, d⟩, e, f⟩; exact ⟨⟨⟨⟨⟨a, b⟩, c⟩, d⟩, e⟩, f⟩
theorem rdN_num {v : Int} (h0 : 0 ≤ v) (h1 : v ≤ 2147483647) : rdN (tb (numP v).1) = some v ∧ checkP (numP v).1 = 0 := by
  obtain ⟨s, e, hc, _, hr, _⟩ := num_read h0 h1
  rw [e]
  refine ⟨?_, hc⟩
  unfold rdN
  rw [bl_tb, hr, if_pos rfl]
  congr 1
  simp only
  omega
theorem num_ok {v : Int} (h0 : 0 ≤ v) (h1 : v ≤ 2147483647) : (numP v).2 = 0 ∧ (numP v).1.length ≤ 19 ∧ ∃ x, x.length ≤ 1024 ∧ (numP v).1 = 100 :: txt x := by
  obtain ⟨s, e, _, _, _, hl⟩ := num_read h0 h1
  refine ⟨by rw [e], by rw [e]; exact hl, enc v.toNat, by have := enc_len v.toNat; omega, ?_⟩
  unfold numP
  rw [if_pos ⟨h0, h1⟩]
theorem rowR_row {α : Type} {l : List (List UInt8)} {r : List UInt8} (hl : l.length ≤ 1000) (h : rowP l = (r, 0)) (g : List ByteArray → Option (α × List ByteArray)) : rowR (tb r) g = endR (g (l.map tb)) := by
  obtain ⟨h1, h2, _⟩ := row_read (by omega) h
  unfold rowR partsB
  rw [bl_tb, if_pos h1, h2]
theorem txn_ok {c e q : Int} (h : mayX c e q = true) : rowP (txnL c e q) = (txnT c e q, 0) ∧ checkP (txnT c e q) = 0 := by
  obtain ⟨h1, h2, h3⟩ := mayX_iff.1 h
  obtain ⟨_, l1, x1, y1, e1⟩ := num_ok (v := c) (by omega) (by omega)
  obtain ⟨_, l2, x2, y2, e2⟩ := num_ok (v := e) (by omega) (by omega)
  obtain ⟨_, l3, x3, y3, e3⟩ := num_ok (v := q) (by omega) (by omega)
  obtain ⟨v1, f1⟩ := leaf12 y1
  obtain ⟨v2, f2⟩ := leaf12 y2
  obtain ⟨v3, f3⟩ := leaf12 y3
  have el : txnL c e q = [Tm.node (100 :: txt x1) [], Tm.node (100 :: txt x2) [], Tm.node (100 :: txt x3) []].map Tm.enc := by
    simp only [List.map_cons, List.map_nil, f1, f2, f3, txnL, e1, e2, e3]
  rw [e1] at l1; rw [e2] at l2; rw [e3] at l3
  have hv : (Tm.node (114 :: enc 3) [Tm.node (100 :: txt x1) [], Tm.node (100 :: txt x2) [], Tm.node (100 :: txt x3) []]).valid := by
    refine ⟨?_, ?_, ?_⟩
    · simp only [Tm.good, goods, List.length_cons, List.length_nil]
      exact ⟨row_head (by decide), by simpa only [Tm.good, goods, List.length_nil] using v1.1, by simpa only [Tm.good, goods, List.length_nil] using v2.1, by simpa only [Tm.good, goods, List.length_nil] using v3.1, trivial⟩
    · simp [Tm.deep, deeps]
    · rw [Tm.enc_node]
      simp only [encs, f1, f2, f3, List.length_append, List.length_cons, List.length_nil] at *
      have := enc_len 3
      omega
  have hm := made_again hv
  rw [← el] at hm
  have hr : rowP (txnL c e q) = ((Tm.node (114 :: enc 3) [Tm.node (100 :: txt x1) [], Tm.node (100 :: txt x2) [], Tm.node (100 :: txt x3) []]).enc, 0) := hm
  have ht : txnT c e q = (Tm.node (114 :: enc 3) [Tm.node (100 :: txt x1) [], Tm.node (100 :: txt x2) [], Tm.node (100 :: txt x3) []]).enc := by unfold txnT; rw [hr]
  exact ⟨by rw [ht]; exact hr, by rw [ht]; exact check_enc hv⟩
theorem getN_cons {a : ByteArray} {r : List ByteArray} : getN (a :: r) = (rdN a).map fun v => (v, r) := rfl
theorem txnG_ok {c e q : Int} (h : mayX c e q = true) (r : List ByteArray) : txnG ((txnL c e q).map tb ++ r) = some ((c, e, q), r) := by
  obtain ⟨h1, h2, h3⟩ := mayX_iff.1 h
  have n1 := (rdN_num (v := c) (by omega) (by omega)).1
  have n2 := (rdN_num (v := e) (by omega) (by omega)).1
  have n3 := (rdN_num (v := q) (by omega) (by omega)).1
  simp only [txnG, txnL, List.map_cons, List.map_nil, List.cons_append, List.nil_append, getN_cons, n1, n2, n3, Option.map_some]
theorem txnR_ok {c e q : Int} (h : mayX c e q = true) : txnR (tb (txnT c e q)) = some (c, e, q) := by
  unfold txnR
  rw [rowR_row (l := txnL c e q) (by simp [txnL]) (txn_ok h).1]
  have := txnG_ok h []
  rw [List.append_nil] at this
  rw [this]
  simp only [endR, h, if_true]
theorem memR_ok {m : Mb} (h : (memT m).2 = 0) (ho : orgP m.1 = true) : rowR (tb (memT m).1) memG = some m := by
  have n1 := orgP_iff.1 ho
  have n2 := (rdN_num (v := m.1) (by omega) (by omega)).1
  have h' : rowP [(numP m.1).1, bl m.2] = ((memT m).1, 0) := row_ok h
  rw [rowR_row (by simp) h']
  simp only [memG, endR, List.map_cons, List.map_nil, getN_cons, n2, Option.map_some, tb_bl]
theorem mayMs_all {c : Int} : ∀ {last : Int} {l : List Mb}, mayMs c last l = true → ∀ m ∈ l, orgP m.1 = true ∧ checkP (bl m.2) = 0 ∧ m.1 ≠ c
  | _, [], _, m, hm => by cases hm
  | last, x :: r, h, m, hm => by
    simp only [mayMs, Bool.and_eq_true] at h
    rcases List.mem_cons.1 hm with rfl | hm
    · have h1 := h.1
      simp only [mayM1, Bool.and_eq_true, termP, beq_iff_eq, Bool.not_eq_true', beq_eq_false_iff_ne] at h1
      exact ⟨h1.1.1.1, h1.2, h1.1.1.2⟩
    · exact mayMs_all h.2 m hm
theorem mayL_iff {c : Int} {l : List Mb} : mayL c l = true ↔ 1 ≤ l.length ∧ l.length ≤ 6 ∧ mayMs c (-1) l = true := by
  simp [mayL, Bool.and_eq_true, and_assoc]
theorem memsR_ok {l : List Mb} (h : ∀ m ∈ l, (memT m).2 = 0 ∧ orgP m.1 = true) : memsR ((l.map fun m => (memT m).1).map tb) = some l := by
  induction l with
  | nil => rfl
  | cons m l ih =>
    obtain ⟨h1, h2⟩ := h m (List.mem_cons_self ..)
    simp only [List.map_cons, memsR, memR_ok h1 h2]
    rw [ih (fun x hx => h x (List.mem_cons_of_mem _ hx))]
    rfl
theorem membersT_is {l : List Mb} (h : (membersT l).2 = 0) : (∀ m ∈ l, (memT m).2 = 0) ∧ rowP (l.map fun m => (memT m).1) = ((membersT l).1, 0) := by
  unfold membersT at h ⊢
  split at h
  · rename_i k
    rw [if_pos k]
    exact ⟨k, row_ok h⟩
  · cases h
theorem membersR_ok {c : Int} {l : List Mb} (hl : mayL c l = true) (h : (membersT l).2 = 0) : membersR c (tb (membersT l).1) = some l := by
  obtain ⟨h1, h2⟩ := membersT_is h
  obtain ⟨l1, l6, hm⟩ := mayL_iff.1 hl
  obtain ⟨k1, k2, _⟩ := row_read (by rw [List.length_map]; omega) h2
  have e : memsR (partsB (tb (membersT l).1)) = some l := by
    unfold partsB
    rw [bl_tb, k2]
    exact memsR_ok fun m hmm => ⟨h1 m hmm, (mayMs_all hm m hmm).1⟩
  unfold membersR
  rw [bl_tb, if_pos k1, e]
  simp only [hl, if_true]
end Go.Proofs.YtbdlegjklfkdmaaGreatDoor.Pl

namespace Go.Proofs.YtbdlegjklfkdmaaGreatDoor.Pl
open Go.RowKit

theorem kind1_check {s : List UInt8} (h : kindP s = 1) : checkP s = 0 := by
  apply Classical.byContradiction
  intro hc
  unfold kindP at h
  rw [if_neg hc] at h
  cases h
theorem str_yes {s : List UInt8} (h : kindP s = 1) : strP s = some (strD s) := by rw [strD, strP, if_pos h]; rfl
theorem str_no {s : List UInt8} (h : kindP s ≠ 1) : strP s = none := by rw [strP, if_neg h]
theorem strD_no {s : List UInt8} (h : kindP s ≠ 1) : strD s = [] := by rw [strD, str_no h]; rfl
theorem strD_yes {s : List UInt8} (h : kindP s = 1) : strD s = (textP s).1 := by rw [strD, strP, if_pos h]; rfl
/-- A term by its tree. -/
theorem kd_of {s : List UInt8} (h : checkP s = 0) : ∃ hd l c, treeOf s = some (.node hd l) ∧ (Tm.node hd l).valid ∧ s = hd ++ encs l ∧ Kd hd l.length c ∧ kindP s = c := by
  obtain ⟨⟨hd, l⟩, tv, te, tr⟩ := treeOf_some h
  have hg := tv.1
  simp only [Tm.good] at hg
  obtain ⟨c, hk⟩ := head_kind hg.1
  rw [Tm.enc_node] at te
  refine ⟨hd, l, c, tr, tv, te.symm, hk, ?_⟩
  unfold kindP
  rw [if_pos h, ← te]
  cases hk with
  | data t e1 _ _ => rw [e1]; rfl
  | atom t e1 _ _ _ => rw [e1]; rfl
  | hash e1 _ => rw [e1]; rfl
  | mac e1 _ => rw [e1]; rfl
  | seal_ e1 _ => rw [e1]; rfl
  | row v e1 hv _ => rw [e1]; rfl
theorem text_yes {s : List UInt8} (h : kindP s = 1) : textP s = (strD s, true) := by
  obtain ⟨hd, l, c, _, _, te, hk, e⟩ := kd_of (kind1_check h)
  rw [strD_yes h]
  have hc := kind1_check h
  rw [h] at e
  subst e
  cases hk with
  | data t e1 _ _ =>
    unfold textP
    rw [if_pos ⟨hc, .inl (by rw [te, e1]; rfl)⟩]
theorem strD_len (s : List UInt8) : (strD s).length ≤ s.length := by
  by_cases h : kindP s = 1
  · rw [strD_yes h]; exact textP_len s
  · rw [strD_no h]; exact Nat.zero_le _
theorem atom_err {s : List UInt8} (h : (atomP s).2 ≠ 0) : (atomP s).1 = [] := by
  unfold atomP at h ⊢
  split
  · rfl
  · rename_i h1
    rw [if_neg h1] at h
    split
    · rfl
    · rename_i h2
      rw [if_neg h2] at h
      exact absurd rfl h
theorem mac8_terms (c : Cry) (k t : List UInt8) : mac8P c true k t = madeP [109] [k, t] := by
  unfold mac8P
  by_cases h : checkP k = 0 ∧ checkP t = 0
  · simp [h]
  · have h' : checkP k ≠ 0 ∨ checkP t ≠ 0 := by
      by_cases h1 : checkP k = 0
      · exact .inr (fun h2 => h ⟨h1, h2⟩)
      · exact .inl h1
    rcases h' with h' | h' <;> simp [h', madeP]
theorem key8_terms (c : Cry) (m name : List UInt8) : keyP c true m name = atomP name := by simp [keyP]
end Go.Proofs.YtbdlegjklfkdmaaGreatDoor.Pl

namespace Go.Proofs.YtbdlegjklfkdmaaGreatDoor.Pl
open Go.RowKit

theorem data_short {s : List UInt8} (h : s.length ≤ 1024) : (dataP s).1.length ≤ 16384 := by
  unfold dataP
  rw [if_neg (by omega)]
  have := txt_most h
  simp only [List.length_cons]
  omega
theorem dataP_short (s : List UInt8) : (dataP s).1.length ≤ 16384 := by
  by_cases h : s.length ≤ 1024
  · exact data_short h
  · unfold dataP; rw [if_pos (by omega)]; exact Nat.zero_le _
theorem atomP_short (s : List UInt8) : (atomP s).1.length ≤ 16384 := by
  unfold atomP
  split
  · exact Nat.zero_le _
  · split
    · exact Nat.zero_le _
    · have := txt_most (t := s) (by omega)
      simp only [List.length_cons]
      omega
theorem madeP_short (f : List UInt8) (l : List (List UInt8)) : (madeP f l).1.length ≤ 16384 := by
  unfold madeP
  split
  · split
    · rename_i h; exact check_len h
    · exact Nat.zero_le _
  · exact Nat.zero_le _
theorem key_short (c : Cry) (b : Bool) (m n : List UInt8) : (keyP c b m n).1.length ≤ 16384 := by
  unfold keyP
  split
  · exact atomP_short _
  · exact dataP_short _
theorem mac_short (c : Cry) (b : Bool) (k t : List UInt8) : (mac8P c b k t).1.length ≤ 16384 := by
  unfold mac8P
  split
  · exact Nat.zero_le _
  · split
    · exact madeP_short _ _
    · exact dataP_short _
end Go.Proofs.YtbdlegjklfkdmaaGreatDoor.Pl

namespace Go.Proofs.YtbdlegjklfkdmaaGreatDoor.Pl
open Go.RowKit

theorem digit_at (k : Nat) (hk : k < 8) (V : World) : (Instr.sliceAt 9 (.string ⟨#[48, 49, 50, 51, 52, 53, 54, 55]⟩) (some (.int .i64 (k : Int))) (some (.int .i64 ((k : Int) + 1))) none).run Tryz.prog V = .ok (.string ⟨#[UInt8.ofNat (48 + k)]⟩) V := by
  obtain rfl | rfl | rfl | rfl | rfl | rfl | rfl | rfl : k = 0 ∨ k = 1 ∨ k = 2 ∨ k = 3 ∨ k = 4 ∨ k = 5 ∨ k = 6 ∨ k = 7 := by omega
  all_goals kernel_rfl
set_option maxHeartbeats 1000000 in
set_option maxRecDepth 100000 in
theorem rname9_any (c : UInt8) (a b : Int) (w : World) :
    Calls Tryz.prog 134 #[.string ⟨#[c]⟩, .int .i64 a, .int .i64 b] w fun e w' => e = .returned (st2 (nameK c a b)) ∧ Below w.heap.size w w' := by
  by_cases h0 : a < 0
  · have hz : nameK c a b = ([], 2) := if_neg (fun e => by have := e.1.1; omega)
    rw [hz]
    clear hz
    go_enter Tryz.func134, Tryz.ntmps134
    go_wp2_with fail
    go_ret2
    exact ⟨rfl, Below.refl _ _⟩
  by_cases h1 : b < 0
  · have hz : nameK c a b = ([], 2) := if_neg (fun e => by have := e.2.1; omega)
    rw [hz]
    clear hz
    go_enter Tryz.func134, Tryz.ntmps134
    go_wp2_with fail
    go_ret2
    exact ⟨rfl, Below.refl _ _⟩
  by_cases h2 : 8 ≤ a
  · have hz : nameK c a b = ([], 2) := if_neg (fun e => by have := e.1.2; omega)
    rw [hz]
    clear hz
    go_enter Tryz.func134, Tryz.ntmps134
    go_wp2_with fail
    go_ret2
    exact ⟨rfl, Below.refl _ _⟩
  by_cases h3 : 8 ≤ b
  · have hz : nameK c a b = ([], 2) := if_neg (fun e => by have := e.2.2; omega)
    rw [hz]
    clear hz
    go_enter Tryz.func134, Tryz.ntmps134
    go_wp2_with fail
    go_ret2
    exact ⟨rfl, Below.refl _ _⟩
  obtain ⟨x, rfl⟩ : ∃ x : Nat, a = x := ⟨a.toNat, by omega⟩
  obtain ⟨y, rfl⟩ : ∃ x : Nat, b = x := ⟨b.toNat, by omega⟩
  have hz : nameK c x y = (nm c x y, 0) := if_pos ⟨⟨by omega, by omega⟩, by omega, by omega⟩
  rw [hz]
  by_cases hxy : x < y
  · have q : (x : Int) < (y : Int) := by omega
    have q2 : ¬ (y : Int) < (x : Int) := by omega
    have hx := digit_at x (by omega)
    have hy := digit_at y (by omega)
    have m1 : min (x : Int) (y : Int) = (x : Int) := by omega
    have m2 : max (x : Int) (y : Int) = (y : Int) := by omega
    have e1 : min x y = x := by omega
    have e2 : max x y = y := by omega
    unfold nm
    rw [e1, e2]
    generalize UInt8.ofNat (48 + x) = d at *
    generalize UInt8.ofNat (48 + y) = f at *
    clear hz e1 e2
    go_enter Tryz.func134, Tryz.ntmps134
    go_wp2_with fail
    all_goals
      go_quiet (fail)
      go_wp2_with fail
      go_ret2
      exact ⟨rfl, below_drewN (Below.refl _ _) _⟩
  by_cases hyx : x = y
  · subst hyx
    have hx := digit_at x (by omega)
    have m1 : min (x : Int) (x : Int) = (x : Int) := by omega
    have m2 : max (x : Int) (x : Int) = (x : Int) := by omega
    have e1 : min x x = x := by omega
    have e2 : max x x = x := by omega
    unfold nm
    rw [e1, e2]
    generalize UInt8.ofNat (48 + x) = d at *
    clear hz e1 e2
    go_enter Tryz.func134, Tryz.ntmps134
    go_wp2_with fail
    all_goals
      go_quiet (fail)
      go_wp2_with fail
      go_ret2
      exact ⟨rfl, below_drewN (Below.refl _ _) _⟩
  · have q : (y : Int) < (x : Int) := by omega
    have q2 : ¬ (x : Int) < (y : Int) := by omega
    have hx := digit_at y (by omega)
    have hy := digit_at x (by omega)
    have m1 : min (x : Int) (y : Int) = (y : Int) := by omega
    have m2 : max (x : Int) (y : Int) = (x : Int) := by omega
    have e1 : min x y = y := by omega
    have e2 : max x y = x := by omega
    unfold nm
    rw [e1, e2]
    generalize UInt8.ofNat (48 + y) = d at *
    generalize UInt8.ofNat (48 + x) = f at *
    clear hz e1 e2
    go_enter Tryz.func134, Tryz.ntmps134
    go_wp2_with fail
    all_goals
      go_quiet (fail)
      go_wp2_with fail
      go_ret2
      exact ⟨rfl, below_drewN (Below.refl _ _) _⟩
set_option maxRecDepth 100000 in
theorem rtag9_any (a b : Int) (w : World) : Calls Tryz.prog 100 #[.int .i64 a, .int .i64 b] w fun e w' => e = .returned (st2 (nameK 107 a b)) ∧ Below w.heap.size w w' := by
  have H := Lib.hid (rname9_any 107 a b w)
  generalize nameK 107 a b = R at *
  obtain ⟨r, x⟩ := R
  unfold st2 at H ⊢
  dsimp only at H ⊢
  go_enter Tryz.func100, Tryz.ntmps100
  go_wp2_with fail
  refine H.out.mono ?_; rintro e w1 ⟨rfl, b1⟩
  have B1 := Lib.hid b1
  clear b1
  go_wp2_with fail
  go_ret2
  exact ⟨rfl, B1.out⟩
/-- A key's name as a text. -/
def nmT (c : UInt8) (x y : Nat) : ByteArray := ⟨(nm c x y).toArray⟩
theorem nameK_ok (c : UInt8) {x y : Nat} (hx : x < 8) (hy : y < 8) : st2 (nameK c x y) = .tuple #[.string (nmT c x y), .int .i64 0] := by
  unfold nameK
  rw [if_pos ⟨⟨by omega, by omega⟩, by omega, by omega⟩]
  rfl
end Go.Proofs.YtbdlegjklfkdmaaGreatDoor.Pl

namespace Go.Proofs.YtbdlegjklfkdmaaGreatDoor.Pl
open Go.RowKit

theorem ext_size (x : ByteArray) (a b : Nat) (h : b ≤ x.size) : (x.extract a b).size = b - a := by
  simp [Nat.min_eq_left h]
theorem shown_nums (key y : ByteArray) : nums (shown key y) = hide (skey (nums key)) (nums (y.extract 0 12)) (nums (y.extract 12 y.size)) := by
  unfold shown
  exact nums_bytesOf (hide_bytes _ _ (nums_bytes _))
end Go.Proofs.YtbdlegjklfkdmaaGreatDoor.Pl

namespace Go.Proofs.YtbdlegjklfkdmaaGreatDoor.Pl
open Go.RowKit

/-- The sealed form, as a text. -/
noncomputable def sealedT (key nonce s : ByteArray) : ByteArray := bytesOf (sealedL (nums key) (nums nonce) (nums s))
theorem sealedT_size (key nonce s : ByteArray) (h : nonce.size = 12) : (sealedT key nonce s).size = s.size + 44 := by
  rw [sealedT, bytesOf_size, sealedL_length, nums_length, nums_length, h]; omega
theorem sealedT_nums (key nonce s : ByteArray) : nums (sealedT key nonce s) = sealedL (nums key) (nums nonce) (nums s) := nums_bytesOf (sealedL_bytes _ (nums_bytes _) (nums_bytes _))
theorem sealedT_hid (key nonce s : ByteArray) (h : nonce.size = 12) : nums (hidOf (sealedT key nonce s)) = hiddenL (nums key) (nums nonce) (nums s) := by
  unfold hidOf
  rw [nums_extract, sealedT_nums, sealedT_size _ _ _ h, List.drop_zero, Nat.sub_zero, sealedL, List.take_append_of_le_length (by rw [hiddenL_length, nums_length, nums_length]; omega),
    List.take_of_length_le (by rw [hiddenL_length, nums_length, nums_length]; omega)]
theorem sealedT_tag (key nonce s : ByteArray) (h : nonce.size = 12) : nums (tagAt (sealedT key nonce s)) = tagOf (tkey (nums key)) (hiddenL (nums key) (nums nonce) (nums s)) := by
  unfold tagAt
  rw [nums_extract, sealedT_nums, sealedT_size _ _ _ h, sealedL, List.drop_left' (by rw [hiddenL_length, nums_length, nums_length]; omega), List.take_of_length_le (by rw [tagOf_length]; omega)]
theorem sealedT_fits (key nonce s : ByteArray) (h : nonce.size = 12) : Fits key (sealedT key nonce s) := by
  apply nums_inj
  rw [nums_bytesOf (tagOf_bytes _ _), sealedT_hid _ _ _ h, sealedT_tag _ _ _ h]
theorem sealedT_shown (key nonce s : ByteArray) (h : nonce.size = 12) : shown key (hidOf (sealedT key nonce s)) = s := by
  apply nums_inj
  have hl : (nums nonce).length = 12 := by rw [nums_length]; exact h
  have hz : (hidOf (sealedT key nonce s)).size = s.size + 12 := by unfold hidOf; rw [ext_size _ _ _ (Nat.sub_le _ _), sealedT_size _ _ _ h]; omega
  rw [shown_nums, nums_extract, nums_extract, sealedT_hid _ _ _ h, hiddenL, List.drop_zero, Nat.sub_zero, List.take_left' hl, List.drop_left' hl,
    List.take_of_length_le (by rw [hide_length, nums_length, hz]; omega), hide_hide]
end Go.Proofs.YtbdlegjklfkdmaaGreatDoor.Pl

namespace Go.Proofs.YtbdlegjklfkdmaaGreatDoor.Pl
open Go.RowKit

/-- The text of bytes. -/
def ba (l : List UInt8) : ByteArray := ⟨l.toArray⟩
theorem bl_ba (l : List UInt8) : bl (ba l) = l := by simp [bl, ba]
theorem ba_bl (s : ByteArray) : ba (bl s) = s := by simp [bl, ba]
theorem ba_size (l : List UInt8) : (ba l).size = l.length := by simp [ba, ByteArray.size]

open Classical in
/-- The sums, tags and seals of the document's standards, as plain bytes. -/
noncomputable def cryP : Cry where
  hash t := bl (bytesOf (digest (nums (ba t))))
  mac k t := bl (bytesOf (tagOf (nums (ba k)) (nums (ba t))))
  shut k n t := bl (sealedT (ba k) (ba n) (ba t))
  see k x := if 44 ≤ x.length ∧ Fits (ba k) (ba x) then some (bl (shown (ba k) (hidOf (ba x)))) else none
  hash_len t := by rw [bl_length, bytesOf_size, digest_length]
  mac_len k t := by rw [bl_length, bytesOf_size, tagOf_length]
  shut_len k n t := by rw [bl_length, sealedT, bytesOf_size, sealedL_length, nums_length, nums_length, ba_size, ba_size]
  see_shut k n t h _ := by
    have hn : (ba n).size = 12 := by rw [ba_size, h]
    rw [if_pos, ba_bl, sealedT_shown _ _ _ hn, bl_ba]
    refine ⟨?_, ?_⟩
    · rw [bl_length, sealedT_size _ _ _ hn]; omega
    · rw [ba_bl]; exact sealedT_fits _ _ _ hn
theorem cry_mac (k t : ByteArray) : cryP.mac (bl k) (bl t) = bl (bytesOf (tagOf (nums k) (nums t))) := by show bl (bytesOf (tagOf (nums (ba (bl k))) (nums (ba (bl t))))) = _; rw [ba_bl, ba_bl]
open Classical in
theorem cry_see_yes {k x : ByteArray} (h : 44 ≤ x.size) (hf : Fits k x) : cryP.see (bl k) (bl x) = some (bl (shown k (hidOf x))) := by
  show (if 44 ≤ (bl x).length ∧ Fits (ba (bl k)) (ba (bl x)) then some (bl (shown (ba (bl k)) (hidOf (ba (bl x))))) else none) = _
  rw [ba_bl, ba_bl, if_pos ⟨by rw [bl_length]; exact h, hf⟩]
open Classical in
theorem cry_see_no {k x : ByteArray} (h : ¬ (44 ≤ x.size ∧ Fits k x)) : cryP.see (bl k) (bl x) = none := by
  show (if 44 ≤ (bl x).length ∧ Fits (ba (bl k)) (ba (bl x)) then some (bl (shown (ba (bl k)) (hidOf (ba (bl x))))) else none) = _
  rw [ba_bl, ba_bl, bl_length, if_neg h]
end Go.Proofs.YtbdlegjklfkdmaaGreatDoor.Pl
