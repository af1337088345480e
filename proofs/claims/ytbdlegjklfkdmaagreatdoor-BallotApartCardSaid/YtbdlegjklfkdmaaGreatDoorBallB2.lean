/- Messages as terms, over plain bytes: what may be, what is encoded, what is read. Messages as terms, over plain bytes: what is encoded is read, and what is read is encoded as it was. A region that draws its order, by what holds whatever has come up; inside a fence, also in a round. The places of a text of terms, one behind the other: where each begins, how deep it is, where its head ends, how many parts it has; plain mathematics alone. What term's need, textSize and rowHead answer, and what they throw. What term.isName answers. What the document's parts of a term answers: a row of texts that the call owns. What the document's Places, Parts, Size, depth, Depth, In and Has of layer 6 answer: Places and depth call themselves. What the document's Parts, Size, depth, Depth, In and Has of layer 6 answer. What a suite makes of texts, what it opens and what images are, over plain bytes, whatever its sums and seals are; plain mathematics alone. What the stage's theorems about suites come down to: images of keys, what was sealed is opened, with no other key, unlike results of unlike texts; plain mathematics alone. More of what suites make of plain bytes: what a datum says, what a seal's parts are, images of trees; plain mathematics alone. Images of rows of trees, part by part; how long they are; plain mathematics alone. SHA-256 over plain numbers: the words of a block, a round, a block, a text. What sha.process answers. What sha.joined answers. A Hash in memory, and what sha.New, Len, Copy answer. The hash of a text over plain numbers: block by block, and what waits. Hexadecimal digits; an index into a text; plain facts. What hmac.Same answers: whether two texts are equal. What hmac.Same answers, under a name of its own. What a law's statement asks behind its walk: the one result is true, and each argument reads as it did, where below the heap's old size nothing has turned. Whatever the parameters' types are. -/
import Derived.Test.YtbdlegjklfkdmaaGreatDoorBallB1
import Derived.OrdersIn
import Derived.OwnWalkIn
import Derived.WalkLawsBesides
import Derived.Laws.RangeString
import Derived.Laws.RangeAny
import Derived.Lib.RuneBytes
import Derived.Laws.Cover4
import Derived.Lib.OthersKept
import Derived.Laws.OwnMore
import Derived.OwnWalk
import Derived.Maps.AppendAt
import Derived.Laws.BitsAllLaws
import Derived.Test.YtbdlegjklfkdmaaGreatDoorProg
import Derived.WalkKit
import Derived.Outline
import Derived.Handy
import Derived.Lib.Hide
import Derived.BigRegion
import Derived.BigQuiet
import Derived.Deep.QuietTactic
import Derived.LoopTactic
import Derived.Laws.IdiomStrings
import Derived.Deep.MidRow
import Derived.Laws.CopyRow
import Derived.IntWalk
import Derived.Deep.RegionLaw
import Derived.Deep.AppendLies
import Derived.ProofKit
import Derived.OpenShut
import Derived.Carry
import Derived.ChangeOld
namespace Go.Proofs.YtbdlegjklfkdmaaGreatDoor.Pl
open Go.RowKit

def tb (l : List UInt8) : ByteArray := ⟨l.toArray⟩
theorem bl_tb (l : List UInt8) : bl (tb l) = l := rfl
theorem tb_bl (x : ByteArray) : tb (bl x) = x := rfl
theorem map_tb_bl (l : List ByteArray) : (l.map bl).map tb = l := by
  rw [List.map_map]; exact (List.map_congr_left (fun x _ => tb_bl x)).trans (List.map_id l)

/-! ### Trees and kinds -/
theorem kindh12 {h : List UInt8} {l : List Tm} (hv : (Tm.node h l).valid) {b : UInt8} {r : List UInt8} (e : h = b :: r) : kindP (Tm.node h l).enc = if b = 100 then 1 else if b = 97 then 2 else if b = 114 then 3 else if b = 104 then 4 else if b = 109 then 5 else 6 := by
  unfold kindP
  rw [if_pos (check_enc hv), Tm.enc_node, e, List.cons_append]
theorem texth12 {h : List UInt8} {l : List Tm} (hv : (Tm.node h l).valid) {x : List UInt8} (e : h = 100 :: txt x) (hx : x.length ≤ 1024) : textP (Tm.node h l).enc = (x, true) := by
  have hr := rdt_txt (t := x) (by rw [two64]; omega) (encs l) 1024 (by omega)
  unfold textP
  rw [if_pos ⟨check_enc hv, by rw [Tm.enc_node, e]; simp⟩, Tm.enc_node, e, List.cons_append, List.drop_succ_cons, List.drop_zero, hr]
theorem row_read {l : List (List UInt8)} (h8 : l.length < 256 ^ 8) {r : List UInt8} (h : rowP l = (r, 0)) : kindP r = 3 ∧ (partsP r).1 = l ∧ checkP r = 0 := by
  obtain ⟨m, hv, e, em⟩ := row_parts h8 h
  refine ⟨by rw [← e, kindh12 hv rfl]; rfl, ?_, by rw [← e]; exact check_enc hv⟩
  unfold partsP
  rw [← e, treeOf_enc hv]
  exact em
theorem row_err {l : List (List UInt8)} (h : ∀ x ∈ l, checkP x = 0) : (rowP l).2 = 0 ∨ rowP l = ([], 5) := by
  unfold rowP madeP
  rw [if_pos h]
  split
  · exact .inl rfl
  · exact .inr rfl
theorem row_ok {l : List (List UInt8)} (h : (rowP l).2 = 0) : rowP l = ((rowP l).1, 0) := Prod.ext rfl h
theorem leaf12 {x : List UInt8} (hx : x.length ≤ 1024) : (Tm.node (100 :: txt x) []).valid ∧ (Tm.node (100 :: txt x) []).enc = 100 :: txt x := by
  have e : (Tm.node (100 :: txt x) []).enc = 100 :: txt x := by rw [Tm.enc_node]; simp [encs]
  refine ⟨⟨by simp only [Tm.good]; exact ⟨data_head hx, by simp [goods]⟩, by simp [Tm.deep, deeps], ?_⟩, e⟩
  rw [e, List.length_cons, txt_len]
  have := enc_len x.length
  omega
theorem data_read {x : List UInt8} (hx : x.length ≤ 1024) : dataP x = (100 :: txt x, 0) ∧ kindP (100 :: txt x) = 1 ∧ textP (100 :: txt x) = (x, true) ∧ checkP (100 :: txt x) = 0 := by
  obtain ⟨hv, e⟩ := leaf12 hx
  have h1 := kindh12 hv rfl
  have h2 := texth12 hv rfl hx
  rw [e] at h1 h2
  exact ⟨by unfold dataP; exact if_neg (by omega), h1, h2, by rw [← e]; exact check_enc hv⟩
/-- A number's term. -/
theorem num_read {v : Int} (h0 : 0 ≤ v) (h1 : v ≤ 2147483647) : ∃ s, numP v = (s, 0) ∧ checkP s = 0 ∧ kindP s = 1 ∧ readnumP s = (v.toNat, true) ∧ s.length ≤ 19 := by
  have he := enc_len v.toNat
  obtain ⟨_, k1, k2, k3⟩ := data_read (x := enc v.toNat) (by omega)
  refine ⟨100 :: txt (enc v.toNat), if_pos ⟨h0, h1⟩, k3, k1, ?_, ?_⟩
  · have hr := rdn_enc (v := v.toNat) (by rw [two64]; omega) []
    rw [List.append_nil] at hr
    unfold readnumP
    rw [k2, k1, hr]
    rw [if_pos ⟨rfl, rfl, rfl, rfl, by simp only; omega⟩]
  · rw [List.length_cons, txt_len]
    have := enc_len (enc v.toNat).length
    omega
/-! ### What may be -/
abbrev Mb := Int × ByteArray
def orgP (v : Int) : Bool := decide (0 ≤ v) && decide (v < 8)
def mayX (c e q : Int) : Bool := orgP c && decide (1 ≤ e) && decide (e ≤ 255) && decide (1 ≤ q) && decide (q ≤ 65535)
def termP (s : ByteArray) : Bool := checkP (bl s) == 0
def mayM1 (c last : Int) (m : Mb) : Bool := orgP m.1 && !(m.1 == c) && decide (last < m.1) && termP m.2
def mayMs (c : Int) : Int → List Mb → Bool
  | _, [] => true
  | last, m :: r => mayM1 c last m && mayMs c m.1 r
def mayL (c : Int) (l : List Mb) : Bool := decide (1 ≤ l.length) && decide (l.length ≤ 6) && mayMs c (-1) l
/-! ### What is encoded -/
def txnL (c e q : Int) : List (List UInt8) := [(numP c).1, (numP e).1, (numP q).1]
def txnT (c e q : Int) : List UInt8 := (rowP (txnL c e q)).1
def memT (m : Mb) : List UInt8 × Nat := rowP [(numP m.1).1, bl m.2]
def membersT (l : List Mb) : List UInt8 × Nat := if ∀ m ∈ l, (memT m).2 = 0 then rowP (l.map fun m => (memT m).1) else ([], 5)
/-! ### What is read -/
noncomputable def partsB (t : ByteArray) : List ByteArray := (partsP (bl t)).1.map tb
noncomputable def rdN (x : ByteArray) : Option Int := if (readnumP (bl x)).2 = true then some ((readnumP (bl x)).1 : Int) else none
noncomputable def getN : List ByteArray → Option (Int × List ByteArray)
  | [] => none
  | a :: r => (rdN a).map fun v => (v, r)
def endR {α : Type} : Option (α × List ByteArray) → Option α
  | some (x, []) => some x
  | _ => none
noncomputable def rowR {α : Type} (t : ByteArray) (g : List ByteArray → Option (α × List ByteArray)) : Option α :=
  if kindP (bl t) = 3 then endR (g (partsB t)) else none
noncomputable def txnG (l : List ByteArray) : Option ((Int × Int × Int) × List ByteArray) :=
  match getN l with
  | none => none
  | some (c, l1) => match getN l1 with
    | none => none
    | some (e, l2) => match getN l2 with
      | none => none
      | some (q, l3) => some ((c, e, q), l3)
noncomputable def txnR (t : ByteArray) : Option (Int × Int × Int) := match rowR t txnG with | some (c, e, q) => if mayX c e q = true then some (c, e, q) else none | none => none
noncomputable def memG (l : List ByteArray) : Option (Mb × List ByteArray) :=
  match getN l with
  | none => none
  | some (o, l1) => match l1 with
    | [] => none
    | d :: r => some ((o, d), r)
noncomputable def memsR : List ByteArray → Option (List Mb)
  | [] => some []
  | p :: r => match rowR p memG with
    | none => none
    | some m => (memsR r).map fun l => m :: l
noncomputable def membersR (c : Int) (t : ByteArray) : Option (List Mb) :=
  if kindP (bl t) = 3 then (match memsR (partsB t) with | some l => if mayL c l = true then some l else none | none => none) else none
end Go.Proofs.YtbdlegjklfkdmaaGreatDoor.Pl

namespace Go.Proofs.YtbdlegjklfkdmaaGreatDoor.Pl
open Go.RowKit

theorem orgP_iff {v : Int} : orgP v = true ↔ 0 ≤ v ∧ v < 8 := by simp [orgP]
theorem mayX_iff {c e q : Int} : mayX c e q = true ↔ (0 ≤ c ∧ c < 8) ∧ (1 ≤ e ∧ e ≤ 255) ∧ 1 ≤ q ∧ q ≤ 65535 := by
  simp only [mayX, Bool.and_eq_true, decide_eq_true_eq, orgP]
  constructor
  · rintro ⟨⟨⟨⟨⟨a, b⟩, c⟩, d⟩, e⟩, f⟩; exact ⟨⟨a, b⟩, ⟨c, d⟩, e, f⟩
  · rintro ⟨⟨a, b⟩, ⟨c, d⟩, e, f⟩; exact ⟨⟨⟨⟨⟨a, b⟩, c⟩, d⟩, e⟩, f⟩
theorem rdN_num {v : Int} (h0 : 0 ≤ v) (h1 : v ≤ 2147483647) : rdN (tb (numP v).1) = some v ∧ checkP (numP v).1 = 0 := by
  obtain ⟨s, e, hc, _, hr, _⟩ := num_read h0 h1
  rw [e]
  refine ⟨?_, hc⟩
  unfold rdN
  rw [bl_tb, hr, if_pos rfl]
  congr 1
  simp only
  omega
theorem num_ok {v : Int} (h0 : 0 ≤ v) (h1 : v ≤ 2147483647) : (numP v).2 = 0 ∧ (numP v).1.length ≤ 19 ∧ ∃ x, x.length ≤ 1024 ∧ (numP v).1 = 100 :: txt x := by
  obtain ⟨s, e, _, _, _, hl⟩ := num_read h0 h1
  refine ⟨by rw [e], by rw [e]; exact hl, enc v.toNat, by have := enc_len v.toNat; omega, ?_⟩
  unfold numP
  rw [if_pos ⟨h0, h1⟩]
theorem rowR_row {α : Type} {l : List (List UInt8)} {r : List UInt8} (hl : l.length ≤ 1000) (h : rowP l = (r, 0)) (g : List ByteArray → Option (α × List ByteArray)) : rowR (tb r) g = endR (g (l.map tb)) := by
  obtain ⟨h1, h2, _⟩ := row_read (by omega) h
  unfold rowR partsB
  rw [bl_tb, if_pos h1, h2]
theorem txn_ok {c e q : Int} (h : mayX c e q = true) : rowP (txnL c e q) = (txnT c e q, 0) ∧ checkP (txnT c e q) = 0 := by
  obtain ⟨h1, h2, h3⟩ := mayX_iff.1 h
  obtain ⟨_, l1, x1, y1, e1⟩ := num_ok (v := c) (by omega) (by omega)
  obtain ⟨_, l2, x2, y2, e2⟩ := num_ok (v := e) (by omega) (by omega)
  obtain ⟨_, l3, x3, y3, e3⟩ := num_ok (v := q) (by omega) (by omega)
  obtain ⟨v1, f1⟩ := leaf12 y1
  obtain ⟨v2, f2⟩ := leaf12 y2
  obtain ⟨v3, f3⟩ := leaf12 y3
  have el : txnL c e q = [Tm.node (100 :: txt x1) [], Tm.node (100 :: txt x2) [], Tm.node (100 :: txt x3) []].map Tm.enc := by
    simp only [List.map_cons, List.map_nil, f1, f2, f3, txnL, e1, e2, e3]
  rw [e1] at l1; rw [e2] at l2; rw [e3] at l3
  have hv : (Tm.node (114 :: enc 3) [Tm.node (100 :: txt x1) [], Tm.node (100 :: txt x2) [], Tm.node (100 :: txt x3) []]).valid := by
    refine ⟨?_, ?_, ?_⟩
    · simp only [Tm.good, goods, List.length_cons, List.length_nil]
      exact ⟨row_head (by decide), by simpa only [Tm.good, goods, List.length_nil] using v1.1, by simpa only [Tm.good, goods, List.length_nil] using v2.1, by simpa only [Tm.good, goods, List.length_nil] using v3.1, trivial⟩
    · simp [Tm.deep, deeps]
    · rw [Tm.enc_node]
      simp only [encs, f1, f2, f3, List.length_append, List.length_cons, List.length_nil] at *
      have := enc_len 3
      omega
  have hm := made_again hv
  rw [← el] at hm
  have hr : rowP (txnL c e q) = ((Tm.node (114 :: enc 3) [Tm.node (100 :: txt x1) [], Tm.node (100 :: txt x2) [], Tm.node (100 :: txt x3) []]).enc, 0) := hm
  have ht : txnT c e q = (Tm.node (114 :: enc 3) [Tm.node (100 :: txt x1) [], Tm.node (100 :: txt x2) [], Tm.node (100 :: txt x3) []]).enc := by unfold txnT; rw [hr]
  exact ⟨by rw [ht]; exact hr, by rw [ht]; exact check_enc hv⟩
theorem getN_cons {a : ByteArray} {r : List ByteArray} : getN (a :: r) = (rdN a).map fun v => (v, r) := rfl
theorem txnG_ok {c e q : Int} (h : mayX c e q = true) (r : List ByteArray) : txnG ((txnL c e q).map tb ++ r) = some ((c, e, q), r) := by
  obtain ⟨h1, h2, h3⟩ := mayX_iff.1 h
  have n1 := (rdN_num (v := c) (by omega) (by omega)).1
  have n2 := (rdN_num (v := e) (by omega) (by omega)).1
  have n3 := (rdN_num (v := q) (by omega) (by omega)).1
  simp only [txnG, txnL, List.map_cons, List.map_nil, List.cons_append, List.nil_append, getN_cons, n1, n2, n3, Option.map_some]
theorem txnR_ok {c e q : Int} (h : mayX c e q = true) : txnR (tb (txnT c e q)) = some (c, e, q) := by
  unfold txnR
  rw [rowR_row (l := txnL c e q) (by simp [txnL]) (txn_ok h).1]
  have := txnG_ok h []
  rw [List.append_nil] at this
  rw [this]
  simp only [endR, h, if_true]
theorem memR_ok {m : Mb} (h : (memT m).2 = 0) (ho : orgP m.1 = true) : rowR (tb (memT m).1) memG = some m := by
  have n1 := orgP_iff.1 ho
  have n2 := (rdN_num (v := m.1) (by omega) (by omega)).1
  have h' : rowP [(numP m.1).1, bl m.2] = ((memT m).1, 0) := row_ok h
  rw [rowR_row (by simp) h']
  simp only [memG, endR, List.map_cons, List.map_nil, getN_cons, n2, Option.map_some, tb_bl]
theorem mayMs_all {c : Int} : ∀ {last : Int} {l : List Mb}, mayMs c last l = true → ∀ m ∈ l, orgP m.1 = true ∧ checkP (bl m.2) = 0 ∧ m.1 ≠ c
  | _, [], _, m, hm => by cases hm
  | last, x :: r, h, m, hm => by
    simp only [mayMs, Bool.and_eq_true] at h
    rcases List.mem_cons.1 hm with rfl | hm
    · have h1 := h.1
      simp only [mayM1, Bool.and_eq_true, termP, beq_iff_eq, Bool.not_eq_true', beq_eq_false_iff_ne] at h1
      exact ⟨h1.1.1.1, h1.2, h1.1.1.2⟩
    · exact mayMs_all h.2 m hm
theorem mayL_iff {c : Int} {l : List Mb} : mayL c l = true ↔ 1 ≤ l.length ∧ l.length ≤ 6 ∧ mayMs c (-1) l = true := by
  simp [mayL, Bool.and_eq_true, and_assoc]
theorem memsR_ok {l : List Mb} (h : ∀ m ∈ l, (memT m).2 = 0 ∧ orgP m.1 = true) : memsR ((l.map fun m => (memT m).1).map tb) = some l := by
  induction l with
  | nil => rfl
  | cons m l ih =>
    obtain ⟨h1, h2⟩ := h m (List.mem_cons_self ..)
    simp only [List.map_cons, memsR, memR_ok h1 h2]
    rw [ih (fun x hx => h x (List.mem_cons_of_mem _ hx))]
    rfl
theorem membersT_is {l : List Mb} (h : (membersT l).2 = 0) : (∀ m ∈ l, (memT m).2 = 0) ∧ rowP (l.map fun m => (memT m).1) = ((membersT l).1, 0) := by
  unfold membersT at h ⊢
  split at h
  · rename_i k
    rw [if_pos k]
    exact ⟨k, row_ok h⟩
  · cases h
theorem membersR_ok {c : Int} {l : List Mb} (hl : mayL c l = true) (h : (membersT l).2 = 0) : membersR c (tb (membersT l).1) = some l := by
  obtain ⟨h1, h2⟩ := membersT_is h
  obtain ⟨l1, l6, hm⟩ := mayL_iff.1 hl
  obtain ⟨k1, k2, _⟩ := row_read (by rw [List.length_map]; omega) h2
  have e : memsR (partsB (tb (membersT l).1)) = some l := by
    unfold partsB
    rw [bl_tb, k2]
    exact memsR_ok fun m hmm => ⟨h1 m hmm, (mayMs_all hm m hmm).1⟩
  unfold membersR
  rw [bl_tb, if_pos k1, e]
  simp only [hl, if_true]
end Go.Proofs.YtbdlegjklfkdmaaGreatDoor.Pl

namespace Go.Proofs.YtbdlegjklfkdmaaGreatDoor.Pl

def unlisted (l : List Bool) : Nat := (l.map fun b => if b then 0 else 1).sum
theorem unlisted_set : ∀ (l : List Bool) (i : Nat), l.getD i true = false → unlisted (l.set i true) + 1 = unlisted l
  | [], i, h => by simp at h
  | b :: l, 0, h => by
    simp at h; subst h
    simp [unlisted]; omega
  | b :: l, i + 1, h => by
    have ih := unlisted_set l i (by simpa using h)
    simp only [unlisted, List.set_cons_succ, List.map_cons, List.sum_cons] at ih ⊢
    omega
theorem unlisted_zero : ∀ (l : List Bool) (i : Nat), unlisted l = 0 → l.getD i true = true
  | [], i, _ => by simp
  | b :: l, 0, h => by
    cases b with
    | true => rfl
    | false => simp [unlisted] at h
  | b :: l, i + 1, h => by
    have h' : unlisted l = 0 := by
      simp only [unlisted, List.map_cons, List.sum_cons] at h ⊢
      omega
    simpa using unlisted_zero l i h'

variable {F : Fence} {n : Nat} {P : Program} {ops : Array Oper} {Q : Exit → Act → World → Prop} {md : Region.Mode}

theorem getD_list (a : Array Bool) (i : Nat) (d : Bool) : a.getD i d = a.toList.getD i d := by
  rw [Array.getD_eq_getD_getElem?, List.getD_eq_getElem?_getD, Array.getElem?_toList]

/-- What holds whatever has come up serves every order. -/
theorem wpAnyIn_inv (I : Array Bool → Act → World → Prop)
    (hstep : ∀ listed a w i, I listed a w → i ∈ Region.ready md ops listed → wpOpIn F n P ops Q i (I (listed.setIfInBounds i true)) a w)
    (hdone : ∀ listed a w, I listed a w → Region.ready md ops listed = [] → Q .normal a w) :
    ∀ (fuel : Nat) (listed : Array Bool) (a : Act) (w : World), unlisted listed.toList ≤ fuel → I listed a w → wpAnyIn F n P md ops Q fuel listed a w
  | 0, listed, a, w, hf, hI => by
    have h0 : Region.ready md ops listed = [] := by
      rw [List.eq_nil_iff_forall_not_mem]
      intro i hi
      have h1 := (mem_ready.1 hi).1
      rw [getD_list, unlisted_zero _ _ (by omega)] at h1
      cases h1
    exact ⟨h0, hdone _ _ _ hI h0⟩
  | fuel + 1, listed, a, w, hf, hI => by
    refine ⟨fun h0 => hdone _ _ _ hI h0, fun i hi => ?_⟩
    refine wpOpIn_mono (fun a' w' h => wpAnyIn_inv I hstep hdone fuel _ a' w' ?_ h) (hstep _ _ _ _ hI hi)
    have h1 := (mem_ready.1 hi).1
    rw [getD_list] at h1
    have h2 := unlisted_set listed.toList i h1
    rw [Array.toList_setIfInBounds]
    omega

/-- Every operation waits for earlier ones alone. -/
def backB (ops : Array Oper) : Bool := (List.range ops.size).all fun i => match ops[i]? with | some o => o.after.all (fun e => decide (e.on < i)) | none => true
theorem backB_spec (h : backB ops = true) {i : Nat} {o : Oper} (ho : ops[i]? = some o) : ∀ e ∈ o.after, e.on < i := by
  intro e he
  unfold backB at h
  have h1 := List.all_eq_true.1 h i (List.mem_range.2 (Array.getElem?_eq_some_iff.1 ho).1)
  simp only [ho] at h1
  have h2 := Array.all_eq_true_iff_forall_mem.1 h1 e he
  simpa using h2
/-- Where nothing may come up any more, everything has. -/
theorem all_listed {listed : Array Bool} (hb : backB ops = true) (hs : listed.size = ops.size) (hr : Region.ready md ops listed = []) : ∀ (k i : Nat), i < k → i < ops.size → listed.getD i true = true
  | 0, _, h, _ => by omega
  | k + 1, i, hk, hi => by
    cases hl : listed.getD i true with
    | true => rfl
    | false =>
      have hm : i ∈ Region.ready md ops listed := by
        refine mem_ready.2 ⟨hl, ops[i], Array.getElem?_eq_getElem hi, fun e he _ => ?_⟩
        have hlt := backB_spec hb (Array.getElem?_eq_getElem hi) e he
        have h1 := all_listed hb hs hr k e.on (by omega) (by omega)
        rw [Array.getD_eq_getD_getElem?, Array.getElem?_eq_getElem (by omega)] at h1 ⊢
        exact h1
      rw [hr] at hm
      cases hm

theorem dep {i : Nat} {listed : Array Bool} {o : Oper} (hi : i ∈ Region.ready md ops listed) (ho : ops[i]? = some o) (e : Edge) (he : e ∈ o.after) (hb : Region.binds md e = true) : listed.getD e.on false = true := by
  obtain ⟨_, o', ho', hall⟩ := mem_ready.1 hi
  rw [ho] at ho'
  cases ho'
  exact hall e he hb

/-- One operation that is carried out, what follows behind a variable. -/
theorem wpOpIn_want {i : Nat} {o : Oper} {a : Act} {w : World} {I : Act → World → Prop} (ho : ops[i]? = some o) (hw : Region.wanted o (yielded ops a.tmps) = true)
    (h : ∀ K : Act → World → Prop, (∀ a w, I a w → K a w) → o.wpIn F n P a w K Q) : wpOpIn F n P ops Q i I a w := by
  unfold wpOpIn
  simp only [ho, hw, if_true]
  exact h I (fun _ _ h => h)

/-- An append that is known to go through. -/
theorem wpOpIn_append {i : Nat} {o : Oper} {a : Act} {w w' : World} {v u v' : Value} {I : Act → World → Prop} (ho : ops[i]? = some o) (hg : Region.wanted o (yielded ops a.tmps) = true) (s x : Operand) (t : TypeId)
    (hop : o.op = Op.call { callee := Callee.builtin Builtin.append, args := #[s, x], argTypes := #[t, t] }) (hs : a.eval s = v) (hx : a.eval x = u) (hrun : (Builtin.append_ #[t, t] o.type #[v, u]).run P w = .ok v' w')
    (h : I (a.put o.dst v') w') : wpOpIn F n P ops Q i I a w := by
  unfold wpOpIn
  simp only [ho, hg, if_true]
  unfold Oper.wpIn
  refine ⟨?_, ?_⟩
  · simp [Oper.about, hop, resolve, Target.leads, Sem.run_pure]
  · rw [Oper.semAt_plain F _ _ (by rw [hop]; intro c hc'; cases hc')]
    simp [execOp, hop, resolve, invoke, builtin, hs, hx, hrun, Result.andThen, Oper.uponIn]
    exact h

end Go.Proofs.YtbdlegjklfkdmaaGreatDoor.Pl

namespace Go.Proofs.YtbdlegjklfkdmaaGreatDoor.Pl

structure Pl6 where
  at_ : Nat
  dep : Nat
  head : Nat
  parts : Nat

/-- Of so many terms, one behind the other. -/
def visL (vs : Nat → List Pl6 × Nat × Nat) : Nat → Nat → List Pl6 × Nat × Nat
  | 0, a => ([], a, 0)
  | k + 1, a => if (vs a).2.2 = 0 then ((vs a).1 ++ (visL vs k (vs a).2.1).1, (visL vs k (vs a).2.1).2) else ((vs a).1, 0, (vs a).2.2)
/-- Of the term at a place, that is no deeper than d below. -/
def visP (s : List UInt8) : Nat → Nat → List Pl6 × Nat × Nat
  | 0, _ => ([], 0, 60)
  | d + 1, a =>
    if (headP (s.drop a)).2.2 = 0 then
      (⟨a, 16 - d, a + (headP (s.drop a)).1, (headP (s.drop a)).2.1⟩ :: (visL (visP s d) (headP (s.drop a)).2.1 (a + (headP (s.drop a)).1)).1, (visL (visP s d) (headP (s.drop a)).2.1 (a + (headP (s.drop a)).1)).2)
    else ([], 0, (headP (s.drop a)).2.2)

/-- Where the places end, and what is wrong, is what reading tells. -/
theorem vis_read (s : List UInt8) : ∀ (d a : Nat), (visP s d a).2 = if (readP d (s.drop a)).2 = 0 then (a + (readP d (s.drop a)).1, 0) else (0, (readP d (s.drop a)).2) := by
  intro d
  induction d with
  | zero => intro a; simp [visP, readP]
  | succ d ih =>
    have loop : ∀ (k a : Nat), (visL (visP s d) k a).2 = if (loopP (readP d) k (s.drop a)).2 = 0 then (a + (loopP (readP d) k (s.drop a)).1, 0) else (0, (loopP (readP d) k (s.drop a)).2) := by
      intro k
      induction k with
      | zero => intro a; simp [visL, loopP]
      | succ k ihk =>
        intro a
        have h := ih a
        by_cases h0 : (readP d (s.drop a)).2 = 0
        · rw [if_pos h0] at h
          have h1 : (visP s d a).2.2 = 0 := by rw [h]
          have h2 : (visP s d a).2.1 = a + (readP d (s.drop a)).1 := by rw [h]
          rw [visL, if_pos h1, loopP, if_pos h0]
          simp only
          rw [ihk, h2, ← List.drop_drop]
          by_cases h3 : (loopP (readP d) k ((s.drop a).drop (readP d (s.drop a)).1)).2 = 0
          · rw [if_pos h3, if_pos h3]; simp [Nat.add_assoc]
          · rw [if_neg h3, if_neg h3]; exact (if_neg h3).symm
        · rw [if_neg h0] at h
          have h1 : (visP s d a).2.2 ≠ 0 := by rw [h]; exact h0
          rw [visL, if_neg h1, loopP, if_neg h0]
          simp only
          rw [if_neg h0, h]
    intro a
    by_cases h0 : (headP (s.drop a)).2.2 = 0
    · rw [visP, if_pos h0, readP, if_pos h0]
      simp only
      rw [loop, ← List.drop_drop]
      by_cases h3 : (loopP (readP d) (headP (s.drop a)).2.1 ((s.drop a).drop (headP (s.drop a)).1)).2 = 0
      · rw [if_pos h3, if_pos h3]; simp [Nat.add_assoc]
      · rw [if_neg h3, if_neg h3]; exact (if_neg h3).symm
    · rw [visP, if_neg h0, readP, if_neg h0]
      simp [h0]

theorem head_le {s : List UInt8} (h : (headP s).2.2 = 0) : (headP s).1 ≤ s.length := (head_front (s := s) (n := (headP s).1) (p := (headP s).2.1) (by rw [← h])).1
theorem head_le32 {s : List UInt8} (h : (headP s).2.2 = 0) : (headP s).2.1 ≤ 32 := by
  obtain ⟨c, hk⟩ := head_kind (head_front (s := s) (n := (headP s).1) (p := (headP s).2.1) (by rw [← h])).2
  cases hk <;> omega
/-- What every place is. -/
def okPl (s : List UInt8) (p : Pl6) : Prop := p.at_ ≤ s.length ∧ p.head ≤ s.length ∧ 1 ≤ p.dep ∧ p.dep ≤ 16 ∧ p.parts ≤ 32
theorem vis_ok (s : List UInt8) : ∀ (d a : Nat), d ≤ 16 → a ≤ s.length → (∀ p ∈ (visP s d a).1, okPl s p) ∧ ((visP s d a).2.2 = 0 → (visP s d a).2.1 ≤ s.length) := by
  intro d
  induction d with
  | zero => intro a _ _; simp [visP]
  | succ d ih =>
    intro a hd ha
    have loop : ∀ (k a : Nat), a ≤ s.length → (∀ p ∈ (visL (visP s d) k a).1, okPl s p) ∧ ((visL (visP s d) k a).2.2 = 0 → (visL (visP s d) k a).2.1 ≤ s.length) := by
      intro k
      induction k with
      | zero => intro a ha; simp [visL, ha]
      | succ k ihk =>
        intro a ha
        obtain ⟨i1, i2⟩ := ih a (by omega) ha
        rw [visL]
        split
        · rename_i h0
          obtain ⟨j1, j2⟩ := ihk (visP s d a).2.1 (i2 h0)
          refine ⟨?_, j2⟩
          intro p hp
          rcases List.mem_append.1 hp with hp | hp
          · exact i1 p hp
          · exact j1 p hp
        · rename_i h0
          exact ⟨i1, fun h => absurd h h0⟩
    rw [visP]
    split
    · rename_i h0
      have h1 := head_le h0
      have h2 := head_le32 h0
      rw [List.length_drop] at h1
      obtain ⟨j1, j2⟩ := loop (headP (s.drop a)).2.1 (a + (headP (s.drop a)).1) (by omega)
      refine ⟨?_, j2⟩
      intro p hp
      rcases List.mem_cons.1 hp with rfl | hp
      · exact ⟨ha, by show a + _ ≤ _; omega, by show 1 ≤ 16 - d; omega, by show 16 - d ≤ 16; omega, h2⟩
      · exact j1 p hp
    · rename_i h0
      exact ⟨by simp, fun h => absurd h h0⟩

/-- The last place's head is where all ends. -/
theorem vis_last (s : List UInt8) : ∀ (d a : Nat), (visP s d a).2.2 = 0 → ∃ q p, (visP s d a).1 = q ++ [p] ∧ p.head = (visP s d a).2.1 := by
  intro d
  induction d with
  | zero => intro a h; simp [visP] at h
  | succ d ih =>
    have loop : ∀ (k a : Nat), (visL (visP s d) (k + 1) a).2.2 = 0 → ∃ q p, (visL (visP s d) (k + 1) a).1 = q ++ [p] ∧ p.head = (visL (visP s d) (k + 1) a).2.1 := by
      intro k
      induction k with
      | zero =>
        intro a h
        rw [visL] at h ⊢
        split at h
        · rename_i h0
          rw [if_pos h0]
          obtain ⟨q, p, e1, e2⟩ := ih a h0
          exact ⟨q, p, by simp [visL, e1], by simp [visL, e2]⟩
        · rename_i h0
          exact absurd h h0
      | succ k ihk =>
        intro a h
        rw [visL] at h ⊢
        split at h
        · rename_i h0
          rw [if_pos h0]
          obtain ⟨q, p, e1, e2⟩ := ihk _ h
          exact ⟨(visP s d a).1 ++ q, p, by simp [e1], e2⟩
        · rename_i h0
          exact absurd h h0
    intro a h
    rw [visP] at h ⊢
    split at h
    · rename_i h0
      rw [if_pos h0]
      cases hk : (headP (s.drop a)).2.1 with
      | zero => exact ⟨[], ⟨a, 16 - d, a + (headP (s.drop a)).1, 0⟩, by simp [visL], by simp [visL]⟩
      | succ k =>
        rw [hk] at h
        obtain ⟨q, p, e1, e2⟩ := loop k _ h
        exact ⟨_ :: q, p, by simp [e1]; rfl, e2⟩
    · rename_i h0
      exact absurd h h0

/- The places of a tree, each with what stands there. -/
mutual
def offT : Nat → Nat → Tm → List (Pl6 × Tm)
  | a, D, .node h l => (⟨a, D, a + h.length, l.length⟩, .node h l) :: offs (a + h.length) (D + 1) l
def offs : Nat → Nat → List Tm → List (Pl6 × Tm)
  | _, _, [] => []
  | a, D, t :: l => offT a D t ++ offs (a + t.enc.length) D l
end
theorem offs_snd : ∀ t : Tm, ∀ a D, (offT a D t).map Prod.snd = t.places := by
  refine Tm.ind ?_
  intro h l ih a D
  have loop : ∀ m : List Tm, (∀ t ∈ m, t ∈ l) → ∀ a D, (offs a D m).map Prod.snd = placess m := by
    intro m
    induction m with
    | nil => intro _ a D; rfl
    | cons t m ihm =>
      intro hm a D
      rw [offs, List.map_append, ih t (hm t (List.mem_cons_self ..)), ihm (fun u hu => hm u (List.mem_cons_of_mem _ hu)), placess]
  rw [offT, List.map_cons, loop l (fun _ h => h), Tm.places]
/-- What reading a tree's bytes goes over. -/
theorem vis_tree (s : List UInt8) : ∀ t : Tm, t.good → ∀ d, t.deep ≤ d → d ≤ 16 → ∀ a rest, s.drop a = t.enc ++ rest → visP s d a = ((offT a (17 - d) t).map Prod.fst, a + t.enc.length, 0) := by
  refine Tm.ind ?_
  intro h l ih hg d hd hd16 a rest e
  simp only [Tm.good] at hg
  simp only [Tm.deep] at hd
  obtain ⟨d, rfl⟩ : ∃ k, d = k + 1 := ⟨d - 1, by omega⟩
  have loop : ∀ m : List Tm, (∀ t ∈ m, t ∈ l) → ∀ a rest, s.drop a = encs m ++ rest → visL (visP s d) m.length a = ((offs a (17 - d) m).map Prod.fst, a + (encs m).length, 0) := by
    intro m
    induction m with
    | nil => intro _ a rest _; simp [visL, offs, encs]
    | cons t m ihm =>
      intro hm a rest e
      have ht := hm t (List.mem_cons_self ..)
      rw [encs, List.append_assoc] at e
      have h1 := ih t ht (goods_mem hg.2 t ht) d (by have := deeps_mem ht; omega) (by omega) a _ e
      have e2 : s.drop (a + t.enc.length) = encs m ++ rest := by rw [← List.drop_drop, e, List.drop_left]
      have h2 := ihm (fun u hu => hm u (List.mem_cons_of_mem _ hu)) _ _ e2
      rw [List.length_cons, visL, h1, if_pos rfl]
      simp only
      rw [h2, offs, encs, List.map_append]
      simp [Nat.add_assoc]
  rw [Tm.enc_node, List.append_assoc] at e
  have e1 := hg.1 (encs l ++ rest)
  have e2 : s.drop (a + h.length) = encs l ++ rest := by rw [← List.drop_drop, e, List.drop_left]
  rw [visP, e, e1, if_pos rfl]
  simp only
  rw [loop l (fun _ h => h) _ _ e2, offT, Tm.enc_node]
  have hD : 17 - (d + 1) = 16 - d := by omega
  have hD2 : 17 - (d + 1) + 1 = 17 - d := by omega
  rw [hD2, hD, List.map_cons]
  simp [Nat.add_assoc]
/-- What stands at a place. -/
theorem offs_at (s : List UInt8) : ∀ t : Tm, ∀ a D rest, s.drop a = t.enc ++ rest → ∀ x ∈ offT a D t, ∃ r, s.drop x.1.at_ = x.2.enc ++ r := by
  refine Tm.ind ?_
  intro h l ih a D rest e
  have loop : ∀ m : List Tm, (∀ t ∈ m, t ∈ l) → ∀ a D rest, s.drop a = encs m ++ rest → ∀ x ∈ offs a D m, ∃ r, s.drop x.1.at_ = x.2.enc ++ r := by
    intro m
    induction m with
    | nil => intro _ a D rest _ x hx; simp [offs] at hx
    | cons t m ihm =>
      intro hm a D rest e x hx
      rw [encs, List.append_assoc] at e
      rw [offs] at hx
      rcases List.mem_append.1 hx with hx | hx
      · exact ih t (hm t (List.mem_cons_self ..)) a D _ e x hx
      · exact ihm (fun u hu => hm u (List.mem_cons_of_mem _ hu)) (a + t.enc.length) D rest (by rw [← List.drop_drop, e, List.drop_left]) x hx
  intro x hx
  rw [offT] at hx
  rcases List.mem_cons.1 hx with rfl | hx
  · exact ⟨rest, e⟩
  · rw [Tm.enc_node, List.append_assoc] at e
    exact loop l (fun _ h => h) _ _ rest (by rw [← List.drop_drop, e, List.drop_left]) x hx
theorem offs_dep : ∀ t : Tm, ∀ a D, ∀ x ∈ offT a D t, D ≤ x.1.dep := by
  refine Tm.ind ?_
  intro h l ih a D
  have loop : ∀ m : List Tm, (∀ t ∈ m, t ∈ l) → ∀ a D, ∀ x ∈ offs a D m, D ≤ x.1.dep := by
    intro m
    induction m with
    | nil => intro _ a D x hx; simp [offs] at hx
    | cons t m ihm =>
      intro hm a D x hx
      rw [offs] at hx
      rcases List.mem_append.1 hx with hx | hx
      · exact ih t (hm t (List.mem_cons_self ..)) a D x hx
      · exact ihm (fun u hu => hm u (List.mem_cons_of_mem _ hu)) _ D x hx
  intro x hx
  rw [offT] at hx
  rcases List.mem_cons.1 hx with rfl | hx
  · exact Nat.le_refl _
  · have := loop l (fun _ h => h) _ _ x hx; omega
/-- The parts are what stands one deeper. -/
theorem offs_parts (h : List UInt8) (l : List Tm) (a D : Nat) : ((offT a D (.node h l)).filter fun x => x.1.dep == D + 1).map Prod.snd = l := by
  have loop : ∀ m : List Tm, ∀ a, ((offs a (D + 1) m).filter fun x => x.1.dep == D + 1).map Prod.snd = m := by
    intro m
    induction m with
    | nil => intro a; rfl
    | cons t m ihm =>
      intro a
      obtain ⟨h', l'⟩ := t
      rw [offs, List.filter_append, List.map_append, ihm]
      rw [offT, List.filter_cons, if_pos (by simp)]
      have hz : (offs (a + h'.length) (D + 1 + 1) l').filter (fun x => x.1.dep == D + 1) = [] := by
        rw [List.filter_eq_nil_iff]
        intro x hx
        have h1 : D + 1 + 1 ≤ x.1.dep := by
          have h2 := offs_dep (.node h' l') a (D + 1) x (by rw [offT]; exact List.mem_cons_of_mem _ hx)
          have : ∀ m : List Tm, ∀ a E, ∀ x ∈ offs a E m, E ≤ x.1.dep := by
            intro m
            induction m with
            | nil => intro a E x hx; simp [offs] at hx
            | cons t m ihm =>
              intro a E x hx
              rw [offs] at hx
              rcases List.mem_append.1 hx with hx | hx
              · exact offs_dep t a E x hx
              · exact ihm _ E x hx
          exact this l' _ _ x hx
        simp <;> omega
      rw [hz]; simp
  rw [offT, List.filter_cons, if_neg (by simp), loop]
end Go.Proofs.YtbdlegjklfkdmaaGreatDoor.Pl

namespace Go.Proofs.YtbdlegjklfkdmaaGreatDoor.Pl
open Go.RowKit

/-- What is thrown. -/
abbrev boom (e : Nat) : Ending := .panicked [{ v := .iface 29 (.int .i64 e), recovered := false }]

theorem need_ok (w : World) : Calls Tryz.prog 159 #[.int .i64 0] w fun x w' => x = .returned (.tuple #[]) ∧ w' = w := by
  go_enter Tryz.func159, Tryz.ntmps159
  go_wp2
  go_end0
  exact ⟨rfl, rfl⟩
theorem need_bad (e : Nat) (he : e ≠ 0) (w : World) : Calls Tryz.prog 159 #[.int .i64 e] w fun x w' => x = boom e ∧ w' = w := by
  have hz : ((e : Int) != 0) = true := by rw [bne_iff_ne]; omega
  go_enter Tryz.func159, Tryz.ntmps159
  go_wp2
  exact ⟨rfl, rfl, rfl⟩

/-- A text's size, or what is wrong. -/
def Size6 (r : Nat × Nat) (w : World) (x : Ending) (w' : World) : Prop := (if r.2 = 0 then x = .returned (.int .i64 r.1) else x = boom r.2) ∧ Below w.heap.size w w'
theorem Size6.ok {k : Nat} {w w' : World} (h : Below w.heap.size w w') : Size6 (k, 0) w (.returned (.int .i64 k)) w' := ⟨by rw [if_pos rfl], h⟩
theorem Size6.bad {k f : Nat} {w w' : World} (hf : f ≠ 0) (h : Below w.heap.size w w') : Size6 (k, f) w (boom f) w' := ⟨by rw [if_neg hf], h⟩

set_option maxHeartbeats 1000000 in
set_option maxRecDepth 100000 in
theorem textsize_any (s : ByteArray) (hs : s.size ≤ 281474976710656) (w : World) :
    Calls Tryz.prog 147 #[.string s] w (Size6 ((rdt (bl s) 1024).2.1, (rdt (bl s) 1024).2.2) w) := by
  have hT := fun V => readtext_any s 1024 V hs (by decide) (by decide)
  obtain ⟨r, hr⟩ : ∃ r, r = rdt (bl s) 1024 := ⟨_, rfl⟩
  have hbl : s.data.toList = bl s := rfl
  rw [hbl, ← hr] at hT
  rw [← hr]
  obtain ⟨t, k, f⟩ := r
  clear hr hs hbl
  have HT := Lib.hid hT
  clear hT
  by_cases hf : f = 0
  · subst hf
    go_enter Tryz.func147, Tryz.ntmps147
    go_wp2_with (first | (go_at_call 121; refine (HT.out _).mono ?_; rintro e w1 ⟨rfl, b1⟩) | (go_at_call 159; refine (need_ok _).mono ?_; rintro e w2 ⟨rfl, rfl⟩))
    go_ret
    exact Size6.ok b1
  · have HF := Lib.hid hf
    go_enter Tryz.func147, Tryz.ntmps147
    go_wp2_with (first | (go_at_call 121; refine (HT.out _).mono ?_; rintro e w1 ⟨rfl, b1⟩) | (go_at_call 159; refine (need_bad f HF.out _).mono ?_; rintro e w2 ⟨rfl, rfl⟩))
    exact ⟨by first | rfl | trivial, Size6.bad HF.out b1⟩

/-- A row's parts and its head's length, or what is wrong. -/
def Size62 (r : Nat × Nat × Nat) (w : World) (x : Ending) (w' : World) : Prop := (if r.2.2 = 0 then x = .returned (.tuple #[.int .i64 r.1, .int .i64 r.2.1]) else x = boom r.2.2) ∧ Below w.heap.size w w'
theorem Size62.ok {v k : Nat} {w w' : World} (h : Below w.heap.size w w') : Size62 (v, k, 0) w (.returned (.tuple #[.int .i64 v, .int .i64 k])) w' := ⟨by rw [if_pos rfl], h⟩
theorem Size62.bad {v k f : Nat} {w w' : World} (hf : f ≠ 0) (h : Below w.heap.size w w') : Size62 (v, k, f) w (boom f) w' := ⟨by rw [if_neg hf], h⟩
def rowP6 (s : List UInt8) : Nat × Nat × Nat := if (rdn s).2.2 = 0 ∧ 32 < (rdn s).1 then (0, 0, 5) else rdn s

set_option maxHeartbeats 1000000 in
set_option maxRecDepth 100000 in
theorem rowhead_any (s : ByteArray) (hs : s.size ≤ 281474976710656) (w : World) :
    Calls Tryz.prog 149 #[.string s] w (Size62 (rowP6 (bl s)) w) := by
  have hT := fun V => readnum_any s (by omega) V
  obtain ⟨r, hr⟩ : ∃ r, r = rdn (bl s) := ⟨_, rfl⟩
  have hbl : s.data.toList = bl s := rfl
  rw [hbl, ← hr] at hT
  obtain ⟨z, hz⟩ : ∃ z, z = rowP6 (bl s) := ⟨_, rfl⟩
  rw [← hz]
  unfold rowP6 at hz
  rw [← hr] at hz
  obtain ⟨v, k, f⟩ := r
  have HZ := Lib.hid hz
  clear hr hs hbl hz
  have HT := Lib.hid hT
  clear hT
  by_cases hf : f = 0
  · subst hf
    by_cases hv : 32 < v
    · have q1 : (32 : Int) < (v : Int) := by omega
      have HV := Lib.hid hv
      clear hv
      go_enter Tryz.func149, Tryz.ntmps149
      go_wp2_with (first | (go_at_call 87; refine (HT.out _).mono ?_; rintro e w1 ⟨rfl, rfl⟩) | (go_at_call 159; refine (need_ok _).mono ?_; rintro e w2 ⟨rfl, rfl⟩))
      have hz := HZ.out
      rw [if_pos (by first | exact ⟨rfl, HV.out⟩ | exact ⟨trivial, HV.out⟩)] at hz
      exact ⟨rfl, hz ▸ Size62.bad (f := 5) (by decide) (Below.refl _ _)⟩
    · have q1 : ¬ (32 : Int) < (v : Int) := by omega
      have q2 : (v : Int) ≤ 32 := by omega
      have HV := Lib.hid hv
      clear hv
      go_enter Tryz.func149, Tryz.ntmps149
      go_wp2_with (first | (go_at_call 87; refine (HT.out _).mono ?_; rintro e w1 ⟨rfl, rfl⟩) | (go_at_call 159; refine (need_ok _).mono ?_; rintro e w2 ⟨rfl, rfl⟩))
      go_ret2
      have hz := HZ.out
      rw [if_neg (by rintro ⟨_, h⟩; exact HV.out h)] at hz
      exact hz ▸ Size62.ok (Below.refl _ _)
  · have HF := Lib.hid hf
    go_enter Tryz.func149, Tryz.ntmps149
    go_wp2_with (first | (go_at_call 87; refine (HT.out _).mono ?_; rintro e w1 ⟨rfl, rfl⟩) | (go_at_call 159; refine (need_bad f HF.out _).mono ?_; rintro e w2 ⟨rfl, rfl⟩))
    have hz := HZ.out
    rw [if_neg (by rintro ⟨h, _⟩; exact HF.out h)] at hz
    exact ⟨rfl, hz ▸ Size62.bad HF.out (Below.refl _ _)⟩
end Go.Proofs.YtbdlegjklfkdmaaGreatDoor.Pl

namespace Go.Proofs.YtbdlegjklfkdmaaGreatDoor.Pl
open Go.RowKit

theorem bl_at (s : ByteArray) (p : Nat) (h : p < s.size) : (bl s).getD p 0 = s[p]'h := by
  unfold bl
  rw [List.getD_eq_getElem?_getD, List.getElem?_eq_getElem (by rw [Array.length_toList]; exact h)]
  simp
  rfl

set_option maxHeartbeats 4000000 in
set_option maxRecDepth 100000 in
theorem isname_any (s : ByteArray) (hs : s.size ≤ 281474976710656) (w : World) :
    Calls Tryz.prog 160 #[.string s] w fun e w' => e = .returned (.bool (nameOK (bl s))) ∧ Below w.heap.size w w' := by
  obtain ⟨z, hz⟩ : ∃ z, z = nameOK (bl s) := ⟨_, rfl⟩
  rw [← hz]
  by_cases h0 : s.size = 0
  · have HZ : Hid (z = false) := Lib.hid (by rw [hz, bl_nil h0]; rfl)
    obtain rfl : s = ⟨#[]⟩ := bl_inj (bl_nil h0)
    clear hz h0 hs
    go_enter Tryz.func160, Tryz.ntmps160
    go_wp2_with fail
    go_loopw [] (fun wr => Hid (wr.heap[w.heap.size]? = some (.stringIter ⟨#[]⟩ 0)) ∧ Hid (Below w.heap.size w wr)) (fun _ => 0)
    case atStart => exact ⟨Lib.hid (World.iter_heap w _ 0), Lib.hid ((Below.refl _ w).alloc (Nat.le_refl _) _)⟩
    case round =>
      obtain ⟨hit, hbw⟩ := hrel
      have hnx : ∀ ty, (Instr.next (.pointer (some ⟨w.heap.size, 0, none⟩)) true ty).run Tryz.prog wr = _ := fun ty => Lib.run_next_end_at wr w.heap.size ⟨#[]⟩ 0 ty hit.out (by decide)
      go_wp2_with fail
      go_ret
      exact ⟨ret6_bool HZ.out.symm, hbw.out⟩
  · have hne : s ≠ ⟨#[]⟩ := fun e => h0 (by rw [e]; rfl)
    obtain ⟨g1, g2⟩ := str6_ne hne
    have g3 : s.toList.isEmpty = false := by
      rw [Lib.toList_data, List.isEmpty_eq_false_iff]
      intro e
      exact h0 (by rw [size_bl]; unfold bl; rw [e]; rfl)
    have HB : Hid (∀ k, k < s.size → nameB ((bl s).getD k 0) = false → z = false) := Lib.hid (fun k hk hb => by
      rw [hz]
      cases e : nameOK (bl s) with
      | false => rfl
      | true => rw [((nameOK_iff _).1 e).2 k (by rw [bl_length]; exact hk)] at hb; exact absurd hb (by decide))
    have HE : Hid ((∀ j, j < s.size → nameB ((bl s).getD j 0) = true) → z = true) := Lib.hid (fun h => by
      rw [hz, nameOK_iff]
      refine ⟨fun e => h0 (by rw [size_bl, e]; rfl), fun j hj => h j (by rw [bl_length] at hj; exact hj)⟩)
    clear hz h0 hne
    go_enter Tryz.func160, Tryz.ntmps160
    go_wp2_with fail
    go_loopw [] (fun wr => ∃ pos : Nat, Hid (pos ≤ s.size) ∧ Hid (wr.heap[w.heap.size]? = some (.stringIter s pos)) ∧ Hid (∀ j, j < pos → nameB ((bl s).getD j 0) = true) ∧ Hid (Below w.heap.size w wr)) (fun wr => s.size - wr.iterPos w.heap.size)
    case atStart => exact ⟨0, Lib.hid (Nat.zero_le _), Lib.hid (World.iter_heap w s 0), Lib.hid (fun j hj => absurd hj (Nat.not_lt_zero j)), Lib.hid ((Below.refl _ w).alloc (Nat.le_refl _) _)⟩
    case round =>
      obtain ⟨pos, hps, hit, hch, hbw⟩ := hrel
      by_cases hp : pos < s.size
      · have hd : Hid (1 ≤ (Utf8.decode s pos).2 ∧ ((nameB ((bl s).getD pos 0) = true ∧ (Utf8.decode s pos).1 = ((bl s).getD pos 0).toNat ∧ (Utf8.decode s pos).2 = 1) ∨ (nameB ((bl s).getD pos 0) = false ∧ ((Utf8.decode s pos).1 = ((bl s).getD pos 0).toNat ∨ 128 ≤ (Utf8.decode s pos).1)))) := Lib.hid (by
          rw [bl_at s pos hp]
          by_cases ha : (s[pos]'hp).toNat < 128
          · rw [decode_ascii s pos hp ha]
            cases hnb : nameB (s[pos]'hp) with
            | true => exact ⟨Nat.le_refl _, .inl ⟨rfl, rfl, rfl⟩⟩
            | false => exact ⟨Nat.le_refl _, .inr ⟨rfl, .inl rfl⟩⟩
          · have hh := decode_high s pos hp (by omega)
            refine ⟨hh.2, .inr ⟨?_, .inr hh.1⟩⟩
            unfold nameB
            exact decide_eq_false (by omega))
        have hwd : Hid (1 ≤ (Utf8.decode s pos).2) := Lib.hid hd.out.1
        have hit2 := Lib.hid (Lib.iterAt_heap wr w.heap.size s pos (pos + (Utf8.decode s pos).2) hit.out)
        have hb2 := Lib.hid (Lib.below_iterAt hbw.out (k := w.heap.size) (Nat.le_refl _) s (pos + (Utf8.decode s pos).2))
        have hnx : ∀ ty, (Instr.next (.pointer (some ⟨w.heap.size, 0, none⟩)) true ty).run Tryz.prog wr = _ := fun ty => Lib.run_next_any_at wr w.heap.size s pos ty hit.out hp
        generalize wr.iterAt w.heap.size s (pos + (Utf8.decode s pos).2) = W1 at *
        obtain ⟨c, ec⟩ : ∃ c : UInt8, c = (bl s).getD pos 0 := ⟨_, rfl⟩
        have HBK : Hid (nameB c = false → z = false) := Lib.hid (by rw [ec]; exact HB.out pos hp)
        obtain ⟨n, hn⟩ : ∃ n, n = (Utf8.decode s pos).1 := ⟨_, rfl⟩
        obtain ⟨dw, hdw⟩ : ∃ dw, dw = (Utf8.decode s pos).2 := ⟨_, rfl⟩
        have hd' := hd.out
        rw [← hn, ← hdw, ← ec] at hd'
        have HNX : Hid (((97 ≤ n ∧ n ≤ 122) ∨ (48 ≤ n ∧ n ≤ 57) ∨ n = 47 ∨ n = 46 ∨ n = 45) → pos + dw ≤ s.size ∧ ∀ j, j < pos + dw → nameB ((bl s).getD j 0) = true) := Lib.hid (fun h => by
          rcases hd'.2 with ⟨h1, h2, h3⟩ | ⟨h1, h2 | h2⟩
          · refine ⟨by omega, fun j hj => ?_⟩
            by_cases e : j = pos
            · rw [e, ← ec]; exact h1
            · exact hch.out j (by omega)
          · exfalso
            unfold nameB at h1
            rw [← h2] at h1
            exact absurd h (of_decide_eq_false h1)
          · omega)
        have HW : Hid (¬ ((97 ≤ n ∧ n ≤ 122) ∨ (48 ≤ n ∧ n ≤ 57) ∨ n = 47 ∨ n = 46 ∨ n = 45) → z = false) := Lib.hid (fun h => by
          rcases hd'.2 with ⟨h1, h2, h3⟩ | ⟨h1, _⟩
          · exfalso
            unfold nameB at h1
            rw [← h2] at h1
            exact h (of_decide_eq_true h1)
          · exact HBK.out h1)
        rw [← hn] at hnx
        rw [← hdw] at hit2 hwd
        clear ec hn hdw hd hd' HBK
        have hcs : n < 45 ∨ n = 45 ∨ n = 46 ∨ n = 47 ∨ (48 ≤ n ∧ n ≤ 57) ∨ (57 < n ∧ n < 97) ∨ (97 ≤ n ∧ n ≤ 122) ∨ 122 < n := by omega
        have ef : ∀ m : Nat, n ≠ m → ((n : Int) == (m : Int)) = false := fun m h => by rw [beq_eq_false_iff_ne]; omega
        rcases hcs with h | h | h | h | ⟨h, h'⟩ | ⟨h, h'⟩ | ⟨h, h'⟩ | h
        · have HX := Lib.hid (HW.out (by omega))
          have q1 : ((n : Int) == 47) = false := ef 47 (by omega)
          have q2 : ((n : Int) == 46) = false := ef 46 (by omega)
          have q3 : ((n : Int) == 45) = false := ef 45 (by omega)
          clear ef
          go_wp2_with fail
          go_ret
          exact ⟨ret6_bool HX.out.symm, hb2.out⟩
        · subst h
          have HP := Lib.hid (HNX.out (by omega)).1
          have HX := Lib.hid (HNX.out (by omega)).2
          clear ef
          go_wp2_with fail
          go_roundw
          case rel => exact ⟨_, HP, hit2, HX, hb2⟩
          case measure => simp only [World.iterPos, hit2.out, hit.out]; have := hwd.out; omega
        · subst h
          have HP := Lib.hid (HNX.out (by omega)).1
          have HX := Lib.hid (HNX.out (by omega)).2
          clear ef
          go_wp2_with fail
          go_roundw
          case rel => exact ⟨_, HP, hit2, HX, hb2⟩
          case measure => simp only [World.iterPos, hit2.out, hit.out]; have := hwd.out; omega
        · subst h
          have HP := Lib.hid (HNX.out (by omega)).1
          have HX := Lib.hid (HNX.out (by omega)).2
          clear ef
          go_wp2_with fail
          go_roundw
          case rel => exact ⟨_, HP, hit2, HX, hb2⟩
          case measure => simp only [World.iterPos, hit2.out, hit.out]; have := hwd.out; omega
        · have HP := Lib.hid (HNX.out (by omega)).1
          have HX := Lib.hid (HNX.out (by omega)).2
          clear ef
          go_wp2_with fail
          go_roundw
          case rel => exact ⟨_, HP, hit2, HX, hb2⟩
          case measure => simp only [World.iterPos, hit2.out, hit.out]; have := hwd.out; omega
        · have HX := Lib.hid (HW.out (by omega))
          have q1 : ((n : Int) == 47) = false := ef 47 (by omega)
          have q2 : ((n : Int) == 46) = false := ef 46 (by omega)
          have q3 : ((n : Int) == 45) = false := ef 45 (by omega)
          have q4 : decide ((n : Int) ≤ 57) = false := decide_eq_false (by omega)
          clear ef
          go_wp2_with fail
          go_ret
          exact ⟨ret6_bool HX.out.symm, hb2.out⟩
        · have HP := Lib.hid (HNX.out (by omega)).1
          have HX := Lib.hid (HNX.out (by omega)).2
          clear ef
          go_wp2_with fail
          go_roundw
          case rel => exact ⟨_, HP, hit2, HX, hb2⟩
          case measure => simp only [World.iterPos, hit2.out, hit.out]; have := hwd.out; omega
        · have HX := Lib.hid (HW.out (by omega))
          have q1 : ((n : Int) == 47) = false := ef 47 (by omega)
          have q2 : ((n : Int) == 46) = false := ef 46 (by omega)
          have q3 : ((n : Int) == 45) = false := ef 45 (by omega)
          have q4 : decide ((n : Int) ≤ 57) = false := decide_eq_false (by omega)
          have q5 : decide ((n : Int) ≤ 122) = false := decide_eq_false (by omega)
          clear ef
          go_wp2_with fail
          go_ret
          exact ⟨ret6_bool HX.out.symm, hb2.out⟩
      · have hnx : ∀ ty, (Instr.next (.pointer (some ⟨w.heap.size, 0, none⟩)) true ty).run Tryz.prog wr = _ := fun ty => Lib.run_next_end_at wr w.heap.size s pos ty hit.out hp
        have HQ := Lib.hid (HE.out (fun j hj => hch.out j (by omega)))
        clear hp
        go_wp2_with fail
        go_ret
        exact ⟨ret6_bool HQ.out.symm, hbw.out⟩
end Go.Proofs.YtbdlegjklfkdmaaGreatDoor.Pl

namespace Go.Proofs.YtbdlegjklfkdmaaGreatDoor.Pl
open Go.RowKit

def txts (l : List ByteArray) : List Value := l.map Value.string
theorem txts_length (l : List ByteArray) : (txts l).length = l.length := by simp [txts]
theorem txts_at (l : List ByteArray) (j : Nat) (h : j < l.length) : (txts l)[j]? = some (.string (l.getD j ByteArray.empty)) := by
  simp [txts, List.getD_eq_getElem?_getD, h]
/-- v is a row of these texts that the call owns, from block B on. -/
def OwnT (w : World) (B : Nat) (v : Value) (l : List ByteArray) : Prop := w.ownsRow B 9 1 v l.length (txts l)
theorem ownT_nil (w : World) (B : Nat) : OwnT w B (.slice none 0 0) [] := World.ownsRow_nil _ _ _ _
theorem ownT_below {w w' : World} {B : Nat} {v : Value} {l : List ByteArray} (h : OwnT w B v l) (hb : Below w.heap.size w w') : OwnT w' B v l := by
  refine ⟨h.1, ?_⟩
  rcases h.2 with hn | ⟨g, cap, cur, hv, hbg, hg, rest⟩
  · exact .inl hn
  · exact .inr ⟨g, cap, cur, hv, hbg, (hb.block g (Array.getElem?_eq_some_iff.1 hg).1).trans hg, rest⟩
theorem ownT_row {w : World} {B : Nat} {v : Value} {l : List ByteArray} (h : OwnT w B v l) : ∃ ao cap, v = .slice ao l.length cap ∧ TxtRow w ao l := by
  rcases h.2 with ⟨hv, h0⟩ | ⟨g, cap, cur, hv, hbg, hg, rest⟩
  · exact ⟨none, 0, by rw [hv, h0], .inl (List.length_eq_zero_iff.1 h0)⟩
  · have h' := h
    unfold OwnT at h'
    rw [hv] at h'
    exact ⟨_, cap, hv, .inr ⟨g, 0, rfl, (Array.getElem?_eq_some_iff.1 hg).1, fun j hj => by rw [Nat.zero_add, h'.cellAt j (by omega), txts_at l j hj]⟩⟩
theorem ownT_row2 {w : World} {B : Nat} {v : Value} {l : List ByteArray} (h : OwnT w B v l) : ∃ ao cap, v = .slice ao l.length cap ∧ TxtRow w ao l ∧ ∀ b off, ao = some ⟨b, off, none⟩ → B ≤ b := by
  rcases h.2 with ⟨hv, h0⟩ | ⟨g, cap, cur, hv, hbg, hg, rest⟩
  · exact ⟨none, 0, by rw [hv, h0], .inl (List.length_eq_zero_iff.1 h0), fun b off e => by cases e⟩
  · have h' := h
    unfold OwnT at h'
    rw [hv] at h'
    exact ⟨_, cap, hv, .inr ⟨g, 0, rfl, (Array.getElem?_eq_some_iff.1 hg).1, fun j hj => by rw [Nat.zero_add, h'.cellAt j (by omega), txts_at l j hj]⟩, fun b off e => by cases e; exact hbg⟩
theorem TxtRow.grown {w w' : World} {ao : Option Addr} {l : List ByteArray} {row : Option Nat} (h : TxtRow w ao l) (hg : w.grownBy w' row) (hne : ∀ b off, ao = some ⟨b, off, none⟩ → row ≠ some b) : TxtRow w' ao l := by
  rcases h with h | ⟨b, off, e, hlt, hc⟩
  · exact .inl h
  · exact .inr ⟨b, off, e, Nat.lt_of_lt_of_le hlt hg.size, fun j hj => hg.cell (hc j hj) (fun e2 => hne b off e e2.symm)⟩
theorem infoStr : (Tryz.prog.info? 9).map (fun i => (i.zero, i.size, i.bytes)) = some (some (.string ⟨#[]⟩), 1, 16) := by kernel_rfl
/-- A tree's parts as texts. -/
def tx (t : Tm) : ByteArray := ⟨t.enc.toArray⟩
theorem bl_tx (t : Tm) : bl (tx t) = t.enc := rfl
end Go.Proofs.YtbdlegjklfkdmaaGreatDoor.Pl

namespace Go.Proofs.YtbdlegjklfkdmaaGreatDoor.Pl
open Go.RowKit

theorem placess_len {l : List Tm} (h : ∀ t ∈ l, t.places.length ≤ t.enc.length) : (placess l).length ≤ (encs l).length := by
  induction l with
  | nil => simp [placess]
  | cons t l ih =>
    simp only [placess, encs, List.length_append]
    have h1 := h t (List.mem_cons_self ..)
    have h2 := ih (fun u hu => h u (List.mem_cons_of_mem _ hu))
    omega
theorem places_count : ∀ t : Tm, t.good → t.places.length ≤ t.enc.length := by
  refine Tm.ind ?_
  intro h l ih hg
  simp only [Tm.good] at hg
  have h1 := List.length_pos_iff.2 hg.1.pos
  have h2 := placess_len (l := l) (fun t ht => ih t ht (goods_mem hg.2 t ht))
  simp only [Tm.places, Tm.enc, List.length_cons, List.length_append]
  omega
theorem ownT_one (w : World) (s : ByteArray) : OwnT (w.alloc (.cells #[.string s] 9)) w.heap.size (.slice (some ⟨w.heap.size, 0, none⟩) 1 1) [s] :=
  World.ownsRow_lit w #[.string s] 1 (Nat.le_refl _) (by decide) rfl

end Go.Proofs.YtbdlegjklfkdmaaGreatDoor.Pl

namespace Go.Proofs.YtbdlegjklfkdmaaGreatDoor.Pl
open Go.RowKit

theorem tree_of {s : List UInt8} (h : checkP s = 0) : ∃ t : Tm, t.valid ∧ s = t.enc ∧ treeOf s = some t := by
  obtain ⟨t, h1, h2, h3⟩ := treeOf_some h
  exact ⟨t, h1, h2.symm, h3⟩
theorem may_yes {s : ByteArray} (h : checkP (bl s) = 0) : (checkP (bl s) == 0) = true := by rw [h]; rfl
theorem may_no {s : ByteArray} (h : checkP (bl s) ≠ 0) : (checkP (bl s) == 0) = false := by rw [beq_eq_false_iff_ne]; exact h
end Go.Proofs.YtbdlegjklfkdmaaGreatDoor.Pl

namespace Go.Proofs.YtbdlegjklfkdmaaGreatDoor.Pl

/-- Sums, tags and seals over plain bytes, with what a suite wants of them. -/
structure Cry where
  hash : List UInt8 → List UInt8
  mac : List UInt8 → List UInt8 → List UInt8
  shut : List UInt8 → List UInt8 → List UInt8 → List UInt8
  see : List UInt8 → List UInt8 → Option (List UInt8)
  hash_len : ∀ t, (hash t).length = 32
  mac_len : ∀ k t, (mac k t).length = 32
  shut_len : ∀ k n t, (shut k n t).length = n.length + t.length + 32
  see_shut : ∀ k n t, n.length = 12 → t.length ≤ 16384 → see k (shut k n t) = some t

/-- What a datum says; nothing, where it is none. -/
noncomputable def strP (k : List UInt8) : Option (List UInt8) := if kindP k = 1 then some (textP k).1 else none
noncomputable def strD (k : List UInt8) : List UInt8 := (strP k).getD []

def keyP (c : Cry) (terms : Bool) (m name : List UInt8) : List UInt8 × Nat :=
  if (atomP name).2 ≠ 0 ∨ terms = true then atomP name else dataP (c.mac m ([107, 101, 121, 32] ++ name))
noncomputable def mac8P (c : Cry) (terms : Bool) (k t : List UInt8) : List UInt8 × Nat :=
  if checkP k ≠ 0 ∨ checkP t ≠ 0 ∨ (terms = false ∧ strP k = none) then ([], 2) else if terms = true then madeP [109] [k, t] else dataP (c.mac (strD k) t)
theorem treeOf_at {s : List UInt8} {t : Tm} (h : treeOf s = some t) : t.valid ∧ t.enc = s := by
  by_cases hc : checkP s = 0
  · obtain ⟨u, h1, h2, h3⟩ := treeOf_some hc
    rw [h3] at h
    exact Option.some.inj h ▸ ⟨h1, h2⟩
  · rw [treeOf_none hc] at h
    cases h
theorem made2 {f a b r : List UInt8} (hh : HeadOK f 2) (h : madeP f [a, b] = (r, 0)) : ∃ A B : Tm, treeOf a = some A ∧ treeOf b = some B ∧ treeOf r = some (.node f [A, B]) := by
  obtain ⟨m, h1, h2, h3⟩ := made_parts (l := [a, b]) hh h
  match m, h3 with
  | [A, B], h3 =>
    simp only [List.map_cons, List.map_nil, List.cons.injEq, and_true] at h3
    have va := node_valid_parts h1
    refine ⟨A, B, ?_, ?_, ?_⟩
    · rw [← h3.1]; exact treeOf_enc (va A (by simp))
    · rw [← h3.2]; exact treeOf_enc (va B (by simp))
    · rw [← h2]; exact treeOf_enc h1
theorem mac8_made {c : Cry} {k t x : List UInt8} (h : mac8P c true k t = (x, 0)) : madeP [109] [k, t] = (x, 0) := by
  unfold mac8P at h
  split at h
  · simp at h
  · simpa using h
end Go.Proofs.YtbdlegjklfkdmaaGreatDoor.Pl

namespace Go.Proofs.YtbdlegjklfkdmaaGreatDoor.Pl

theorem txt_most {t : List UInt8} (h : t.length ≤ 1024) : (txt t).length ≤ 1033 := by
  rw [txt_len]
  have := enc_len t.length
  omega
end Go.Proofs.YtbdlegjklfkdmaaGreatDoor.Pl

namespace Go.Proofs.YtbdlegjklfkdmaaGreatDoor.Pl
open Go.RowKit

theorem mac8_terms (c : Cry) (k t : List UInt8) : mac8P c true k t = madeP [109] [k, t] := by
  unfold mac8P
  by_cases h : checkP k = 0 ∧ checkP t = 0
  · simp [h]
  · have h' : checkP k ≠ 0 ∨ checkP t ≠ 0 := by
      by_cases h1 : checkP k = 0
      · exact .inr (fun h2 => h ⟨h1, h2⟩)
      · exact .inl h1
    rcases h' with h' | h' <;> simp [h', madeP]
theorem key8_terms (c : Cry) (m name : List UInt8) : keyP c true m name = atomP name := by simp [keyP]
end Go.Proofs.YtbdlegjklfkdmaaGreatDoor.Pl

namespace Go.Proofs.YtbdlegjklfkdmaaGreatDoor.Pl
open Go.RowKit

theorem data_short {s : List UInt8} (h : s.length ≤ 1024) : (dataP s).1.length ≤ 16384 := by
  unfold dataP
  rw [if_neg (by omega)]
  have := txt_most h
  simp only [List.length_cons]
  omega
theorem dataP_short (s : List UInt8) : (dataP s).1.length ≤ 16384 := by
  by_cases h : s.length ≤ 1024
  · exact data_short h
  · unfold dataP; rw [if_pos (by omega)]; exact Nat.zero_le _
theorem atomP_short (s : List UInt8) : (atomP s).1.length ≤ 16384 := by
  unfold atomP
  split
  · exact Nat.zero_le _
  · split
    · exact Nat.zero_le _
    · have := txt_most (t := s) (by omega)
      simp only [List.length_cons]
      omega
theorem madeP_short (f : List UInt8) (l : List (List UInt8)) : (madeP f l).1.length ≤ 16384 := by
  unfold madeP
  split
  · split
    · rename_i h; exact check_len h
    · exact Nat.zero_le _
  · exact Nat.zero_le _
theorem key_short (c : Cry) (b : Bool) (m n : List UInt8) : (keyP c b m n).1.length ≤ 16384 := by
  unfold keyP
  split
  · exact atomP_short _
  · exact dataP_short _
theorem mac_short (c : Cry) (b : Bool) (k t : List UInt8) : (mac8P c b k t).1.length ≤ 16384 := by
  unfold mac8P
  split
  · exact Nat.zero_le _
  · split
    · exact madeP_short _ _
    · exact dataP_short _
end Go.Proofs.YtbdlegjklfkdmaaGreatDoor.Pl

namespace Go.Proofs.YtbdlegjklfkdmaaGreatDoor.Pl

/-- x turned right by n bits. -/
def rr (n x : Nat) : Nat := x * 2 ^ (32 - n) % 4294967296 ||| x / 2 ^ n
def add32 (a b : Nat) : Nat := (a + b) % 4294967296
/-- Four bytes as a word. -/
def be (a b c d : Nat) : Nat := a * 16777216 ||| b * 65536 ||| c * 256 ||| d
def sg0 (x : Nat) : Nat := rr 7 x ^^^ rr 18 x ^^^ x / 8
def sg1 (x : Nat) : Nat := rr 17 x ^^^ rr 19 x ^^^ x / 1024
def wnext (a b c d : Nat) : Nat := add32 (add32 (add32 a (sg0 b)) c) (sg1 d)

/-- The first 16 + k words of a block. -/
def sched (B : List Nat) : Nat → List Nat
  | 0 => (List.range 16).map fun t => be (B.getD (4 * t) 0) (B.getD (4 * t + 1) 0) (B.getD (4 * t + 2) 0) (B.getD (4 * t + 3) 0)
  | k + 1 => sched B k ++ [wnext ((sched B k).getD k 0) ((sched B k).getD (k + 1) 0) ((sched B k).getD (k + 9) 0) ((sched B k).getD (k + 14) 0)]
/-- A value that nothing looks into but by its equation. -/
noncomputable def shut {α : Type} (x : α) : α := Classical.choose (⟨x, rfl⟩ : ∃ y, y = x)
/-- The words of a block. -/
noncomputable def wds (B : List Nat) : List Nat := shut (sched B 48)
/-- The numbers K(0) to K(63). -/
def KL : List Nat := [1116352408, 1899447441, 3049323471, 3921009573, 961987163, 1508970993, 2453635748, 2870763221, 3624381080, 310598401, 607225278, 1426881987, 1925078388, 2162078206, 2614888103, 3248222580, 3835390401, 4022224774, 264347078, 604807628, 770255983, 1249150122, 1555081692, 1996064986, 2554220882, 2821834349, 2952996808, 3210313671, 3336571891, 3584528711, 113926993, 338241895, 666307205, 773529912, 1294757372, 1396182291, 1695183700, 1986661051, 2177026350, 2456956037, 2730485921, 2820302411, 3259730800, 3345764771, 3516065817, 3600352804, 4094571909, 275423344, 430227734, 506948616, 659060556, 883997877, 958139571, 1322822218, 1537002063, 1747873779, 1955562222, 2024104815, 2227730452, 2361852424, 2428436474, 2756734187, 3204031479, 3329325298]
/-- The eight numbers of a state. -/
structure S8 where
  (a b c d e f g h : Nat)
def S8.list (s : S8) : List Nat := [s.a, s.b, s.c, s.d, s.e, s.f, s.g, s.h]
def S8.fits (s : S8) : Prop := s.a < 4294967296 ∧ s.b < 4294967296 ∧ s.c < 4294967296 ∧ s.d < 4294967296 ∧ s.e < 4294967296 ∧ s.f < 4294967296 ∧ s.g < 4294967296 ∧ s.h < 4294967296
def Sg1 (e : Nat) : Nat := rr 6 e ^^^ rr 11 e ^^^ rr 25 e
def Sg0 (a : Nat) : Nat := rr 2 a ^^^ rr 13 a ^^^ rr 22 a
def ch (e f g : Nat) : Nat := (e &&& f) ^^^ ((4294967295 - e) &&& g)
def mj (a b c : Nat) : Nat := (a &&& b) ^^^ (a &&& c) ^^^ (b &&& c)
def T1 (e f g h k x : Nat) : Nat := (h + Sg1 e + ch e f g + k + x) % 4294967296
def T2 (a b c : Nat) : Nat := (Sg0 a + mj a b c) % 4294967296
def rnd (k x : Nat) (s : S8) : S8 := ⟨add32 (T1 s.e s.f s.g s.h k x) (T2 s.a s.b s.c), s.a, s.b, s.c, add32 s.d (T1 s.e s.f s.g s.h k x), s.e, s.f, s.g⟩
/-- The state behind t rounds of a block with the words l. -/
def rn (l : List Nat) (s : S8) : Nat → S8
  | 0 => s
  | t + 1 => rnd (KL.getD t 0) (l.getD t 0) (rn l s t)
noncomputable def rnAll (l : List Nat) (s : S8) : S8 := shut (rn l s 64)
/-- The state behind a block. -/
noncomputable def proc (s : S8) (B : List Nat) : S8 :=
  ⟨add32 s.a (rnAll (wds B) s).a, add32 s.b (rnAll (wds B) s).b, add32 s.c (rnAll (wds B) s).c, add32 s.d (rnAll (wds B) s).d, add32 s.e (rnAll (wds B) s).e, add32 s.f (rnAll (wds B) s).f, add32 s.g (rnAll (wds B) s).g, add32 s.h (rnAll (wds B) s).h⟩
end Go.Proofs.YtbdlegjklfkdmaaGreatDoor.Pl

namespace Go.Proofs.YtbdlegjklfkdmaaGreatDoor.Pl
open Go.RowKit
/-- The table of the numbers K lies where the program's text lays it. -/
def Tab (w : World) : Prop := 1 < w.heap.size ∧ ∀ j, j < 64 → w.cell? ⟨1, j, none⟩ = some (.int .u32 ((KL.getD j 0 : Nat) : Int))
theorem Tab.below {w w' : World} (h : Tab w) (hb : Below w.heap.size w w') : Tab w' :=
  ⟨Nat.lt_of_lt_of_le h.1 hb.size, fun j hj => by rw [hb.cell (p := ⟨1, j, none⟩) h.1]; exact h.2 j hj⟩

end Go.Proofs.YtbdlegjklfkdmaaGreatDoor.Pl

namespace Go.Proofs.YtbdlegjklfkdmaaGreatDoor.Pl
open Go.RowKit

def bytesOf (l : List Nat) : ByteArray := ⟨(l.map UInt8.ofNat).toArray⟩
theorem add_none (b o j : Nat) : (⟨b, o, none⟩ : Addr).add j = ⟨b, o + j, none⟩ := by unfold Addr.add; split <;> simp_all
theorem back_string (w : World) (b o cap : Nat) (l : List Nat) (hl : ∀ j, l.getD j 0 < 256) (hc : ∀ j, j < l.length → w.cell? ⟨b, o + j, none⟩ = some (.int .u8 ((l.getD j 0 : Nat) : Int))) :
    (convert 121 9 (.slice (some ⟨b, o, none⟩) l.length cap)).run Tryz.prog w = .ok (.string (bytesOf l)) w := by
  have h := run_convert_bytes_back (P := Tryz.prog) w 121 9 5 ⟨b, o, none⟩ cap (l.map UInt8.ofNat) Tryz.underlying121 Tryz.underlying5 Tryz.underlying9 (fun j hj => by
    rw [add_none]
    have hj' : j < l.length := by simpa using hj
    rw [hc j hj']
    have h1 := hl j
    rw [List.getD_eq_getElem?_getD, List.getElem?_eq_getElem hj', Option.getD_some] at h1
    have h3 : ((l.map UInt8.ofNat)[j]).toNat = l[j] := by simp; omega
    rw [h3, List.getD_eq_getElem?_getD, List.getElem?_eq_getElem hj', Option.getD_some])
  simpa [bytesOf] using h

end Go.Proofs.YtbdlegjklfkdmaaGreatDoor.Pl

namespace Go.Proofs.YtbdlegjklfkdmaaGreatDoor.Pl
open Go.RowKit

/-- The cells of a Hash: its state, the bytes that wait, the size. -/
def hcells (s : S8) (wt : List Nat) (n : Nat) : Array Value := ((s.list.map fun (x : Nat) => Value.int .u32 (x : Int)) ++ (wt.map fun (x : Nat) => Value.int .u8 (x : Int)) ++ [Value.int .u64 (n : Int)]).toArray
/-- Block b is a Hash with these parts. -/
def HashAt (w : World) (b : Nat) (s : S8) (wt : List Nat) (n : Nat) : Prop := w.heap[b]? = some (.cells (hcells s wt n) 163 (0, 0)) ∧ wt.length = 64
theorem hcells_size {s : S8} {wt : List Nat} (n : Nat) (h : wt.length = 64) : (hcells s wt n).size = 73 := by simp [hcells, S8.list, h]
theorem HashAt.size {w : World} {b : Nat} {s : S8} {wt : List Nat} {n : Nat} (h : HashAt w b s wt n) : w.cell? ⟨b, 72, none⟩ = some (.int .u64 (n : Int)) ∧ w.frozen? ⟨b, 72, none⟩ = false := by
  refine ⟨?_, frozen_of_row w b 72 _ _ h.1⟩
  rw [cell_of_row w b 72 _ _ (0, 0) h.1]
  simp [hcells, S8.list, h.2]
theorem HashAt.lt {w : World} {b : Nat} {s : S8} {wt : List Nat} {n : Nat} (h : HashAt w b s wt n) : b < w.heap.size := (Array.getElem?_eq_some_iff.1 h.1).1
theorem HashAt.below {w w' : World} {b : Nat} {s : S8} {wt : List Nat} {n : Nat} (h : HashAt w b s wt n) (hb : Below w.heap.size w w') : HashAt w' b s wt n := ⟨heap_below hb h.1, h.2⟩
theorem HashAt.state {w : World} {b : Nat} {s : S8} {wt : List Nat} {n : Nat} (h : HashAt w b s wt n) : w.rangeAt b 0 (s.list.map fun (x : Nat) => Value.int .u32 (x : Int)) := by
  intro j v hv
  have hj : j < 8 := by have := (List.getElem?_eq_some_iff.1 hv).1; simpa [S8.list] using this
  rw [cell_of_row w b (0 + j) _ _ (0, 0) h.1, ← hv, Nat.zero_add]
  simp only [hcells, List.getElem?_toArray]
  rw [List.append_assoc, List.getElem?_append_left (by simpa [S8.list] using hj)]
theorem HashAt.wait {w : World} {b : Nat} {s : S8} {wt : List Nat} {n : Nat} (h : HashAt w b s wt n) : w.rangeAt b 8 (wt.map fun (x : Nat) => Value.int .u8 (x : Int)) := by
  intro j v hv
  have hj : j < 64 := by have := (List.getElem?_eq_some_iff.1 hv).1; simpa [h.2] using this
  rw [cell_of_row w b (8 + j) _ _ (0, 0) h.1, ← hv]
  simp only [hcells, List.getElem?_toArray]
  rw [List.append_assoc, List.getElem?_append_right (by simp [S8.list]), List.getElem?_append_left (by simp [S8.list, h.2]; omega)]
  congr 1
  simp [S8.list]
theorem HashAt.there {w : World} {b : Nat} {s : S8} {wt : List Nat} {n : Nat} (h : HashAt w b s wt n) (o k : Nat) (hk : o + k ≤ 73) : w.there b o k := by
  intro j hj
  refine ⟨?_, frozen_of_row w b _ _ _ h.1⟩
  rw [cell_of_row w b (o + j) _ _ (0, 0) h.1]
  have : o + j < (hcells s wt n).size := by rw [hcells_size n h.2]; omega
  simp [this]
/-- The state to begin with. -/
def S0 : S8 := ⟨1779033703, 3144134277, 1013904242, 2773480762, 1359893119, 2600822924, 528734635, 1541459225⟩
end Go.Proofs.YtbdlegjklfkdmaaGreatDoor.Pl

namespace Go.Proofs.YtbdlegjklfkdmaaGreatDoor.Pl
open Go.RowKit

/-- The state behind the first k blocks of m. -/
noncomputable def ab (m : List Nat) : Nat → S8
  | 0 => S0
  | k + 1 => proc (ab m k) ((m.drop (64 * k)).take 64)
/-- The bytes that wait for a whole block. -/
def tail (m : List Nat) : List Nat := m.drop (64 * (m.length / 64))
/-- The state behind the whole blocks of m. -/
noncomputable def st (m : List Nat) : S8 := ab m (m.length / 64)
/-- Numbers that are bytes. -/
def Bytes (m : List Nat) : Prop := ∀ x ∈ m, x < 256
theorem Bytes.at {m : List Nat} (h : Bytes m) (j : Nat) : m.getD j 0 < 256 := by
  by_cases hj : j < m.length
  · rw [List.getD_eq_getElem?_getD, List.getElem?_eq_getElem hj]; exact h _ (List.getElem_mem hj)
  · rw [List.getD_eq_getElem?_getD, List.getElem?_eq_none (by omega)]; decide
theorem Bytes.append {m c : List Nat} (h : Bytes m) (k : Bytes c) : Bytes (m ++ c) := by
  intro x hx; rcases List.mem_append.1 hx with hx | hx
  · exact h x hx
  · exact k x hx
theorem Bytes.take {m : List Nat} (h : Bytes m) (n : Nat) : Bytes (m.take n) := fun x hx => h x (List.mem_of_mem_take hx)
theorem Bytes.drop {m : List Nat} (h : Bytes m) (n : Nat) : Bytes (m.drop n) := fun x hx => h x (List.mem_of_mem_drop hx)
/-- The bytes of a text. -/
def nums (s : ByteArray) : List Nat := s.data.toList.map UInt8.toNat
theorem nums_bytes (s : ByteArray) : Bytes (nums s) := by
  intro x hx
  obtain ⟨c, _, rfl⟩ := List.mem_map.1 hx
  exact c.toNat_lt
theorem nums_length (s : ByteArray) : (nums s).length = s.size := by rw [nums, List.length_map]; rfl

/-- The size in bits, as eight bytes. -/
def lenAt (n j : Nat) : Nat := n * 8 / 2 ^ (8 * (7 - j)) % 256
def lenB (n : Nat) : List Nat := (List.range 8).map (lenAt n)
/-- What waits, the byte 128, and bytes 0 up to 64. -/
def base (m : List Nat) : List Nat := tail m ++ 128 :: List.replicate (63 - m.length % 64) 0
/-- The state behind the padded text. -/
noncomputable def fin (m : List Nat) : S8 :=
  if 56 ≤ m.length % 64 then proc (proc (st m) (base m)) (List.replicate 56 0 ++ lenB m.length) else proc (st m) ((base m).take 56 ++ lenB m.length)
theorem Bytes.base {m : List Nat} (h : Bytes m) : Bytes (base m) := by
  refine Bytes.append (h.drop _) ?_
  intro x hx
  rcases List.mem_cons.1 hx with rfl | hx
  · decide
  · rw [List.eq_of_mem_replicate hx]; decide
end Go.Proofs.YtbdlegjklfkdmaaGreatDoor.Pl

namespace Go.Proofs.YtbdlegjklfkdmaaGreatDoor.Pl
open Go.RowKit

/-- The hexadecimal digit of a number below 16. -/
def dg (x : Nat) : Nat := if x < 10 then 48 + x else 87 + x
theorem str_index (s : ByteArray) (k c : Nat) (hk : k < s.size) (hc : c = (nums s).getD k 0) (V : World) : (Instr.index 9 (.string s) (.int .i64 (k : Int))).run Tryz.prog V = .ok (.int .u8 (c : Int)) V := by
  rw [run_index_string V 9 s .i64 k Tryz.underlying9, dif_pos ⟨by omega, by omega⟩, hc]
  congr 2
  have hk' : k < s.data.toList.length := by simpa using hk
  simp only [nums, List.getD_eq_getElem?_getD, List.getElem?_map, List.getElem?_eq_getElem hk', Option.map_some, Option.getD_some, Int.toNat_natCast]
  rfl
end Go.Proofs.YtbdlegjklfkdmaaGreatDoor.Pl

namespace Go.Proofs.YtbdlegjklfkdmaaGreatDoor.Pl
open Go.RowKit

/-- What has differed in the first k numbers. -/
def dif (l m : List Nat) : Nat → Nat
  | 0 => 0
  | k + 1 => dif l m k ||| (l.getD k 0 ^^^ m.getD k 0)
theorem or_zero (a b : Nat) : a ||| b = 0 ↔ a = 0 ∧ b = 0 := by
  constructor
  · intro h
    constructor
    · apply Nat.eq_of_testBit_eq; intro i
      have := congrArg (fun x => x.testBit i) h
      simp only [Nat.testBit_or, Nat.zero_testBit, Bool.or_eq_false_iff] at this
      rw [this.1, Nat.zero_testBit]
    · apply Nat.eq_of_testBit_eq; intro i
      have := congrArg (fun x => x.testBit i) h
      simp only [Nat.testBit_or, Nat.zero_testBit, Bool.or_eq_false_iff] at this
      rw [this.2, Nat.zero_testBit]
  · rintro ⟨rfl, rfl⟩; rfl
theorem xor_zero (a b : Nat) : a ^^^ b = 0 ↔ a = b := by
  constructor
  · intro h
    apply Nat.eq_of_testBit_eq; intro i
    have := congrArg (fun x => x.testBit i) h
    simp only [Nat.testBit_xor, Nat.zero_testBit] at this
    cases h1 : a.testBit i <;> cases h2 : b.testBit i <;> simp_all
  · rintro rfl; exact Nat.xor_self a
theorem dif_lt {l m : List Nat} (hl : Bytes l) (hm : Bytes m) (k : Nat) : dif l m k < 256 := by
  induction k with
  | zero => exact (by decide : (0 : Nat) < 256)
  | succ k ih => exact Nat.or_lt_two_pow (n := 8) ih (Nat.xor_lt_two_pow (n := 8) (hl.at k) (hm.at k))
theorem dif_zero {l m : List Nat} (k : Nat) : dif l m k = 0 ↔ ∀ j, j < k → l.getD j 0 = m.getD j 0 := by
  induction k with
  | zero => exact ⟨fun _ j hj => absurd hj (by omega), fun _ => rfl⟩
  | succ k ih =>
    rw [dif, or_zero, xor_zero, ih]
    constructor
    · rintro ⟨h1, h2⟩ j hj
      by_cases e : j = k
      · subst e; exact h2
      · exact h1 j (by omega)
    · exact fun h => ⟨fun j hj => h j (by omega), h k (by omega)⟩
theorem nums_inj {a b : ByteArray} (h : nums a = nums b) : a = b := by
  apply ByteArray.ext
  apply Array.ext'
  exact (List.map_inj_right (fun x y hxy => UInt8.toNat_inj.1 hxy)).1 h
theorem dif_all {a b : ByteArray} (h : a.size = b.size) : dif (nums a) (nums b) a.size = 0 ↔ a = b := by
  rw [dif_zero]
  constructor
  · exact fun k => nums_inj (getD_ext (by rw [nums_length, nums_length, h]) (fun i hi => k i (by rwa [nums_length] at hi)))
  · rintro rfl j _; rfl
end Go.Proofs.YtbdlegjklfkdmaaGreatDoor.Pl

namespace Go.Proofs.YtbdlegjklfkdmaaGreatDoor.Pl
open Go.RowKit

set_option maxRecDepth 100000 in
theorem hsame_any (a b : ByteArray) (hn : a.size ≤ 1000000) (w : World) (r : Bool) (hr : r = decide (a = b)) :
    Calls Tryz.prog 102 #[.string a, .string b] w fun e w' => e = .returned (.bool r) ∧ Below w.heap.size w w' := by
  have HR := Lib.hid hr
  clear hr
  by_cases hsz : a.size = b.size
  · have HSZ := Lib.hid hsz
    have e1 : ((a.size : Int) != (b.size : Int)) = false := by rw [hsz]; simp
    obtain ⟨n, en⟩ : ∃ n, n = a.size := ⟨_, rfl⟩
    have EN := Lib.hid en
    clear hsz en
    go_enter Tryz.func102, Tryz.ntmps102
    go_wp2_with fail
    go_loopw [5, 14] (fun d i wr => ∃ k x : Nat, k ≤ a.size ∧ i = .int .i64 k ∧ d = .int .u8 x ∧ Hid (x = dif (nums a) (nums b) k) ∧ Hid (Below w.heap.size w wr)) (fun _ i _ => a.size - (intOf i).toNat)
    case atStart => exact ⟨0, 0, by omega, rfl, rfl, Lib.hid rfl, Lib.hid (Below.refl _ _)⟩
    case round =>
      obtain ⟨k, x, hk, rfl, rfl, hx, hbw⟩ := hrel
      by_cases hlt : k < a.size
      · obtain ⟨c, ec⟩ : ∃ c : Nat, c = (nums a).getD k 0 := ⟨_, rfl⟩
        obtain ⟨d, ed⟩ : ∃ d : Nat, d = (nums b).getD k 0 := ⟨_, rfl⟩
        have i1 : ∀ V : World, (Instr.index 9 (.string a) (.int .i64 (k : Int))).run Tryz.prog V = .ok (.int .u8 (c : Int)) V := str_index a k c hlt ec
        have i2 : ∀ V : World, (Instr.index 9 (.string b) (.int .i64 (k : Int))).run Tryz.prog V = .ok (.int .u8 (d : Int)) V := str_index b k d (by rw [← HSZ.out]; exact hlt) ed
        have hc : c < 256 := by rw [ec]; exact (nums_bytes a).at k
        have hd : d < 256 := by rw [ed]; exact (nums_bytes b).at k
        have hx' : x < 256 := by rw [hx.out]; exact dif_lt (nums_bytes a) (nums_bytes b) k
        have b1 : bits .xor .u8 (c : Int) (d : Int) = ((c ^^^ d : Nat) : Int) := u8_xor_nat c d hc hd
        have b2 : bits .or .u8 (x : Int) ((c ^^^ d : Nat) : Int) = ((x ||| (c ^^^ d) : Nat) : Int) := u8_or_nat x _ hx' (Nat.xor_lt_two_pow (n := 8) hc hd)
        have hz : x ||| (c ^^^ d) = dif (nums a) (nums b) (k + 1) := by rw [dif, ← ec, ← ed, ← hx.out]
        generalize x ||| (c ^^^ d) = z at b2 hz
        generalize c ^^^ d = y at b1 b2
        have HZ := Lib.hid hz
        clear hz hc hd hx'
        have HC := Lib.hid ec
        have HD := Lib.hid ed
        clear ec ed
        go_wp2_with fail
        go_quiet (fail)
        go_wp2
        exact ⟨⟨k + 1, z, by omega, by go_num, by simp, HZ, Lib.hid (below_drewN hbw.out _)⟩, by simp [intOf]; omega⟩
      · obtain rfl : k = a.size := by omega
        have q : ((x : Int) == 0) = r := by
          rw [HR.out]
          have h := dif_all HSZ.out
          rw [← hx.out] at h
          by_cases e : a = b
          · rw [decide_eq_true e, beq_iff_eq]; have := h.2 e; omega
          · rw [decide_eq_false e, beq_eq_false_iff_ne]; intro e0; exact e (h.1 (by omega))
        have HQ := Lib.hid hbw
        clear hx hbw
        go_wp2
        go_ret
        exact ⟨rfl, HQ.out.out⟩
  · have e1 : ((a.size : Int) != (b.size : Int)) = true := by simp; omega
    have HN : Hid (decide (a = b) = false) := Lib.hid (decide_eq_false (fun e => hsz (by rw [e])))
    clear hsz
    go_enter Tryz.func102, Tryz.ntmps102
    go_wp2_with fail
    go_ret
    exact ⟨by rw [HR.out, HN.out]; rfl, Below.refl _ _⟩
end Go.Proofs.YtbdlegjklfkdmaaGreatDoor.Pl

namespace Go.Proofs.YtbdlegjklfkdmaaGreatDoor.Pl
open Go.RowKit Go.ChangeShapes Go.WideShapes

/-- Each of these types can be read, and is a row of the table. -/
def typesRowed (P : Program) (ts : List TypeId) : Bool := ts.all fun t => P.readableRec t && decide (t < P.types.size)

theorem trodAll_later {H : Type} {enc : TypeId × Value → H} {P : Program} (hl : laidOutB P = true) {W W' : World} (hb : Below W.heap.size W W') :
    ∀ {ts : List TypeId} {vs : List Value} {ds : List (DataW H)} {ps : List MemPlace}, typesRowed P ts = true →
      DataW.TrodAll enc P W 0 (fun _ => true) true ts vs ds ps → DataW.TrodAll enc P W' 0 (fun b => decide (b < W.heap.size)) true ts vs ds ps
  | [], [], [], _, _, h => h
  | t :: ts, v :: vs, d :: ds, ps, ht, h => by
    have hlt := h.lt
    obtain ⟨p, q, h1, h2, e⟩ := h
    simp only [typesRowed, List.all_cons, Bool.and_eq_true, decide_eq_true_eq] at ht
    exact ⟨p, q, Below.trod hl ht.1.1 ht.1.2 h1 hb (fun x hx => hlt x (by rw [e]; simp [hx])), trodAll_later hl hb ht.2 h2, e⟩
  | [], [], _ :: _, _, _, h => h.elim
  | [], _ :: _, _, _, _, h => h.elim
  | _ :: _, [], _, _, _, h => h.elim
  | _ :: _, _ :: _, [], _, _, h => h.elim

/-- The law's post: the result is true, the arguments read as they did. -/
theorem law_post {H : Type} {enc : TypeId × Value → H} {P : Program} {f : Func} {s : ChangeSpec} {W W' : World} {args : Array Value} {ds gs : List (DataW H)} {before : List MemPlace} {T : TypeId}
    (hl : laidOutB P = true) (ht : typesRowed P f.params.toList = true) (hT : P.underlying T = some .bool) (hr : f.resultTypes = #[T]) (hv : s.vars = [])
    (hW : DataW.Whole enc P f.params.toList s.vars false W args.toList ds gs before) (hb : Below W.heap.size W W')
    (h1 : (s.fn H (ds ++ gs)).results = [.lit (.bool true)]) (h2 : (s.fn H (ds ++ gs)).args = ds) (h3 : (s.fn H (ds ++ gs)).vars = []) :
    s.post enc P f false true false false W args (.bool true) W' := by
  have hW' := hW
  obtain ⟨p, q, hA, hV, hps, _, _⟩ := hW'
  rw [hv] at hV
  obtain ⟨rfl, rfl⟩ := trodVars_none hV
  refine ⟨ds, [], before, [], p, [], hW, ?_, ?_, ?_, World.keptBut_mono (fun x hx => hx.elim) (hb.frame (fun _ => False)), fun h => by cases h⟩
  · rw [h1, hr]
    exact trodAll_mk1 (shut_bool hT true)
  · rw [h2]
    exact trodAll_later hl hb ht hA
  · rw [h3, hv]
    rfl
end Go.Proofs.YtbdlegjklfkdmaaGreatDoor.Pl
