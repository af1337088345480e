/- What the document's ReadNum of layer 6 answers: the number in a datum. Messages as terms, over plain bytes: what may be, what is encoded, what is read. Messages as terms, over plain bytes: what is encoded is read, and what is read is encoded as it was. A region that draws its order, by what holds whatever has come up; inside a fence, also in a round. The places of a text of terms, one behind the other: where each begins, how deep it is, where its head ends, how many parts it has; plain mathematics alone. What term's need, textSize and rowHead answer, and what they throw. What term.isName answers. Rows of numbers as the cells of an array. What the document's parts of a term answers: a row of texts that the call owns. What the document's Places, Parts, Size, depth, Depth, In and Has of layer 6 answer: Places and depth call themselves. What the document's Parts, Size, depth, Depth, In and Has of layer 6 answer. -/
import Derived.Test.YtbdlegjklfkdmaaGreatDoorBallA2
import Derived.OrdersIn
import Derived.OwnWalkIn
import Derived.Test.YtbdlegjklfkdmaaGreatDoorBallA1
import Derived.WalkLawsBesides
import Derived.Laws.RangeString
import Derived.Laws.RangeAny
import Derived.Lib.RuneBytes
import Derived.Laws.Cover4
import Derived.Lib.OthersKept
import Derived.Laws.OwnMore
import Derived.OwnWalk
import Derived.WalkKit
import Derived.Deep.WholeRow
import Derived.Maps.AppendAt
namespace Go.Proofs.YtbdlegjklfkdmaaGreatDoor.Pl
open Go.RowKit

noncomputable def readnumP (s : List UInt8) : Nat × Bool :=
  if (textP s).2 = true ∧ kindP s = 1 ∧ (rdn (textP s).1).2.2 = 0 ∧ (rdn (textP s).1).2.1 = (textP s).1.length ∧ (rdn (textP s).1).1 ≤ 2147483647 then ((rdn (textP s).1).1, true) else (0, false)
theorem rdt_out (l : List UInt8) (m : Int) : (rdt l m).1.length ≤ l.length := by
  unfold rdt
  by_cases h1 : (rdn l).2.2 ≠ 0
  · rw [if_pos h1]; simp
  · rw [if_neg h1]
    by_cases h2 : max m 0 < ((rdn l).1 : Int)
    · rw [if_pos h2]; simp
    · rw [if_neg h2]
      by_cases h3 : l.length - (rdn l).2.1 < (rdn l).1
      · rw [if_pos h3]; simp
      · rw [if_neg h3]; simp; omega
theorem textP_len (s : List UInt8) : (textP s).1.length ≤ s.length := by
  unfold textP
  by_cases h : checkP s = 0 ∧ (s.head? = some 100 ∨ s.head? = some 97)
  · rw [if_pos h]
    have h1 := rdt_out (s.drop 1) 1024
    rw [List.length_drop] at h1
    simp only
    omega
  · rw [if_neg h]; simp
theorem kindP_le (s : List UInt8) : kindP s ≤ 6 := by
  unfold kindP
  split
  · split
    · omega
    · repeat (split; omega)
      omega
  · omega
def nb2 (h : Nat × Bool) : Value := .tuple #[.int .i64 h.1, .bool h.2]
set_option maxHeartbeats 1000000 in
set_option maxRecDepth 100000 in
theorem rreadnum6_any (s : ByteArray) (hs : s.size ≤ 281474976710656) (w : World) :
    Calls Tryz.prog 55 #[.string s] w fun e w' => e = .returned (nb2 (readnumP (bl s))) ∧ Below w.heap.size w w' := by
  have HT := Lib.hid (rtext6_any s hs w)
  have HK := Lib.hid (fun V => rkind_any s hs V)
  obtain ⟨z, hz⟩ : ∃ z, z = readnumP (bl s) := ⟨_, rfl⟩
  rw [← hz]
  unfold readnumP at hz
  have hk6 := kindP_le (bl s)
  have hx1 : (textP (bl s)).1.length ≤ 281474976710656 := by have := textP_len (bl s); rw [bl_length] at this; omega
  generalize textP (bl s) = q at *
  obtain ⟨x, is⟩ := q
  simp only at hz hx1
  generalize kindP (bl s) = kd at *
  have HR := Lib.hid (fun V => refreadnum_any ⟨x.toArray⟩ (by rw [size_lit]; omega) V)
  have hxe : (⟨x.toArray⟩ : ByteArray).data.toList = x := rfl
  rw [hxe] at HR
  have hsz : (⟨x.toArray⟩ : ByteArray).size = x.length := size_lit x
  clear hxe
  rw [show tb2 (x, is) = .tuple #[.string ⟨x.toArray⟩, .bool is] from rfl] at HT
  generalize (⟨x.toArray⟩ : ByteArray) = X at *
  obtain ⟨v, m, er, hr⟩ : ∃ v m er, rdn x = (v, m, er) := ⟨_, _, _, rfl⟩
  have hmx : m ≤ 281474976710656 := by
    rcases rdn_err hr with h | ⟨_, h, _⟩
    · subst h
      have h1 := (rdn_sound hr).2.1
      omega
    · omega
  generalize x.length = xl at *
  rw [hr] at HR hz
  simp only at HR hz
  have HRX := Lib.hid (show (X.size : Int) = xl by rw [hsz])
  clear hr hs hx1
  cases is with
  | false =>
    have HZ : Hid (z = (0, false)) := Lib.hid (by rw [hz, if_neg]; rintro ⟨h, _⟩; cases h)
    clear hz
    go_enter Tryz.func55, Tryz.ntmps55
    go_wp2_with fail
    refine HT.out.mono ?_; rintro e w1 ⟨rfl, b1⟩
    have B1 := Lib.hid b1
    clear b1
    go_wp2_with fail
    go_ret2
    exact ⟨by rw [HZ.out]; rfl, B1.out⟩
  | true =>
    by_cases hk : kd = 1
    · subst hk
      by_cases he : er = 0
      · subst he
        by_cases hm : m = xl
        · by_cases hvm : v ≤ 2147483647
          · have HZ : Hid (z = (v, true)) := Lib.hid (by rw [hz, if_pos ⟨rfl, rfl, rfl, hm, hvm⟩])
            have hcv : ∀ V : World, (convert 108 3 (.int .u64 (v : Int))).run Tryz.prog V = .ok (.int .i64 (v : Int)) V := fun V => by
              have hw : IntKind.i64.wrap (v : Int) = (v : Int) := IntWalk.i64_in _ (by omega)
              go_simp
            subst hm
            clear hz
            go_enter Tryz.func55, Tryz.ntmps55
            go_wp2_with fail
            refine HT.out.mono ?_; rintro e w1 ⟨rfl, b1⟩
            have B1 := Lib.hid b1
            clear b1
            go_wp2_with fail
            refine (HK.out w1).mono ?_; rintro e w2 ⟨rfl, b2⟩
            have B2 := Lib.hid (below_step B1.out b2)
            clear b2
            go_wp2_with fail
            refine (HR.out w2).mono ?_; rintro e w3 ⟨rfl, b3⟩
            have B3 := Lib.hid (below_step B2.out b3)
            clear b3
            go_wp2_with fail
            go_ret2
            exact ⟨by rw [HZ.out]; rfl, B3.out⟩
          · have HZ : Hid (z = (0, false)) := Lib.hid (by rw [hz, if_neg]; rintro ⟨_, _, _, _, h⟩; exact hvm h)
            subst hm
            clear hz
            go_enter Tryz.func55, Tryz.ntmps55
            go_wp2_with fail
            refine HT.out.mono ?_; rintro e w1 ⟨rfl, b1⟩
            have B1 := Lib.hid b1
            clear b1
            go_wp2_with fail
            refine (HK.out w1).mono ?_; rintro e w2 ⟨rfl, b2⟩
            have B2 := Lib.hid (below_step B1.out b2)
            clear b2
            go_wp2_with fail
            refine (HR.out w2).mono ?_; rintro e w3 ⟨rfl, b3⟩
            have B3 := Lib.hid (below_step B2.out b3)
            clear b3
            go_wp2_with fail
            go_ret2
            exact ⟨by rw [HZ.out]; rfl, B3.out⟩
        · have HZ : Hid (z = (0, false)) := Lib.hid (by rw [hz, if_neg]; rintro ⟨_, _, _, h, _⟩; exact hm h)
          have q1 : ((m : Int) != (xl : Int)) = true := by rw [bne_iff_ne]; omega
          clear hz
          go_enter Tryz.func55, Tryz.ntmps55
          go_wp2_with fail
          refine HT.out.mono ?_; rintro e w1 ⟨rfl, b1⟩
          have B1 := Lib.hid b1
          clear b1
          go_wp2_with fail
          refine (HK.out w1).mono ?_; rintro e w2 ⟨rfl, b2⟩
          have B2 := Lib.hid (below_step B1.out b2)
          clear b2
          go_wp2_with fail
          refine (HR.out w2).mono ?_; rintro e w3 ⟨rfl, b3⟩
          have B3 := Lib.hid (below_step B2.out b3)
          clear b3
          go_wp2_with fail
          go_ret2
          exact ⟨by rw [HZ.out]; rfl, B3.out⟩
      · have HZ : Hid (z = (0, false)) := Lib.hid (by rw [hz, if_neg]; rintro ⟨_, _, h, _, _⟩; exact he h)
        have q1 : ((er : Int) != 0) = true := by rw [bne_iff_ne]; omega
        clear hz
        go_enter Tryz.func55, Tryz.ntmps55
        go_wp2_with fail
        refine HT.out.mono ?_; rintro e w1 ⟨rfl, b1⟩
        have B1 := Lib.hid b1
        clear b1
        go_wp2_with fail
        refine (HK.out w1).mono ?_; rintro e w2 ⟨rfl, b2⟩
        have B2 := Lib.hid (below_step B1.out b2)
        clear b2
        go_wp2_with fail
        refine (HR.out w2).mono ?_; rintro e w3 ⟨rfl, b3⟩
        have B3 := Lib.hid (below_step B2.out b3)
        clear b3
        go_wp2_with fail
        go_ret2
        exact ⟨by rw [HZ.out]; rfl, B3.out⟩
    · have HZ : Hid (z = (0, false)) := Lib.hid (by rw [hz, if_neg]; rintro ⟨_, h, _⟩; exact hk h)
      have q1 : ((kd : Int) != 1) = true := by rw [bne_iff_ne]; omega
      clear hz
      go_enter Tryz.func55, Tryz.ntmps55
      go_wp2_with fail
      refine HT.out.mono ?_; rintro e w1 ⟨rfl, b1⟩
      have B1 := Lib.hid b1
      clear b1
      go_wp2_with fail
      refine (HK.out w1).mono ?_; rintro e w2 ⟨rfl, b2⟩
      have B2 := Lib.hid (below_step B1.out b2)
      clear b2
      go_wp2_with fail
      go_ret2
      exact ⟨by rw [HZ.out]; rfl, B2.out⟩
end Go.Proofs.YtbdlegjklfkdmaaGreatDoor.Pl

namespace Go.Proofs.YtbdlegjklfkdmaaGreatDoor.Pl
open Go.RowKit

def tb (l : List UInt8) : ByteArray := ⟨l.toArray⟩
theorem bl_tb (l : List UInt8) : bl (tb l) = l := rfl
theorem tb_bl (x : ByteArray) : tb (bl x) = x := rfl
theorem map_bl_tb (l : List (List UInt8)) : (l.map tb).map bl = l := by
  rw [List.map_map]; exact (List.map_congr_left (fun x _ => bl_tb x)).trans (List.map_id l)
theorem map_tb_bl (l : List ByteArray) : (l.map bl).map tb = l := by
  rw [List.map_map]; exact (List.map_congr_left (fun x _ => tb_bl x)).trans (List.map_id l)

/-! ### Trees and kinds -/
theorem kindh12 {h : List UInt8} {l : List Tm} (hv : (Tm.node h l).valid) {b : UInt8} {r : List UInt8} (e : h = b :: r) : kindP (Tm.node h l).enc = if b = 100 then 1 else if b = 97 then 2 else if b = 114 then 3 else if b = 104 then 4 else if b = 109 then 5 else 6 := by
  unfold kindP
  rw [if_pos (check_enc hv), Tm.enc_node, e, List.cons_append]
theorem texth12 {h : List UInt8} {l : List Tm} (hv : (Tm.node h l).valid) {x : List UInt8} (e : h = 100 :: txt x) (hx : x.length ≤ 1024) : textP (Tm.node h l).enc = (x, true) := by
  have hr := rdt_txt (t := x) (by rw [two64]; omega) (encs l) 1024 (by omega)
  unfold textP
  rw [if_pos ⟨check_enc hv, by rw [Tm.enc_node, e]; simp⟩, Tm.enc_node, e, List.cons_append, List.drop_succ_cons, List.drop_zero, hr]
theorem kind_check {s : List UInt8} {c : Nat} (h : kindP s = c) (hc : c ≠ 0) : checkP s = 0 := by
  by_cases k : checkP s = 0
  · exact k
  · exfalso; unfold kindP at h; rw [if_neg k] at h; exact hc h.symm
theorem kind_tree12 {s : List UInt8} (hc : checkP s = 0) : ∃ h l c, (Tm.node h l).valid ∧ (Tm.node h l).enc = s ∧ Kd h l.length c ∧ kindP s = c := by
  obtain ⟨⟨h, l⟩, hv, e⟩ := check_iff.1 hc
  have hg := hv.1
  simp only [Tm.good] at hg
  obtain ⟨c, hk⟩ := head_kind hg.1
  refine ⟨h, l, c, hv, e, hk, ?_⟩
  rw [← e]
  cases hk with
  | data t e1 _ _ => rw [kindh12 hv e1]; rfl
  | atom t e1 _ _ _ => rw [kindh12 hv e1]; rfl
  | row v e1 _ _ => rw [kindh12 hv e1]; rfl
  | hash e1 _ => rw [kindh12 hv e1]; rfl
  | mac e1 _ => rw [kindh12 hv e1]; rfl
  | seal_ e1 _ => rw [kindh12 hv e1]; rfl
/-- What is a row is the row of its parts. -/
theorem row_again {s : List UInt8} (h : kindP s = 3) : rowP (partsP s).1 = (s, 0) ∧ (partsP s).1.length ≤ 32 ∧ ∀ x ∈ (partsP s).1, checkP x = 0 := by
  obtain ⟨hd, l, c, hv, e, hk, hc⟩ := kind_tree12 (kind_check h (by decide))
  rw [h] at hc
  subst hc
  cases hk with
  | row v e1 hv2 hl =>
    have e2 : partsP s = (l.map Tm.enc, true) := by unfold partsP; rw [← e, treeOf_enc hv]
    rw [e2]
    refine ⟨?_, ?_, ?_⟩
    · show madeP (114 :: enc (l.map Tm.enc).length) (l.map Tm.enc) = (s, 0)
      rw [List.length_map, hl, ← e1, made_again hv, e]
    · simp only [List.length_map]; omega
    · intro x hx
      obtain ⟨t, ht, rfl⟩ := List.mem_map.1 hx
      exact check_enc (node_valid_parts hv t ht)
theorem row_read {l : List (List UInt8)} (h8 : l.length < 256 ^ 8) {r : List UInt8} (h : rowP l = (r, 0)) : kindP r = 3 ∧ (partsP r).1 = l ∧ checkP r = 0 := by
  obtain ⟨m, hv, e, em⟩ := row_parts h8 h
  refine ⟨by rw [← e, kindh12 hv rfl]; rfl, ?_, by rw [← e]; exact check_enc hv⟩
  unfold partsP
  rw [← e, treeOf_enc hv]
  exact em
theorem row_err {l : List (List UInt8)} (h : ∀ x ∈ l, checkP x = 0) : (rowP l).2 = 0 ∨ rowP l = ([], 5) := by
  unfold rowP madeP
  rw [if_pos h]
  split
  · exact .inl rfl
  · exact .inr rfl
theorem row_ok {l : List (List UInt8)} (h : (rowP l).2 = 0) : rowP l = ((rowP l).1, 0) := Prod.ext rfl h
theorem leaf12 {x : List UInt8} (hx : x.length ≤ 1024) : (Tm.node (100 :: txt x) []).valid ∧ (Tm.node (100 :: txt x) []).enc = 100 :: txt x := by
  have e : (Tm.node (100 :: txt x) []).enc = 100 :: txt x := by rw [Tm.enc_node]; simp [encs]
  refine ⟨⟨by simp only [Tm.good]; exact ⟨data_head hx, by simp [goods]⟩, by simp [Tm.deep, deeps], ?_⟩, e⟩
  rw [e, List.length_cons, txt_len]
  have := enc_len x.length
  omega
theorem data_read {x : List UInt8} (hx : x.length ≤ 1024) : dataP x = (100 :: txt x, 0) ∧ kindP (100 :: txt x) = 1 ∧ textP (100 :: txt x) = (x, true) ∧ checkP (100 :: txt x) = 0 := by
  obtain ⟨hv, e⟩ := leaf12 hx
  have h1 := kindh12 hv rfl
  have h2 := texth12 hv rfl hx
  rw [e] at h1 h2
  exact ⟨by unfold dataP; exact if_neg (by omega), h1, h2, by rw [← e]; exact check_enc hv⟩
theorem data_again {s : List UInt8} (h : kindP s = 1) : ∃ x, x.length ≤ 1024 ∧ s = 100 :: txt x ∧ textP s = (x, true) := by
  obtain ⟨hd, l, c, hv, e, hk, hc⟩ := kind_tree12 (kind_check h (by decide))
  rw [h] at hc
  subst hc
  cases hk with
  | data t e1 ht h0 =>
    have hl : l = [] := List.length_eq_zero_iff.1 h0
    subst hl
    have h2 := texth12 hv e1 ht
    rw [e] at h2
    refine ⟨t, ht, ?_, h2⟩
    rw [← e, Tm.enc_node, e1]; simp [encs]
/-- A number's term. -/
theorem num_read {v : Int} (h0 : 0 ≤ v) (h1 : v ≤ 2147483647) : ∃ s, numP v = (s, 0) ∧ checkP s = 0 ∧ kindP s = 1 ∧ readnumP s = (v.toNat, true) ∧ s.length ≤ 19 := by
  have he := enc_len v.toNat
  obtain ⟨_, k1, k2, k3⟩ := data_read (x := enc v.toNat) (by omega)
  refine ⟨100 :: txt (enc v.toNat), if_pos ⟨h0, h1⟩, k3, k1, ?_, ?_⟩
  · have hr := rdn_enc (v := v.toNat) (by rw [two64]; omega) []
    rw [List.append_nil] at hr
    unfold readnumP
    rw [k2, k1, hr]
    rw [if_pos ⟨rfl, rfl, rfl, rfl, by simp only; omega⟩]
  · rw [List.length_cons, txt_len]
    have := enc_len (enc v.toNat).length
    omega
theorem num_again {s : List UInt8} {v : Nat} (h : readnumP s = (v, true)) : numP (v : Int) = (s, 0) ∧ v ≤ 2147483647 ∧ checkP s = 0 := by
  unfold readnumP at h
  split at h
  · rename_i k
    obtain ⟨k1, k2, k3, k4, k5⟩ := k
    obtain ⟨x, hx, es, et⟩ := data_again k2
    rw [et] at k3 k4 k5 h
    simp only [Prod.mk.injEq, and_true] at h
    rw [h] at k5
    have hr : rdn x = (v, x.length, 0) := Prod.ext h (Prod.ext k4 k3)
    obtain ⟨_, _, r3, _⟩ := rdn_sound hr
    rw [List.take_length] at r3
    refine ⟨?_, k5, kind_check k2 (by decide)⟩
    unfold numP
    rw [if_pos (by omega), Int.toNat_natCast, r3, es]
  · simp at h

/-! ### What may be -/
abbrev Mb := Int × ByteArray
def orgP (v : Int) : Bool := decide (0 ≤ v) && decide (v < 8)
def mayX (c e q : Int) : Bool := orgP c && decide (1 ≤ e) && decide (e ≤ 255) && decide (1 ≤ q) && decide (q ≤ 65535)
def termP (s : ByteArray) : Bool := checkP (bl s) == 0
def mayM1 (c last : Int) (m : Mb) : Bool := orgP m.1 && !(m.1 == c) && decide (last < m.1) && termP m.2
def mayMs (c : Int) : Int → List Mb → Bool
  | _, [] => true
  | last, m :: r => mayM1 c last m && mayMs c m.1 r
def mayL (c : Int) (l : List Mb) : Bool := decide (1 ≤ l.length) && decide (l.length ≤ 6) && mayMs c (-1) l
/-! ### What is encoded -/
def txnL (c e q : Int) : List (List UInt8) := [(numP c).1, (numP e).1, (numP q).1]
def txnT (c e q : Int) : List UInt8 := (rowP (txnL c e q)).1
def memT (m : Mb) : List UInt8 × Nat := rowP [(numP m.1).1, bl m.2]
def membersT (l : List Mb) : List UInt8 × Nat := if ∀ m ∈ l, (memT m).2 = 0 then rowP (l.map fun m => (memT m).1) else ([], 5)
/-! ### What is read -/
noncomputable def partsB (t : ByteArray) : List ByteArray := (partsP (bl t)).1.map tb
noncomputable def rdN (x : ByteArray) : Option Int := if (readnumP (bl x)).2 = true then some ((readnumP (bl x)).1 : Int) else none
noncomputable def getN : List ByteArray → Option (Int × List ByteArray)
  | [] => none
  | a :: r => (rdN a).map fun v => (v, r)
def endR {α : Type} : Option (α × List ByteArray) → Option α
  | some (x, []) => some x
  | _ => none
noncomputable def rowR {α : Type} (t : ByteArray) (g : List ByteArray → Option (α × List ByteArray)) : Option α :=
  if kindP (bl t) = 3 then endR (g (partsB t)) else none
noncomputable def txnG (l : List ByteArray) : Option ((Int × Int × Int) × List ByteArray) :=
  match getN l with
  | none => none
  | some (c, l1) => match getN l1 with
    | none => none
    | some (e, l2) => match getN l2 with
      | none => none
      | some (q, l3) => some ((c, e, q), l3)
noncomputable def txnR (t : ByteArray) : Option (Int × Int × Int) := match rowR t txnG with | some (c, e, q) => if mayX c e q = true then some (c, e, q) else none | none => none
noncomputable def memG (l : List ByteArray) : Option (Mb × List ByteArray) :=
  match getN l with
  | none => none
  | some (o, l1) => match l1 with
    | [] => none
    | d :: r => some ((o, d), r)
noncomputable def memsR : List ByteArray → Option (List Mb)
  | [] => some []
  | p :: r => match rowR p memG with
    | none => none
    | some m => (memsR r).map fun l => m :: l
noncomputable def membersR (c : Int) (t : ByteArray) : Option (List Mb) :=
  if kindP (bl t) = 3 then (match memsR (partsB t) with | some l => if mayL c l = true then some l else none | none => none) else none
end Go.Proofs.YtbdlegjklfkdmaaGreatDoor.Pl

namespace Go.Proofs.YtbdlegjklfkdmaaGreatDoor.Pl
open Go.RowKit

theorem orgP_iff {v : Int} : orgP v = true ↔ 0 ≤ v ∧ v < 8 := by simp [orgP]
theorem mayX_iff {c e q : Int} : mayX c e q = true ↔ (0 ≤ c ∧ c < 8) ∧ (1 ≤ e ∧ e ≤ 255) ∧ 1 ≤ q ∧ q ≤ 65535 := by
  simp only [mayX, Bool.and_eq_true, decide_eq_true_eq, orgP]
  constructor
  · rintro ⟨⟨⟨⟨⟨a, b⟩, c⟩, d⟩, e⟩, f⟩; exact ⟨⟨a, b⟩, ⟨c, d⟩, e, f⟩
  · rintro ⟨⟨a, b⟩, ⟨c, d⟩, e, f⟩; exact ⟨⟨⟨⟨⟨a, b⟩, c⟩, d⟩, e⟩, f⟩
theorem rdN_num {v : Int} (h0 : 0 ≤ v) (h1 : v ≤ 2147483647) : rdN (tb (numP v).1) = some v ∧ checkP (numP v).1 = 0 := by
  obtain ⟨s, e, hc, _, hr, _⟩ := num_read h0 h1
  rw [e]
  refine ⟨?_, hc⟩
  unfold rdN
  rw [bl_tb, hr, if_pos rfl]
  congr 1
  simp only
  omega
theorem rdN_again {x : ByteArray} {v : Int} (h : rdN x = some v) : 0 ≤ v ∧ v ≤ 2147483647 ∧ numP v = (bl x, 0) := by
  unfold rdN at h
  split at h
  · rename_i k
    obtain ⟨n, b, hx⟩ : ∃ n b, readnumP (bl x) = (n, b) := ⟨_, _, rfl⟩
    rw [hx] at h k
    simp only at k h
    subst k
    obtain ⟨h1, h2, _⟩ := num_again hx
    obtain rfl := Option.some.inj h
    exact ⟨by omega, by omega, h1⟩
  · cases h
theorem num_ok {v : Int} (h0 : 0 ≤ v) (h1 : v ≤ 2147483647) : (numP v).2 = 0 ∧ (numP v).1.length ≤ 19 ∧ ∃ x, x.length ≤ 1024 ∧ (numP v).1 = 100 :: txt x := by
  obtain ⟨s, e, _, _, _, hl⟩ := num_read h0 h1
  refine ⟨by rw [e], by rw [e]; exact hl, enc v.toNat, by have := enc_len v.toNat; omega, ?_⟩
  unfold numP
  rw [if_pos ⟨h0, h1⟩]
theorem rowR_row {α : Type} {l : List (List UInt8)} {r : List UInt8} (hl : l.length ≤ 1000) (h : rowP l = (r, 0)) (g : List ByteArray → Option (α × List ByteArray)) : rowR (tb r) g = endR (g (l.map tb)) := by
  obtain ⟨h1, h2, _⟩ := row_read (by omega) h
  unfold rowR partsB
  rw [bl_tb, if_pos h1, h2]
theorem rowR_again {α : Type} {t : ByteArray} {g : List ByteArray → Option (α × List ByteArray)} {x : α} (h : rowR t g = some x) : g (partsB t) = some (x, []) ∧ rowP ((partsB t).map bl) = (bl t, 0) ∧ (∀ y ∈ partsB t, checkP (bl y) = 0) ∧ (partsB t).length ≤ 32 := by
  unfold rowR at h
  split at h
  · rename_i k
    obtain ⟨h1, h2, h3⟩ := row_again k
    refine ⟨?_, ?_, ?_, ?_⟩
    · unfold endR at h
      split at h
      · rename_i y e
        rw [e, Option.some.inj h]
      · cases h
    · unfold partsB; rw [map_bl_tb]; exact h1
    · intro y hy
      obtain ⟨z, hz, rfl⟩ := List.mem_map.1 hy
      exact h3 z hz
    · unfold partsB; rw [List.length_map]; exact h2
  · cases h
theorem txn_ok {c e q : Int} (h : mayX c e q = true) : rowP (txnL c e q) = (txnT c e q, 0) ∧ checkP (txnT c e q) = 0 := by
  obtain ⟨h1, h2, h3⟩ := mayX_iff.1 h
  obtain ⟨_, l1, x1, y1, e1⟩ := num_ok (v := c) (by omega) (by omega)
  obtain ⟨_, l2, x2, y2, e2⟩ := num_ok (v := e) (by omega) (by omega)
  obtain ⟨_, l3, x3, y3, e3⟩ := num_ok (v := q) (by omega) (by omega)
  obtain ⟨v1, f1⟩ := leaf12 y1
  obtain ⟨v2, f2⟩ := leaf12 y2
  obtain ⟨v3, f3⟩ := leaf12 y3
  have el : txnL c e q = [Tm.node (100 :: txt x1) [], Tm.node (100 :: txt x2) [], Tm.node (100 :: txt x3) []].map Tm.enc := by
    simp only [List.map_cons, List.map_nil, f1, f2, f3, txnL, e1, e2, e3]
  rw [e1] at l1; rw [e2] at l2; rw [e3] at l3
  have hv : (Tm.node (114 :: enc 3) [Tm.node (100 :: txt x1) [], Tm.node (100 :: txt x2) [], Tm.node (100 :: txt x3) []]).valid := by
    refine ⟨?_, ?_, ?_⟩
    · simp only [Tm.good, goods, List.length_cons, List.length_nil]
      exact ⟨row_head (by decide), by simpa only [Tm.good, goods, List.length_nil] using v1.1, by simpa only [Tm.good, goods, List.length_nil] using v2.1, by simpa only [Tm.good, goods, List.length_nil] using v3.1, trivial⟩
    · simp [Tm.deep, deeps]
    · rw [Tm.enc_node]
      simp only [encs, f1, f2, f3, List.length_append, List.length_cons, List.length_nil] at *
      have := enc_len 3
      omega
  have hm := made_again hv
  rw [← el] at hm
  have hr : rowP (txnL c e q) = ((Tm.node (114 :: enc 3) [Tm.node (100 :: txt x1) [], Tm.node (100 :: txt x2) [], Tm.node (100 :: txt x3) []]).enc, 0) := hm
  have ht : txnT c e q = (Tm.node (114 :: enc 3) [Tm.node (100 :: txt x1) [], Tm.node (100 :: txt x2) [], Tm.node (100 :: txt x3) []]).enc := by unfold txnT; rw [hr]
  exact ⟨by rw [ht]; exact hr, by rw [ht]; exact check_enc hv⟩
theorem getN_cons {a : ByteArray} {r : List ByteArray} : getN (a :: r) = (rdN a).map fun v => (v, r) := rfl
theorem txnG_ok {c e q : Int} (h : mayX c e q = true) (r : List ByteArray) : txnG ((txnL c e q).map tb ++ r) = some ((c, e, q), r) := by
  obtain ⟨h1, h2, h3⟩ := mayX_iff.1 h
  have n1 := (rdN_num (v := c) (by omega) (by omega)).1
  have n2 := (rdN_num (v := e) (by omega) (by omega)).1
  have n3 := (rdN_num (v := q) (by omega) (by omega)).1
  simp only [txnG, txnL, List.map_cons, List.map_nil, List.cons_append, List.nil_append, getN_cons, n1, n2, n3, Option.map_some]
theorem txnR_ok {c e q : Int} (h : mayX c e q = true) : txnR (tb (txnT c e q)) = some (c, e, q) := by
  unfold txnR
  rw [rowR_row (l := txnL c e q) (by simp [txnL]) (txn_ok h).1]
  have := txnG_ok h []
  rw [List.append_nil] at this
  rw [this]
  simp only [endR, h, if_true]
theorem getN_again {l r : List ByteArray} {v : Int} (h : getN l = some (v, r)) : ∃ a, l = a :: r ∧ rdN a = some v := by
  cases l with
  | nil => cases h
  | cons a s =>
    rw [getN_cons, Option.map_eq_some_iff] at h
    obtain ⟨y, h1, h2⟩ := h
    simp only [Prod.mk.injEq] at h2
    obtain ⟨rfl, rfl⟩ := h2
    exact ⟨a, rfl, h1⟩
theorem txnG_again {l r : List ByteArray} {c e q : Int} (h : txnG l = some ((c, e, q), r)) : l.map bl = txnL c e q ++ r.map bl := by
  unfold txnG at h
  split at h
  · cases h
  · rename_i c' l1 k1
    split at h
    · cases h
    · rename_i e' l2 k2
      split at h
      · cases h
      · rename_i q' l3 k3
        simp only [Option.some.injEq, Prod.mk.injEq] at h
        obtain ⟨⟨rfl, rfl, rfl⟩, rfl⟩ := h
        obtain ⟨a, rfl, ha⟩ := getN_again k1
        obtain ⟨b, rfl, hb⟩ := getN_again k2
        obtain ⟨d, rfl, hd⟩ := getN_again k3
        simp only [txnL, List.map_cons, (rdN_again ha).2.2, (rdN_again hb).2.2, (rdN_again hd).2.2, List.cons_append, List.nil_append]
theorem memR_ok {m : Mb} (h : (memT m).2 = 0) (ho : orgP m.1 = true) : rowR (tb (memT m).1) memG = some m := by
  have n1 := orgP_iff.1 ho
  have n2 := (rdN_num (v := m.1) (by omega) (by omega)).1
  have h' : rowP [(numP m.1).1, bl m.2] = ((memT m).1, 0) := row_ok h
  rw [rowR_row (by simp) h']
  simp only [memG, endR, List.map_cons, List.map_nil, getN_cons, n2, Option.map_some, tb_bl]
theorem memR_again {p : ByteArray} {m : Mb} (h : rowR p memG = some m) : memT m = (bl p, 0) := by
  obtain ⟨k1, k2, _⟩ := rowR_again h
  unfold memG at k1
  split at k1
  · cases k1
  · rename_i o l1 k
    split at k1
    · cases k1
    · rename_i d r
      simp only [Option.some.injEq, Prod.mk.injEq] at k1
      obtain ⟨rfl, rfl⟩ := k1
      obtain ⟨a, ha, hn⟩ := getN_again k
      rw [ha, List.map_cons, List.map_cons, List.map_nil] at k2
      unfold memT
      rw [(rdN_again hn).2.2]
      exact k2
theorem mayMs_all {c : Int} : ∀ {last : Int} {l : List Mb}, mayMs c last l = true → ∀ m ∈ l, orgP m.1 = true ∧ checkP (bl m.2) = 0 ∧ m.1 ≠ c
  | _, [], _, m, hm => by cases hm
  | last, x :: r, h, m, hm => by
    simp only [mayMs, Bool.and_eq_true] at h
    rcases List.mem_cons.1 hm with rfl | hm
    · have h1 := h.1
      simp only [mayM1, Bool.and_eq_true, termP, beq_iff_eq, Bool.not_eq_true', beq_eq_false_iff_ne] at h1
      exact ⟨h1.1.1.1, h1.2, h1.1.1.2⟩
    · exact mayMs_all h.2 m hm
theorem mayL_iff {c : Int} {l : List Mb} : mayL c l = true ↔ 1 ≤ l.length ∧ l.length ≤ 6 ∧ mayMs c (-1) l = true := by
  simp [mayL, Bool.and_eq_true, and_assoc]
theorem memsR_ok {l : List Mb} (h : ∀ m ∈ l, (memT m).2 = 0 ∧ orgP m.1 = true) : memsR ((l.map fun m => (memT m).1).map tb) = some l := by
  induction l with
  | nil => rfl
  | cons m l ih =>
    obtain ⟨h1, h2⟩ := h m (List.mem_cons_self ..)
    simp only [List.map_cons, memsR, memR_ok h1 h2]
    rw [ih (fun x hx => h x (List.mem_cons_of_mem _ hx))]
    rfl
theorem memsR_again : ∀ {ps : List ByteArray} {l : List Mb}, memsR ps = some l → (∀ m ∈ l, (memT m).2 = 0) ∧ (l.map fun m => (memT m).1) = ps.map bl
  | [], l, h => by
    obtain rfl := Option.some.inj h
    exact ⟨fun m hm => (by cases hm), rfl⟩
  | p :: ps, l, h => by
    simp only [memsR] at h
    split at h
    · cases h
    · rename_i m k
      rw [Option.map_eq_some_iff] at h
      obtain ⟨l', h1, rfl⟩ := h
      obtain ⟨g1, g2⟩ := memsR_again h1
      have hm := memR_again k
      refine ⟨fun x hx => ?_, ?_⟩
      · rcases List.mem_cons.1 hx with rfl | hx
        · rw [hm]
        · exact g1 x hx
      · rw [List.map_cons, List.map_cons, g2, hm]
theorem membersT_is {l : List Mb} (h : (membersT l).2 = 0) : (∀ m ∈ l, (memT m).2 = 0) ∧ rowP (l.map fun m => (memT m).1) = ((membersT l).1, 0) := by
  unfold membersT at h ⊢
  split at h
  · rename_i k
    rw [if_pos k]
    exact ⟨k, row_ok h⟩
  · cases h
theorem membersR_ok {c : Int} {l : List Mb} (hl : mayL c l = true) (h : (membersT l).2 = 0) : membersR c (tb (membersT l).1) = some l := by
  obtain ⟨h1, h2⟩ := membersT_is h
  obtain ⟨l1, l6, hm⟩ := mayL_iff.1 hl
  obtain ⟨k1, k2, _⟩ := row_read (by rw [List.length_map]; omega) h2
  have e : memsR (partsB (tb (membersT l).1)) = some l := by
    unfold partsB
    rw [bl_tb, k2]
    exact memsR_ok fun m hmm => ⟨h1 m hmm, (mayMs_all hm m hmm).1⟩
  unfold membersR
  rw [bl_tb, if_pos k1, e]
  simp only [hl, if_true]
theorem membersR_again {c : Int} {t : ByteArray} {l : List Mb} (h : membersR c t = some l) : mayL c l = true ∧ membersT l = (bl t, 0) := by
  unfold membersR at h
  split at h
  · rename_i k
    split at h
    · rename_i l' k1
      split at h
      · rename_i hm
        obtain rfl := Option.some.inj h
        obtain ⟨g1, g2⟩ := memsR_again k1
        refine ⟨hm, ?_⟩
        unfold membersT
        rw [if_pos g1, g2]
        unfold partsB
        rw [map_bl_tb]
        exact (row_again k).1
      · cases h
    · cases h
  · cases h
end Go.Proofs.YtbdlegjklfkdmaaGreatDoor.Pl

namespace Go.Proofs.YtbdlegjklfkdmaaGreatDoor.Pl

def unlisted (l : List Bool) : Nat := (l.map fun b => if b then 0 else 1).sum
theorem unlisted_set : ∀ (l : List Bool) (i : Nat), l.getD i true = false → unlisted (l.set i true) + 1 = unlisted l
  | [], i, h => by simp at h
  | b :: l, 0, h => by
    simp at h; subst h
    simp [unlisted]; omega
  | b :: l, i + 1, h => by
    have ih := unlisted_set l i (by simpa using h)
    simp only [unlisted, List.set_cons_succ, List.map_cons, List.sum_cons] at ih ⊢
    omega
theorem unlisted_zero : ∀ (l : List Bool) (i : Nat), unlisted l = 0 → l.getD i true = true
  | [], i, _ => by simp
  | b :: l, 0, h => by
    cases b with
    | true => rfl
    | false => simp [unlisted] at h
  | b :: l, i + 1, h => by
    have h' : unlisted l = 0 := by
      simp only [unlisted, List.map_cons, List.sum_cons] at h ⊢
      omega
    simpa using unlisted_zero l i h'

variable {F : Fence} {n : Nat} {P : Program} {ops : Array Oper} {Q : Exit → Act → World → Prop} {md : Region.Mode}

theorem getD_list (a : Array Bool) (i : Nat) (d : Bool) : a.getD i d = a.toList.getD i d := by
  rw [Array.getD_eq_getD_getElem?, List.getD_eq_getElem?_getD, Array.getElem?_toList]

/-- What holds whatever has come up serves every order. -/
theorem wpAnyIn_inv (I : Array Bool → Act → World → Prop)
    (hstep : ∀ listed a w i, I listed a w → i ∈ Region.ready md ops listed → wpOpIn F n P ops Q i (I (listed.setIfInBounds i true)) a w)
    (hdone : ∀ listed a w, I listed a w → Region.ready md ops listed = [] → Q .normal a w) :
    ∀ (fuel : Nat) (listed : Array Bool) (a : Act) (w : World), unlisted listed.toList ≤ fuel → I listed a w → wpAnyIn F n P md ops Q fuel listed a w
  | 0, listed, a, w, hf, hI => by
    have h0 : Region.ready md ops listed = [] := by
      rw [List.eq_nil_iff_forall_not_mem]
      intro i hi
      have h1 := (mem_ready.1 hi).1
      rw [getD_list, unlisted_zero _ _ (by omega)] at h1
      cases h1
    exact ⟨h0, hdone _ _ _ hI h0⟩
  | fuel + 1, listed, a, w, hf, hI => by
    refine ⟨fun h0 => hdone _ _ _ hI h0, fun i hi => ?_⟩
    refine wpOpIn_mono (fun a' w' h => wpAnyIn_inv I hstep hdone fuel _ a' w' ?_ h) (hstep _ _ _ _ hI hi)
    have h1 := (mem_ready.1 hi).1
    rw [getD_list] at h1
    have h2 := unlisted_set listed.toList i h1
    rw [Array.toList_setIfInBounds]
    omega

/-- Every operation waits for earlier ones alone. -/
def backB (ops : Array Oper) : Bool := (List.range ops.size).all fun i => match ops[i]? with | some o => o.after.all (fun e => decide (e.on < i)) | none => true
theorem backB_spec (h : backB ops = true) {i : Nat} {o : Oper} (ho : ops[i]? = some o) : ∀ e ∈ o.after, e.on < i := by
  intro e he
  unfold backB at h
  have h1 := List.all_eq_true.1 h i (List.mem_range.2 (Array.getElem?_eq_some_iff.1 ho).1)
  simp only [ho] at h1
  have h2 := Array.all_eq_true_iff_forall_mem.1 h1 e he
  simpa using h2
/-- Where nothing may come up any more, everything has. -/
theorem all_listed {listed : Array Bool} (hb : backB ops = true) (hs : listed.size = ops.size) (hr : Region.ready md ops listed = []) : ∀ (k i : Nat), i < k → i < ops.size → listed.getD i true = true
  | 0, _, h, _ => by omega
  | k + 1, i, hk, hi => by
    cases hl : listed.getD i true with
    | true => rfl
    | false =>
      have hm : i ∈ Region.ready md ops listed := by
        refine mem_ready.2 ⟨hl, ops[i], Array.getElem?_eq_getElem hi, fun e he _ => ?_⟩
        have hlt := backB_spec hb (Array.getElem?_eq_getElem hi) e he
        have h1 := all_listed hb hs hr k e.on (by omega) (by omega)
        rw [Array.getD_eq_getD_getElem?, Array.getElem?_eq_getElem (by omega)] at h1 ⊢
        exact h1
      rw [hr] at hm
      cases hm

theorem dep {i : Nat} {listed : Array Bool} {o : Oper} (hi : i ∈ Region.ready md ops listed) (ho : ops[i]? = some o) (e : Edge) (he : e ∈ o.after) (hb : Region.binds md e = true) : listed.getD e.on false = true := by
  obtain ⟨_, o', ho', hall⟩ := mem_ready.1 hi
  rw [ho] at ho'
  cases ho'
  exact hall e he hb

/-- One operation that is carried out, what follows behind a variable. -/
theorem wpOpIn_want {i : Nat} {o : Oper} {a : Act} {w : World} {I : Act → World → Prop} (ho : ops[i]? = some o) (hw : Region.wanted o (yielded ops a.tmps) = true)
    (h : ∀ K : Act → World → Prop, (∀ a w, I a w → K a w) → o.wpIn F n P a w K Q) : wpOpIn F n P ops Q i I a w := by
  unfold wpOpIn
  simp only [ho, hw, if_true]
  exact h I (fun _ _ h => h)

/-- An append that is known to go through. -/
theorem wpOpIn_append {i : Nat} {o : Oper} {a : Act} {w w' : World} {v u v' : Value} {I : Act → World → Prop} (ho : ops[i]? = some o) (hg : Region.wanted o (yielded ops a.tmps) = true) (s x : Operand) (t : TypeId)
    (hop : o.op = Op.call { callee := Callee.builtin Builtin.append, args := #[s, x], argTypes := #[t, t] }) (hs : a.eval s = v) (hx : a.eval x = u) (hrun : (Builtin.append_ #[t, t] o.type #[v, u]).run P w = .ok v' w')
    (h : I (a.put o.dst v') w') : wpOpIn F n P ops Q i I a w := by
  unfold wpOpIn
  simp only [ho, hg, if_true]
  unfold Oper.wpIn
  refine ⟨?_, ?_⟩
  · simp [Oper.about, hop, resolve, Target.leads, Sem.run_pure]
  · rw [Oper.semAt_plain F _ _ (by rw [hop]; intro c hc'; cases hc')]
    simp [execOp, hop, resolve, invoke, builtin, hs, hx, hrun, Result.andThen, Oper.uponIn]
    exact h

end Go.Proofs.YtbdlegjklfkdmaaGreatDoor.Pl

namespace Go.Proofs.YtbdlegjklfkdmaaGreatDoor.Pl

structure Pl6 where
  at_ : Nat
  dep : Nat
  head : Nat
  parts : Nat

/-- Of so many terms, one behind the other. -/
def visL (vs : Nat → List Pl6 × Nat × Nat) : Nat → Nat → List Pl6 × Nat × Nat
  | 0, a => ([], a, 0)
  | k + 1, a => if (vs a).2.2 = 0 then ((vs a).1 ++ (visL vs k (vs a).2.1).1, (visL vs k (vs a).2.1).2) else ((vs a).1, 0, (vs a).2.2)
/-- Of the term at a place, that is no deeper than d below. -/
def visP (s : List UInt8) : Nat → Nat → List Pl6 × Nat × Nat
  | 0, _ => ([], 0, 60)
  | d + 1, a =>
    if (headP (s.drop a)).2.2 = 0 then
      (⟨a, 16 - d, a + (headP (s.drop a)).1, (headP (s.drop a)).2.1⟩ :: (visL (visP s d) (headP (s.drop a)).2.1 (a + (headP (s.drop a)).1)).1, (visL (visP s d) (headP (s.drop a)).2.1 (a + (headP (s.drop a)).1)).2)
    else ([], 0, (headP (s.drop a)).2.2)

/-- Where the places end, and what is wrong, is what reading tells. -/
theorem vis_read (s : List UInt8) : ∀ (d a : Nat), (visP s d a).2 = if (readP d (s.drop a)).2 = 0 then (a + (readP d (s.drop a)).1, 0) else (0, (readP d (s.drop a)).2) := by
  intro d
  induction d with
  | zero => intro a; simp [visP, readP]
  | succ d ih =>
    have loop : ∀ (k a : Nat), (visL (visP s d) k a).2 = if (loopP (readP d) k (s.drop a)).2 = 0 then (a + (loopP (readP d) k (s.drop a)).1, 0) else (0, (loopP (readP d) k (s.drop a)).2) := by
      intro k
      induction k with
      | zero => intro a; simp [visL, loopP]
      | succ k ihk =>
        intro a
        have h := ih a
        by_cases h0 : (readP d (s.drop a)).2 = 0
        · rw [if_pos h0] at h
          have h1 : (visP s d a).2.2 = 0 := by rw [h]
          have h2 : (visP s d a).2.1 = a + (readP d (s.drop a)).1 := by rw [h]
          rw [visL, if_pos h1, loopP, if_pos h0]
          simp only
          rw [ihk, h2, ← List.drop_drop]
          by_cases h3 : (loopP (readP d) k ((s.drop a).drop (readP d (s.drop a)).1)).2 = 0
          · rw [if_pos h3, if_pos h3]; simp [Nat.add_assoc]
          · rw [if_neg h3, if_neg h3]; exact (if_neg h3).symm
        · rw [if_neg h0] at h
          have h1 : (visP s d a).2.2 ≠ 0 := by rw [h]; exact h0
          rw [visL, if_neg h1, loopP, if_neg h0]
          simp only
          rw [if_neg h0, h]
    intro a
    by_cases h0 : (headP (s.drop a)).2.2 = 0
    · rw [visP, if_pos h0, readP, if_pos h0]
      simp only
      rw [loop, ← List.drop_drop]
      by_cases h3 : (loopP (readP d) (headP (s.drop a)).2.1 ((s.drop a).drop (headP (s.drop a)).1)).2 = 0
      · rw [if_pos h3, if_pos h3]; simp [Nat.add_assoc]
      · rw [if_neg h3, if_neg h3]; exact (if_neg h3).symm
    · rw [visP, if_neg h0, readP, if_neg h0]
      simp [h0]

theorem head_le {s : List UInt8} (h : (headP s).2.2 = 0) : (headP s).1 ≤ s.length := (head_front (s := s) (n := (headP s).1) (p := (headP s).2.1) (by rw [← h])).1
theorem head_le32 {s : List UInt8} (h : (headP s).2.2 = 0) : (headP s).2.1 ≤ 32 := by
  obtain ⟨c, hk⟩ := head_kind (head_front (s := s) (n := (headP s).1) (p := (headP s).2.1) (by rw [← h])).2
  cases hk <;> omega
/-- What every place is. -/
def okPl (s : List UInt8) (p : Pl6) : Prop := p.at_ ≤ s.length ∧ p.head ≤ s.length ∧ 1 ≤ p.dep ∧ p.dep ≤ 16 ∧ p.parts ≤ 32
theorem vis_ok (s : List UInt8) : ∀ (d a : Nat), d ≤ 16 → a ≤ s.length → (∀ p ∈ (visP s d a).1, okPl s p) ∧ ((visP s d a).2.2 = 0 → (visP s d a).2.1 ≤ s.length) := by
  intro d
  induction d with
  | zero => intro a _ _; simp [visP]
  | succ d ih =>
    intro a hd ha
    have loop : ∀ (k a : Nat), a ≤ s.length → (∀ p ∈ (visL (visP s d) k a).1, okPl s p) ∧ ((visL (visP s d) k a).2.2 = 0 → (visL (visP s d) k a).2.1 ≤ s.length) := by
      intro k
      induction k with
      | zero => intro a ha; simp [visL, ha]
      | succ k ihk =>
        intro a ha
        obtain ⟨i1, i2⟩ := ih a (by omega) ha
        rw [visL]
        split
        · rename_i h0
          obtain ⟨j1, j2⟩ := ihk (visP s d a).2.1 (i2 h0)
          refine ⟨?_, j2⟩
          intro p hp
          rcases List.mem_append.1 hp with hp | hp
          · exact i1 p hp
          · exact j1 p hp
        · rename_i h0
          exact ⟨i1, fun h => absurd h h0⟩
    rw [visP]
    split
    · rename_i h0
      have h1 := head_le h0
      have h2 := head_le32 h0
      rw [List.length_drop] at h1
      obtain ⟨j1, j2⟩ := loop (headP (s.drop a)).2.1 (a + (headP (s.drop a)).1) (by omega)
      refine ⟨?_, j2⟩
      intro p hp
      rcases List.mem_cons.1 hp with rfl | hp
      · exact ⟨ha, by show a + _ ≤ _; omega, by show 1 ≤ 16 - d; omega, by show 16 - d ≤ 16; omega, h2⟩
      · exact j1 p hp
    · rename_i h0
      exact ⟨by simp, fun h => absurd h h0⟩

/-- The last place's head is where all ends. -/
theorem vis_last (s : List UInt8) : ∀ (d a : Nat), (visP s d a).2.2 = 0 → ∃ q p, (visP s d a).1 = q ++ [p] ∧ p.head = (visP s d a).2.1 := by
  intro d
  induction d with
  | zero => intro a h; simp [visP] at h
  | succ d ih =>
    have loop : ∀ (k a : Nat), (visL (visP s d) (k + 1) a).2.2 = 0 → ∃ q p, (visL (visP s d) (k + 1) a).1 = q ++ [p] ∧ p.head = (visL (visP s d) (k + 1) a).2.1 := by
      intro k
      induction k with
      | zero =>
        intro a h
        rw [visL] at h ⊢
        split at h
        · rename_i h0
          rw [if_pos h0]
          obtain ⟨q, p, e1, e2⟩ := ih a h0
          exact ⟨q, p, by simp [visL, e1], by simp [visL, e2]⟩
        · rename_i h0
          exact absurd h h0
      | succ k ihk =>
        intro a h
        rw [visL] at h ⊢
        split at h
        · rename_i h0
          rw [if_pos h0]
          obtain ⟨q, p, e1, e2⟩ := ihk _ h
          exact ⟨(visP s d a).1 ++ q, p, by simp [e1], e2⟩
        · rename_i h0
          exact absurd h h0
    intro a h
    rw [visP] at h ⊢
    split at h
    · rename_i h0
      rw [if_pos h0]
      cases hk : (headP (s.drop a)).2.1 with
      | zero => exact ⟨[], ⟨a, 16 - d, a + (headP (s.drop a)).1, 0⟩, by simp [visL], by simp [visL]⟩
      | succ k =>
        rw [hk] at h
        obtain ⟨q, p, e1, e2⟩ := loop k _ h
        exact ⟨_ :: q, p, by simp [e1]; rfl, e2⟩
    · rename_i h0
      exact absurd h h0

/- The places of a tree, each with what stands there. -/
mutual
def offT : Nat → Nat → Tm → List (Pl6 × Tm)
  | a, D, .node h l => (⟨a, D, a + h.length, l.length⟩, .node h l) :: offs (a + h.length) (D + 1) l
def offs : Nat → Nat → List Tm → List (Pl6 × Tm)
  | _, _, [] => []
  | a, D, t :: l => offT a D t ++ offs (a + t.enc.length) D l
end
theorem offs_snd : ∀ t : Tm, ∀ a D, (offT a D t).map Prod.snd = t.places := by
  refine Tm.ind ?_
  intro h l ih a D
  have loop : ∀ m : List Tm, (∀ t ∈ m, t ∈ l) → ∀ a D, (offs a D m).map Prod.snd = placess m := by
    intro m
    induction m with
    | nil => intro _ a D; rfl
    | cons t m ihm =>
      intro hm a D
      rw [offs, List.map_append, ih t (hm t (List.mem_cons_self ..)), ihm (fun u hu => hm u (List.mem_cons_of_mem _ hu)), placess]
  rw [offT, List.map_cons, loop l (fun _ h => h), Tm.places]
/-- What reading a tree's bytes goes over. -/
theorem vis_tree (s : List UInt8) : ∀ t : Tm, t.good → ∀ d, t.deep ≤ d → d ≤ 16 → ∀ a rest, s.drop a = t.enc ++ rest → visP s d a = ((offT a (17 - d) t).map Prod.fst, a + t.enc.length, 0) := by
  refine Tm.ind ?_
  intro h l ih hg d hd hd16 a rest e
  simp only [Tm.good] at hg
  simp only [Tm.deep] at hd
  obtain ⟨d, rfl⟩ : ∃ k, d = k + 1 := ⟨d - 1, by omega⟩
  have loop : ∀ m : List Tm, (∀ t ∈ m, t ∈ l) → ∀ a rest, s.drop a = encs m ++ rest → visL (visP s d) m.length a = ((offs a (17 - d) m).map Prod.fst, a + (encs m).length, 0) := by
    intro m
    induction m with
    | nil => intro _ a rest _; simp [visL, offs, encs]
    | cons t m ihm =>
      intro hm a rest e
      have ht := hm t (List.mem_cons_self ..)
      rw [encs, List.append_assoc] at e
      have h1 := ih t ht (goods_mem hg.2 t ht) d (by have := deeps_mem ht; omega) (by omega) a _ e
      have e2 : s.drop (a + t.enc.length) = encs m ++ rest := by rw [← List.drop_drop, e, List.drop_left]
      have h2 := ihm (fun u hu => hm u (List.mem_cons_of_mem _ hu)) _ _ e2
      rw [List.length_cons, visL, h1, if_pos rfl]
      simp only
      rw [h2, offs, encs, List.map_append]
      simp [Nat.add_assoc]
  rw [Tm.enc_node, List.append_assoc] at e
  have e1 := hg.1 (encs l ++ rest)
  have e2 : s.drop (a + h.length) = encs l ++ rest := by rw [← List.drop_drop, e, List.drop_left]
  rw [visP, e, e1, if_pos rfl]
  simp only
  rw [loop l (fun _ h => h) _ _ e2, offT, Tm.enc_node]
  have hD : 17 - (d + 1) = 16 - d := by omega
  have hD2 : 17 - (d + 1) + 1 = 17 - d := by omega
  rw [hD2, hD, List.map_cons]
  simp [Nat.add_assoc]
/-- What stands at a place. -/
theorem offs_at (s : List UInt8) : ∀ t : Tm, ∀ a D rest, s.drop a = t.enc ++ rest → ∀ x ∈ offT a D t, ∃ r, s.drop x.1.at_ = x.2.enc ++ r := by
  refine Tm.ind ?_
  intro h l ih a D rest e
  have loop : ∀ m : List Tm, (∀ t ∈ m, t ∈ l) → ∀ a D rest, s.drop a = encs m ++ rest → ∀ x ∈ offs a D m, ∃ r, s.drop x.1.at_ = x.2.enc ++ r := by
    intro m
    induction m with
    | nil => intro _ a D rest _ x hx; simp [offs] at hx
    | cons t m ihm =>
      intro hm a D rest e x hx
      rw [encs, List.append_assoc] at e
      rw [offs] at hx
      rcases List.mem_append.1 hx with hx | hx
      · exact ih t (hm t (List.mem_cons_self ..)) a D _ e x hx
      · exact ihm (fun u hu => hm u (List.mem_cons_of_mem _ hu)) (a + t.enc.length) D rest (by rw [← List.drop_drop, e, List.drop_left]) x hx
  intro x hx
  rw [offT] at hx
  rcases List.mem_cons.1 hx with rfl | hx
  · exact ⟨rest, e⟩
  · rw [Tm.enc_node, List.append_assoc] at e
    exact loop l (fun _ h => h) _ _ rest (by rw [← List.drop_drop, e, List.drop_left]) x hx
theorem offs_dep : ∀ t : Tm, ∀ a D, ∀ x ∈ offT a D t, D ≤ x.1.dep := by
  refine Tm.ind ?_
  intro h l ih a D
  have loop : ∀ m : List Tm, (∀ t ∈ m, t ∈ l) → ∀ a D, ∀ x ∈ offs a D m, D ≤ x.1.dep := by
    intro m
    induction m with
    | nil => intro _ a D x hx; simp [offs] at hx
    | cons t m ihm =>
      intro hm a D x hx
      rw [offs] at hx
      rcases List.mem_append.1 hx with hx | hx
      · exact ih t (hm t (List.mem_cons_self ..)) a D x hx
      · exact ihm (fun u hu => hm u (List.mem_cons_of_mem _ hu)) _ D x hx
  intro x hx
  rw [offT] at hx
  rcases List.mem_cons.1 hx with rfl | hx
  · exact Nat.le_refl _
  · have := loop l (fun _ h => h) _ _ x hx; omega
/-- The parts are what stands one deeper. -/
theorem offs_parts (h : List UInt8) (l : List Tm) (a D : Nat) : ((offT a D (.node h l)).filter fun x => x.1.dep == D + 1).map Prod.snd = l := by
  have loop : ∀ m : List Tm, ∀ a, ((offs a (D + 1) m).filter fun x => x.1.dep == D + 1).map Prod.snd = m := by
    intro m
    induction m with
    | nil => intro a; rfl
    | cons t m ihm =>
      intro a
      obtain ⟨h', l'⟩ := t
      rw [offs, List.filter_append, List.map_append, ihm]
      rw [offT, List.filter_cons, if_pos (by simp)]
      have hz : (offs (a + h'.length) (D + 1 + 1) l').filter (fun x => x.1.dep == D + 1) = [] := by
        rw [List.filter_eq_nil_iff]
        intro x hx
        have h1 : D + 1 + 1 ≤ x.1.dep := by
          have h2 := offs_dep (.node h' l') a (D + 1) x (by rw [offT]; exact List.mem_cons_of_mem _ hx)
          have : ∀ m : List Tm, ∀ a E, ∀ x ∈ offs a E m, E ≤ x.1.dep := by
            intro m
            induction m with
            | nil => intro a E x hx; simp [offs] at hx
            | cons t m ihm =>
              intro a E x hx
              rw [offs] at hx
              rcases List.mem_append.1 hx with hx | hx
              · exact offs_dep t a E x hx
              · exact ihm _ E x hx
          exact this l' _ _ x hx
        simp <;> omega
      rw [hz]; simp
  rw [offT, List.filter_cons, if_neg (by simp), loop]
end Go.Proofs.YtbdlegjklfkdmaaGreatDoor.Pl

namespace Go.Proofs.YtbdlegjklfkdmaaGreatDoor.Pl
open Go.RowKit

/-- What is thrown. -/
abbrev boom (e : Nat) : Ending := .panicked [{ v := .iface 29 (.int .i64 e), recovered := false }]

theorem need_ok (w : World) : Calls Tryz.prog 159 #[.int .i64 0] w fun x w' => x = .returned (.tuple #[]) ∧ w' = w := by
  go_enter Tryz.func159, Tryz.ntmps159
  go_wp2
  go_end0
  exact ⟨rfl, rfl⟩
theorem need_bad (e : Nat) (he : e ≠ 0) (w : World) : Calls Tryz.prog 159 #[.int .i64 e] w fun x w' => x = boom e ∧ w' = w := by
  have hz : ((e : Int) != 0) = true := by rw [bne_iff_ne]; omega
  go_enter Tryz.func159, Tryz.ntmps159
  go_wp2
  exact ⟨rfl, rfl, rfl⟩

/-- A text's size, or what is wrong. -/
def Size6 (r : Nat × Nat) (w : World) (x : Ending) (w' : World) : Prop := (if r.2 = 0 then x = .returned (.int .i64 r.1) else x = boom r.2) ∧ Below w.heap.size w w'
theorem Size6.ok {k : Nat} {w w' : World} (h : Below w.heap.size w w') : Size6 (k, 0) w (.returned (.int .i64 k)) w' := ⟨by rw [if_pos rfl], h⟩
theorem Size6.bad {k f : Nat} {w w' : World} (hf : f ≠ 0) (h : Below w.heap.size w w') : Size6 (k, f) w (boom f) w' := ⟨by rw [if_neg hf], h⟩

set_option maxHeartbeats 1000000 in
set_option maxRecDepth 100000 in
theorem textsize_any (s : ByteArray) (hs : s.size ≤ 281474976710656) (w : World) :
    Calls Tryz.prog 147 #[.string s] w (Size6 ((rdt (bl s) 1024).2.1, (rdt (bl s) 1024).2.2) w) := by
  have hT := fun V => readtext_any s 1024 V hs (by decide) (by decide)
  obtain ⟨r, hr⟩ : ∃ r, r = rdt (bl s) 1024 := ⟨_, rfl⟩
  have hbl : s.data.toList = bl s := rfl
  rw [hbl, ← hr] at hT
  rw [← hr]
  obtain ⟨t, k, f⟩ := r
  clear hr hs hbl
  have HT := Lib.hid hT
  clear hT
  by_cases hf : f = 0
  · subst hf
    go_enter Tryz.func147, Tryz.ntmps147
    go_wp2_with (first | (go_at_call 121; refine (HT.out _).mono ?_; rintro e w1 ⟨rfl, b1⟩) | (go_at_call 159; refine (need_ok _).mono ?_; rintro e w2 ⟨rfl, rfl⟩))
    go_ret
    exact Size6.ok b1
  · have HF := Lib.hid hf
    go_enter Tryz.func147, Tryz.ntmps147
    go_wp2_with (first | (go_at_call 121; refine (HT.out _).mono ?_; rintro e w1 ⟨rfl, b1⟩) | (go_at_call 159; refine (need_bad f HF.out _).mono ?_; rintro e w2 ⟨rfl, rfl⟩))
    exact ⟨by first | rfl | trivial, Size6.bad HF.out b1⟩

/-- A row's parts and its head's length, or what is wrong. -/
def Size62 (r : Nat × Nat × Nat) (w : World) (x : Ending) (w' : World) : Prop := (if r.2.2 = 0 then x = .returned (.tuple #[.int .i64 r.1, .int .i64 r.2.1]) else x = boom r.2.2) ∧ Below w.heap.size w w'
theorem Size62.ok {v k : Nat} {w w' : World} (h : Below w.heap.size w w') : Size62 (v, k, 0) w (.returned (.tuple #[.int .i64 v, .int .i64 k])) w' := ⟨by rw [if_pos rfl], h⟩
theorem Size62.bad {v k f : Nat} {w w' : World} (hf : f ≠ 0) (h : Below w.heap.size w w') : Size62 (v, k, f) w (boom f) w' := ⟨by rw [if_neg hf], h⟩
def rowP6 (s : List UInt8) : Nat × Nat × Nat := if (rdn s).2.2 = 0 ∧ 32 < (rdn s).1 then (0, 0, 5) else rdn s

set_option maxHeartbeats 1000000 in
set_option maxRecDepth 100000 in
theorem rowhead_any (s : ByteArray) (hs : s.size ≤ 281474976710656) (w : World) :
    Calls Tryz.prog 149 #[.string s] w (Size62 (rowP6 (bl s)) w) := by
  have hT := fun V => readnum_any s (by omega) V
  obtain ⟨r, hr⟩ : ∃ r, r = rdn (bl s) := ⟨_, rfl⟩
  have hbl : s.data.toList = bl s := rfl
  rw [hbl, ← hr] at hT
  obtain ⟨z, hz⟩ : ∃ z, z = rowP6 (bl s) := ⟨_, rfl⟩
  rw [← hz]
  unfold rowP6 at hz
  rw [← hr] at hz
  obtain ⟨v, k, f⟩ := r
  have HZ := Lib.hid hz
  clear hr hs hbl hz
  have HT := Lib.hid hT
  clear hT
  by_cases hf : f = 0
  · subst hf
    by_cases hv : 32 < v
    · have q1 : (32 : Int) < (v : Int) := by omega
      have HV := Lib.hid hv
      clear hv
      go_enter Tryz.func149, Tryz.ntmps149
      go_wp2_with (first | (go_at_call 87; refine (HT.out _).mono ?_; rintro e w1 ⟨rfl, rfl⟩) | (go_at_call 159; refine (need_ok _).mono ?_; rintro e w2 ⟨rfl, rfl⟩))
      have hz := HZ.out
      rw [if_pos (by first | exact ⟨rfl, HV.out⟩ | exact ⟨trivial, HV.out⟩)] at hz
      exact ⟨rfl, hz ▸ Size62.bad (f := 5) (by decide) (Below.refl _ _)⟩
    · have q1 : ¬ (32 : Int) < (v : Int) := by omega
      have q2 : (v : Int) ≤ 32 := by omega
      have HV := Lib.hid hv
      clear hv
      go_enter Tryz.func149, Tryz.ntmps149
      go_wp2_with (first | (go_at_call 87; refine (HT.out _).mono ?_; rintro e w1 ⟨rfl, rfl⟩) | (go_at_call 159; refine (need_ok _).mono ?_; rintro e w2 ⟨rfl, rfl⟩))
      go_ret2
      have hz := HZ.out
      rw [if_neg (by rintro ⟨_, h⟩; exact HV.out h)] at hz
      exact hz ▸ Size62.ok (Below.refl _ _)
  · have HF := Lib.hid hf
    go_enter Tryz.func149, Tryz.ntmps149
    go_wp2_with (first | (go_at_call 87; refine (HT.out _).mono ?_; rintro e w1 ⟨rfl, rfl⟩) | (go_at_call 159; refine (need_bad f HF.out _).mono ?_; rintro e w2 ⟨rfl, rfl⟩))
    have hz := HZ.out
    rw [if_neg (by rintro ⟨h, _⟩; exact HF.out h)] at hz
    exact ⟨rfl, hz ▸ Size62.bad HF.out (Below.refl _ _)⟩
end Go.Proofs.YtbdlegjklfkdmaaGreatDoor.Pl

namespace Go.Proofs.YtbdlegjklfkdmaaGreatDoor.Pl
open Go.RowKit

theorem bl_at (s : ByteArray) (p : Nat) (h : p < s.size) : (bl s).getD p 0 = s[p]'h := by
  unfold bl
  rw [List.getD_eq_getElem?_getD, List.getElem?_eq_getElem (by rw [Array.length_toList]; exact h)]
  simp
  rfl

set_option maxHeartbeats 4000000 in
set_option maxRecDepth 100000 in
theorem isname_any (s : ByteArray) (hs : s.size ≤ 281474976710656) (w : World) :
    Calls Tryz.prog 160 #[.string s] w fun e w' => e = .returned (.bool (nameOK (bl s))) ∧ Below w.heap.size w w' := by
  obtain ⟨z, hz⟩ : ∃ z, z = nameOK (bl s) := ⟨_, rfl⟩
  rw [← hz]
  by_cases h0 : s.size = 0
  · have HZ : Hid (z = false) := Lib.hid (by rw [hz, bl_nil h0]; rfl)
    obtain rfl : s = ⟨#[]⟩ := bl_inj (bl_nil h0)
    clear hz h0 hs
    go_enter Tryz.func160, Tryz.ntmps160
    go_wp2_with fail
    go_loopw [] (fun wr => Hid (wr.heap[w.heap.size]? = some (.stringIter ⟨#[]⟩ 0)) ∧ Hid (Below w.heap.size w wr)) (fun _ => 0)
    case atStart => exact ⟨Lib.hid (World.iter_heap w _ 0), Lib.hid ((Below.refl _ w).alloc (Nat.le_refl _) _)⟩
    case round =>
      obtain ⟨hit, hbw⟩ := hrel
      have hnx : ∀ ty, (Instr.next (.pointer (some ⟨w.heap.size, 0, none⟩)) true ty).run Tryz.prog wr = _ := fun ty => Lib.run_next_end_at wr w.heap.size ⟨#[]⟩ 0 ty hit.out (by decide)
      go_wp2_with fail
      go_ret
      exact ⟨ret6_bool HZ.out.symm, hbw.out⟩
  · have hne : s ≠ ⟨#[]⟩ := fun e => h0 (by rw [e]; rfl)
    obtain ⟨g1, g2⟩ := str6_ne hne
    have g3 : s.toList.isEmpty = false := by
      rw [Lib.toList_data, List.isEmpty_eq_false_iff]
      intro e
      exact h0 (by rw [size_bl]; unfold bl; rw [e]; rfl)
    have HB : Hid (∀ k, k < s.size → nameB ((bl s).getD k 0) = false → z = false) := Lib.hid (fun k hk hb => by
      rw [hz]
      cases e : nameOK (bl s) with
      | false => rfl
      | true => rw [((nameOK_iff _).1 e).2 k (by rw [bl_length]; exact hk)] at hb; exact absurd hb (by decide))
    have HE : Hid ((∀ j, j < s.size → nameB ((bl s).getD j 0) = true) → z = true) := Lib.hid (fun h => by
      rw [hz, nameOK_iff]
      refine ⟨fun e => h0 (by rw [size_bl, e]; rfl), fun j hj => h j (by rw [bl_length] at hj; exact hj)⟩)
    clear hz h0 hne
    go_enter Tryz.func160, Tryz.ntmps160
    go_wp2_with fail
    go_loopw [] (fun wr => ∃ pos : Nat, Hid (pos ≤ s.size) ∧ Hid (wr.heap[w.heap.size]? = some (.stringIter s pos)) ∧ Hid (∀ j, j < pos → nameB ((bl s).getD j 0) = true) ∧ Hid (Below w.heap.size w wr)) (fun wr => s.size - wr.iterPos w.heap.size)
    case atStart => exact ⟨0, Lib.hid (Nat.zero_le _), Lib.hid (World.iter_heap w s 0), Lib.hid (fun j hj => absurd hj (Nat.not_lt_zero j)), Lib.hid ((Below.refl _ w).alloc (Nat.le_refl _) _)⟩
    case round =>
      obtain ⟨pos, hps, hit, hch, hbw⟩ := hrel
      by_cases hp : pos < s.size
      · have hd : Hid (1 ≤ (Utf8.decode s pos).2 ∧ ((nameB ((bl s).getD pos 0) = true ∧ (Utf8.decode s pos).1 = ((bl s).getD pos 0).toNat ∧ (Utf8.decode s pos).2 = 1) ∨ (nameB ((bl s).getD pos 0) = false ∧ ((Utf8.decode s pos).1 = ((bl s).getD pos 0).toNat ∨ 128 ≤ (Utf8.decode s pos).1)))) := Lib.hid (by
          rw [bl_at s pos hp]
          by_cases ha : (s[pos]'hp).toNat < 128
          · rw [decode_ascii s pos hp ha]
            cases hnb : nameB (s[pos]'hp) with
            | true => exact ⟨Nat.le_refl _, .inl ⟨rfl, rfl, rfl⟩⟩
            | false => exact ⟨Nat.le_refl _, .inr ⟨rfl, .inl rfl⟩⟩
          · have hh := decode_high s pos hp (by omega)
            refine ⟨hh.2, .inr ⟨?_, .inr hh.1⟩⟩
            unfold nameB
            exact decide_eq_false (by omega))
        have hwd : Hid (1 ≤ (Utf8.decode s pos).2) := Lib.hid hd.out.1
        have hit2 := Lib.hid (Lib.iterAt_heap wr w.heap.size s pos (pos + (Utf8.decode s pos).2) hit.out)
        have hb2 := Lib.hid (Lib.below_iterAt hbw.out (k := w.heap.size) (Nat.le_refl _) s (pos + (Utf8.decode s pos).2))
        have hnx : ∀ ty, (Instr.next (.pointer (some ⟨w.heap.size, 0, none⟩)) true ty).run Tryz.prog wr = _ := fun ty => Lib.run_next_any_at wr w.heap.size s pos ty hit.out hp
        generalize wr.iterAt w.heap.size s (pos + (Utf8.decode s pos).2) = W1 at *
        obtain ⟨c, ec⟩ : ∃ c : UInt8, c = (bl s).getD pos 0 := ⟨_, rfl⟩
        have HBK : Hid (nameB c = false → z = false) := Lib.hid (by rw [ec]; exact HB.out pos hp)
        obtain ⟨n, hn⟩ : ∃ n, n = (Utf8.decode s pos).1 := ⟨_, rfl⟩
        obtain ⟨dw, hdw⟩ : ∃ dw, dw = (Utf8.decode s pos).2 := ⟨_, rfl⟩
        have hd' := hd.out
        rw [← hn, ← hdw, ← ec] at hd'
        have HNX : Hid (((97 ≤ n ∧ n ≤ 122) ∨ (48 ≤ n ∧ n ≤ 57) ∨ n = 47 ∨ n = 46 ∨ n = 45) → pos + dw ≤ s.size ∧ ∀ j, j < pos + dw → nameB ((bl s).getD j 0) = true) := Lib.hid (fun h => by
          rcases hd'.2 with ⟨h1, h2, h3⟩ | ⟨h1, h2 | h2⟩
          · refine ⟨by omega, fun j hj => ?_⟩
            by_cases e : j = pos
            · rw [e, ← ec]; exact h1
            · exact hch.out j (by omega)
          · exfalso
            unfold nameB at h1
            rw [← h2] at h1
            exact absurd h (of_decide_eq_false h1)
          · omega)
        have HW : Hid (¬ ((97 ≤ n ∧ n ≤ 122) ∨ (48 ≤ n ∧ n ≤ 57) ∨ n = 47 ∨ n = 46 ∨ n = 45) → z = false) := Lib.hid (fun h => by
          rcases hd'.2 with ⟨h1, h2, h3⟩ | ⟨h1, _⟩
          · exfalso
            unfold nameB at h1
            rw [← h2] at h1
            exact h (of_decide_eq_true h1)
          · exact HBK.out h1)
        rw [← hn] at hnx
        rw [← hdw] at hit2 hwd
        clear ec hn hdw hd hd' HBK
        have hcs : n < 45 ∨ n = 45 ∨ n = 46 ∨ n = 47 ∨ (48 ≤ n ∧ n ≤ 57) ∨ (57 < n ∧ n < 97) ∨ (97 ≤ n ∧ n ≤ 122) ∨ 122 < n := by omega
        have ef : ∀ m : Nat, n ≠ m → ((n : Int) == (m : Int)) = false := fun m h => by rw [beq_eq_false_iff_ne]; omega
        rcases hcs with h | h | h | h | ⟨h, h'⟩ | ⟨h, h'⟩ | ⟨h, h'⟩ | h
        · have HX := Lib.hid (HW.out (by omega))
          have q1 : ((n : Int) == 47) = false := ef 47 (by omega)
          have q2 : ((n : Int) == 46) = false := ef 46 (by omega)
          have q3 : ((n : Int) == 45) = false := ef 45 (by omega)
          clear ef
          go_wp2_with fail
          go_ret
          exact ⟨ret6_bool HX.out.symm, hb2.out⟩
        · subst h
          have HP := Lib.hid (HNX.out (by omega)).1
          have HX := Lib.hid (HNX.out (by omega)).2
          clear ef
          go_wp2_with fail
          go_roundw
          case rel => exact ⟨_, HP, hit2, HX, hb2⟩
          case measure => simp only [World.iterPos, hit2.out, hit.out]; have := hwd.out; omega
        · subst h
          have HP := Lib.hid (HNX.out (by omega)).1
          have HX := Lib.hid (HNX.out (by omega)).2
          clear ef
          go_wp2_with fail
          go_roundw
          case rel => exact ⟨_, HP, hit2, HX, hb2⟩
          case measure => simp only [World.iterPos, hit2.out, hit.out]; have := hwd.out; omega
        · subst h
          have HP := Lib.hid (HNX.out (by omega)).1
          have HX := Lib.hid (HNX.out (by omega)).2
          clear ef
          go_wp2_with fail
          go_roundw
          case rel => exact ⟨_, HP, hit2, HX, hb2⟩
          case measure => simp only [World.iterPos, hit2.out, hit.out]; have := hwd.out; omega
        · have HP := Lib.hid (HNX.out (by omega)).1
          have HX := Lib.hid (HNX.out (by omega)).2
          clear ef
          go_wp2_with fail
          go_roundw
          case rel => exact ⟨_, HP, hit2, HX, hb2⟩
          case measure => simp only [World.iterPos, hit2.out, hit.out]; have := hwd.out; omega
        · have HX := Lib.hid (HW.out (by omega))
          have q1 : ((n : Int) == 47) = false := ef 47 (by omega)
          have q2 : ((n : Int) == 46) = false := ef 46 (by omega)
          have q3 : ((n : Int) == 45) = false := ef 45 (by omega)
          have q4 : decide ((n : Int) ≤ 57) = false := decide_eq_false (by omega)
          clear ef
          go_wp2_with fail
          go_ret
          exact ⟨ret6_bool HX.out.symm, hb2.out⟩
        · have HP := Lib.hid (HNX.out (by omega)).1
          have HX := Lib.hid (HNX.out (by omega)).2
          clear ef
          go_wp2_with fail
          go_roundw
          case rel => exact ⟨_, HP, hit2, HX, hb2⟩
          case measure => simp only [World.iterPos, hit2.out, hit.out]; have := hwd.out; omega
        · have HX := Lib.hid (HW.out (by omega))
          have q1 : ((n : Int) == 47) = false := ef 47 (by omega)
          have q2 : ((n : Int) == 46) = false := ef 46 (by omega)
          have q3 : ((n : Int) == 45) = false := ef 45 (by omega)
          have q4 : decide ((n : Int) ≤ 57) = false := decide_eq_false (by omega)
          have q5 : decide ((n : Int) ≤ 122) = false := decide_eq_false (by omega)
          clear ef
          go_wp2_with fail
          go_ret
          exact ⟨ret6_bool HX.out.symm, hb2.out⟩
      · have hnx : ∀ ty, (Instr.next (.pointer (some ⟨w.heap.size, 0, none⟩)) true ty).run Tryz.prog wr = _ := fun ty => Lib.run_next_end_at wr w.heap.size s pos ty hit.out hp
        have HQ := Lib.hid (HE.out (fun j hj => hch.out j (by omega)))
        clear hp
        go_wp2_with fail
        go_ret
        exact ⟨ret6_bool HQ.out.symm, hbw.out⟩
end Go.Proofs.YtbdlegjklfkdmaaGreatDoor.Pl

namespace Go.Proofs.YtbdlegjklfkdmaaGreatDoor.Pl
open Go.RowKit

/-- The cells of an array that holds the numbers l. -/
def row (k : IntKind) (l : List Nat) : Array Value := (l.map fun (x : Nat) => Value.int k (x : Int)).toArray
theorem below_setRow {B : Nat} {a w : World} (h : Below B a w) {g : Nat} (hg : B ≤ g) (cs : Array Value) : Below B a (w.setRow g cs) :=
  ⟨h.os, h.tape, h.output, by rw [setRow_size]; exact h.size, fun i hi => by rw [setRow_other _ _ _ _ (by omega)]; exact h.block i hi⟩

theorem heap_below {w w' : World} {b : Nat} {o : Obj} (hb : Below w.heap.size w w') (h : w.heap[b]? = some o) : w'.heap[b]? = some o := by
  rw [hb.block b (Array.getElem?_eq_some_iff.1 h).1]; exact h
theorem heap_alloc {w : World} {b : Nat} {o : Obj} (h : w.heap[b]? = some o) (p : Obj) : (w.alloc p).heap[b]? = some o := by
  rw [Go.heap_alloc_old _ _ (Array.getElem?_eq_some_iff.1 h).1]; exact h
theorem heap_setRow {w : World} {b : Nat} {o : Obj} (h : w.heap[b]? = some o) {g : Nat} (hg : b ≠ g) (cs : Array Value) : (w.setRow g cs).heap[b]? = some o := by
  rw [setRow_other _ _ _ _ hg]; exact h

theorem getD_ext {l m : List Nat} (hl : l.length = m.length) (h : ∀ i, i < l.length → l.getD i 0 = m.getD i 0) : l = m := by
  apply List.ext_getElem hl
  intro i h1 h2
  have := h i h1
  simpa [List.getD_eq_getElem?_getD, h1, h2] using this

/-- l agrees with f up to n. -/
def Agrees (l : List Nat) (f : Nat → Nat) (n : Nat) : Prop := ∀ j, j < n → l.getD j 0 = f j
theorem Agrees.zero (l : List Nat) (f : Nat → Nat) : Agrees l f 0 := fun _ h => absurd h (by omega)
theorem Agrees.next {l : List Nat} {f : Nat → Nat} {n : Nat} (h : Agrees l f n) (hn : n < l.length) : Agrees (l.set n (f n)) f (n + 1) := by
  intro j hj
  rw [List.getD_eq_getElem?_getD, List.getElem?_set]
  by_cases e : n = j
  · subst e; simp [hn]
  · rw [if_neg e, ← List.getD_eq_getElem?_getD]; exact h j (by omega)
theorem Agrees.ext {l m : List Nat} {n : Nat} (h : Agrees l (fun j => m.getD j 0) n) (hl : l.length = n) (hm : m.length = n) : l = m := by
  apply List.ext_getElem (by omega)
  intro i h1 h2
  have := h i (by omega)
  simpa [List.getD_eq_getElem?_getD, h1, h2] using this
end Go.Proofs.YtbdlegjklfkdmaaGreatDoor.Pl

namespace Go.Proofs.YtbdlegjklfkdmaaGreatDoor.Pl
open Go.RowKit

theorem encs_append (a b : List Tm) : encs (a ++ b) = encs a ++ encs b := by
  rw [encs_flat, encs_flat, encs_flat, List.map_append, List.flatten_append]
theorem encs_one (t : Tm) : encs [t] = t.enc := by simp [encs]
theorem encs_at (l : List Tm) (k : Nat) (hk : k < l.length) : encs l = encs (l.take k) ++ (l[k].enc ++ encs (l.drop (k + 1))) := by
  have e : l = l.take k ++ (l[k] :: l.drop (k + 1)) := by rw [← List.drop_eq_getElem_cons hk, List.take_append_drop]
  have e2 : encs (l.take k ++ (l[k] :: l.drop (k + 1))) = encs (l.take k) ++ (l[k].enc ++ encs (l.drop (k + 1))) := by rw [encs_append]; simp [encs]
  rw [← e2, ← e]
theorem encs_take (l : List Tm) (k : Nat) (hk : k < l.length) : (encs (l.take (k + 1))).length = (encs (l.take k)).length + l[k].enc.length := by
  rw [List.take_succ_eq_append_getElem hk, encs_append, encs_one, List.length_append]
def txts (l : List ByteArray) : List Value := l.map Value.string
theorem txts_length (l : List ByteArray) : (txts l).length = l.length := by simp [txts]
theorem txts_at (l : List ByteArray) (j : Nat) (h : j < l.length) : (txts l)[j]? = some (.string (l.getD j ByteArray.empty)) := by
  simp [txts, List.getD_eq_getElem?_getD, h]
/-- v is a row of these texts that the call owns, from block B on. -/
def OwnT (w : World) (B : Nat) (v : Value) (l : List ByteArray) : Prop := w.ownsRow B 9 1 v l.length (txts l)
theorem ownT_nil (w : World) (B : Nat) : OwnT w B (.slice none 0 0) [] := World.ownsRow_nil _ _ _ _
theorem ownT_below {w w' : World} {B : Nat} {v : Value} {l : List ByteArray} (h : OwnT w B v l) (hb : Below w.heap.size w w') : OwnT w' B v l := by
  refine ⟨h.1, ?_⟩
  rcases h.2 with hn | ⟨g, cap, cur, hv, hbg, hg, rest⟩
  · exact .inl hn
  · exact .inr ⟨g, cap, cur, hv, hbg, (hb.block g (Array.getElem?_eq_some_iff.1 hg).1).trans hg, rest⟩
theorem ownT_row {w : World} {B : Nat} {v : Value} {l : List ByteArray} (h : OwnT w B v l) : ∃ ao cap, v = .slice ao l.length cap ∧ TxtRow w ao l := by
  rcases h.2 with ⟨hv, h0⟩ | ⟨g, cap, cur, hv, hbg, hg, rest⟩
  · exact ⟨none, 0, by rw [hv, h0], .inl (List.length_eq_zero_iff.1 h0)⟩
  · have h' := h
    unfold OwnT at h'
    rw [hv] at h'
    exact ⟨_, cap, hv, .inr ⟨g, 0, rfl, (Array.getElem?_eq_some_iff.1 hg).1, fun j hj => by rw [Nat.zero_add, h'.cellAt j (by omega), txts_at l j hj]⟩⟩
theorem ownT_row2 {w : World} {B : Nat} {v : Value} {l : List ByteArray} (h : OwnT w B v l) : ∃ ao cap, v = .slice ao l.length cap ∧ TxtRow w ao l ∧ ∀ b off, ao = some ⟨b, off, none⟩ → B ≤ b := by
  rcases h.2 with ⟨hv, h0⟩ | ⟨g, cap, cur, hv, hbg, hg, rest⟩
  · exact ⟨none, 0, by rw [hv, h0], .inl (List.length_eq_zero_iff.1 h0), fun b off e => by cases e⟩
  · have h' := h
    unfold OwnT at h'
    rw [hv] at h'
    exact ⟨_, cap, hv, .inr ⟨g, 0, rfl, (Array.getElem?_eq_some_iff.1 hg).1, fun j hj => by rw [Nat.zero_add, h'.cellAt j (by omega), txts_at l j hj]⟩, fun b off e => by cases e; exact hbg⟩
theorem TxtRow.grown {w w' : World} {ao : Option Addr} {l : List ByteArray} {row : Option Nat} (h : TxtRow w ao l) (hg : w.grownBy w' row) (hne : ∀ b off, ao = some ⟨b, off, none⟩ → row ≠ some b) : TxtRow w' ao l := by
  rcases h with h | ⟨b, off, e, hlt, hc⟩
  · exact .inl h
  · exact .inr ⟨b, off, e, Nat.lt_of_lt_of_le hlt hg.size, fun j hj => hg.cell (hc j hj) (fun e2 => hne b off e e2.symm)⟩
theorem infoStr : (Tryz.prog.info? 9).map (fun i => (i.zero, i.size, i.bytes)) = some (some (.string ⟨#[]⟩), 1, 16) := by kernel_rfl
/-- A tree's parts as texts. -/
def tx (t : Tm) : ByteArray := ⟨t.enc.toArray⟩
theorem bl_tx (t : Tm) : bl (tx t) = t.enc := rfl
set_option maxHeartbeats 4000000 in
set_option maxRecDepth 100000 in
theorem parts_any (h : List UInt8) (l : List Tm) (hv : (Tm.node h l).valid) (s : ByteArray) (hs : bl s = (Tm.node h l).enc) (w : World) :
    Calls Tryz.prog 90 #[.string s] w fun e w' => ∃ v, e = .returned v ∧ OwnT w' w.heap.size v (l.map tx) ∧ Below w.heap.size w w' := by
  obtain ⟨i0, hi, hz0, hz1, hz2⟩ := info_parts infoStr
  have HI := Lib.hid hi
  have hg := hv.1
  simp only [Tm.good] at hg
  obtain ⟨c, hkd⟩ := head_kind hg.1
  have hl32 : l.length ≤ 32 := by cases hkd <;> omega
  have hsz : s.size = (Tm.node h l).enc.length := by rw [size_bl, hs]
  have hsz2 : s.size ≤ 16384 := by rw [hsz]; exact hv.2.2
  have hbl : bl s = h ++ encs l := by rw [hs, Tm.enc_node]
  have hhead : headP (bl s) = (h.length, l.length, 0) := by rw [hbl]; exact hg.1 _
  have HH := Lib.hid (rhead_any s (by omega) w)
  rw [hhead] at HH
  -- where the k-th part lies
  have HP : Hid (∀ k, k < l.length → ∃ t : Tm, l[k]? = some t ∧ t.valid ∧ (bl s).drop (h.length + (encs (l.take k)).length) = t.enc ++ encs (l.drop (k + 1)) ∧ (encs (l.take (k + 1))).length = (encs (l.take k)).length + t.enc.length ∧ h.length + (encs (l.take (k + 1))).length ≤ s.size) := Lib.hid (fun k hk => by
    refine ⟨l[k], List.getElem?_eq_getElem hk, node_valid_parts hv _ (List.getElem_mem hk), ?_, ?_, ?_⟩
    · rw [hbl, encs_at l k hk, ← List.append_assoc, ← List.length_append, List.drop_left]
    · exact encs_take l k hk
    · have e : encs l = encs (l.take (k + 1)) ++ encs (l.drop (k + 1)) := by
        rw [encs_flat, encs_flat, encs_flat, ← List.flatten_append, ← List.map_append, List.take_append_drop]
      have h2 := congrArg List.length hbl
      rw [bl_length, List.length_append, e, List.length_append] at h2
      omega)
  have HALL : Hid (h.length ≤ s.size) := Lib.hid (by
    have h2 := congrArg List.length hbl
    rw [bl_length, List.length_append] at h2
    omega)
  obtain ⟨n, hn⟩ : ∃ n, n = l.length := ⟨_, rfl⟩
  rw [← hn] at HH HP hl32
  have HN := Lib.hid hn
  clear hv hg hkd hsz hbl hhead hs hn hi
  obtain ⟨hl, hhl⟩ : ∃ q, q = h.length := ⟨_, rfl⟩
  rw [← hhl] at HH HP HALL
  clear hhl
  go_enter Tryz.func90, Tryz.ntmps90
  go_wp2_with fail
  refine HH.out.mono ?_; rintro e w1 ⟨rfl, b1⟩
  have B1 := Lib.hid b1
  clear b1
  unfold hd3
  go_wp2_with fail
  go_loopw [3, 6, 7] (fun nv v iv wr => ∃ k m : Nat, iv = .int .i64 k ∧ nv = .int .i64 m ∧ k ≤ n ∧ m ≤ 16384 ∧ Hid (m = hl + (encs (l.take k)).length) ∧ Hid (m ≤ s.size) ∧ Hid (OwnT wr w.heap.size v ((l.take k).map tx)) ∧ Hid (Below w.heap.size w wr)) (fun _ _ iv _ => n - (intOf iv).toNat)
  case atStart => exact ⟨0, hl, rfl, rfl, Nat.zero_le _, by have := HALL.out; omega, Lib.hid (by simp [encs]), HALL, Lib.hid (ownT_nil _ _), B1⟩
  case round =>
    obtain ⟨k, m, rfl, rfl, hkn, hm, hme, hms, hown, hb⟩ := hrel
    by_cases hk : k < n
    · have hk' : (k : Int) < (n : Int) := by omega
      obtain ⟨t, ht, tv, td, tl, te⟩ := HP.out k hk
      have sl : ∀ V : World, (Instr.sliceAt 9 (.string s) (some (.int .i64 (m : Int))) none none).run Tryz.prog V = .ok (.string (s.extract m s.size)) V := tslice_from s m hms.out
      have hx : bl (s.extract m s.size) = t.enc ++ encs (l.drop (k + 1)) := by rw [bl_from, hme.out, td]
      have hxs : (s.extract m s.size).size ≤ 281474976710656 := by rw [size_bl, bl_from, List.length_drop, bl_length]; omega
      have hC := rread_any 16 (s.extract m s.size) wr (Nat.le_refl _) hxs
      rw [hx, read_enc t tv.1 16 tv.2.1, show (17 - ((16 : Nat) : Int)) = 1 by decide] at hC
      have HC := Lib.hid hC
      generalize s.extract m s.size = x at *
      obtain ⟨q, hq⟩ : ∃ q, q = t.enc.length := ⟨_, rfl⟩
      rw [← hq] at HC tl
      have hq1 : m + q ≤ s.size := by rw [hme.out, Nat.add_assoc, ← tl]; exact te
      have sm : ∀ V : World, (Instr.sliceAt 9 (.string s) (some (.int .i64 (m : Int))) (some (.int .i64 (((m + q : Nat)) : Int))) none).run Tryz.prog V = .ok (.string (s.extract m (m + q))) V := tslice_mid s m (m + q) (by omega) hq1
      have hpart : s.extract m (m + q) = tx t := by
        apply bl_inj
        rw [bl_extract, bl_tx, List.drop_take, hme.out, td, show hl + (encs (l.take k)).length + q - (hl + (encs (l.take k)).length) = q by omega, hq, List.take_left]
      rw [hpart] at sm
      have sm' : ∀ V : World, (Instr.sliceAt 9 (.string s) (some (.int .i64 (m : Int))) (some (.int .i64 ((m : Int) + (q : Int)))) none).run Tryz.prog V = .ok (.string (tx t)) V := fun V => by
        have h := sm V
        rw [show (((m + q : Nat)) : Int) = (m : Int) + (q : Int) by omega] at h
        exact h
      have HTK : Hid ((l.take (k + 1)).map tx = (l.take k).map tx ++ [tx t]) := Lib.hid (by
        have hkl : k < l.length := by rw [← HN.out]; exact hk
        rw [List.take_succ_eq_append_getElem hkl, List.map_append]
        have : l[k] = t := by rw [List.getElem?_eq_getElem hkl] at ht; exact Option.some.inj ht
        rw [this]; rfl)
      have HME : Hid (m + q = hl + (encs (l.take (k + 1))).length) := Lib.hid (by rw [tl, hme.out]; omega)
      have HLN : Hid (((l.take k).map tx).length ≤ 32) := Lib.hid (by rw [List.length_map, List.length_take]; omega)
      obtain ⟨L, hL⟩ : ∃ L, L = (l.take k).map tx := ⟨_, rfl⟩
      rw [← hL] at HTK HLN hown
      clear hL
      have HQ1 := Lib.hid hq1
      have hq2 : m + q ≤ 16384 := by omega
      clear ht tv td tl te hx hxs hC hq sm hpart hme hms
      generalize tx t = y at *
      go_wp2_with fail
      refine HC.out.mono ?_; rintro e w2 ⟨rfl, b2⟩
      have B2 := Lib.hid (below_step hb.out b2)
      have O2 := Lib.hid (ownT_below hown.out b2)
      have HSZ := Lib.hid (Nat.le_trans hb.out.size b2.size)
      clear b2
      unfold rd2
      go_wp2_with (at_builtin; refine wpList_append_own _ rfl _ _ 53 rfl w.heap.size 9 i0 (.string ⟨#[]⟩) 1 16 Tryz.underlying53 HI.out hz0 hz1 hz2 rfl (by decide) _ _ _ rfl (World.ownsRow.alloc O2.out _) ⟨w2.heap.size, 0, none⟩ 1 1 [.string y] rfl rfl ?c1 ?c2 ?c3 ?c4 ?c5 ?_)
      case c1 =>
        intro j u hj
        match j, hj with
        | 0, hj => simp at hj; subst hj; simp [Addr.add]
        | (j + 1), hj => simp at hj
      case c2 => intro u hu; simp at hu; subst hu; rfl
      case c3 => have := HLN.out; unfold maxLen; omega
      case c4 => have := HLN.out; omega
      case c5 => have := HSZ.out; simp; omega
      intro v' w3 hown' hgrow _
      have HO : Hid (OwnT w3 w.heap.size v' ((l.take (k + 1)).map tx)) := Lib.hid (by
        rw [HTK.out]
        have h := hown'
        unfold OwnT
        rw [show txts (L ++ [y]) = txts L ++ [.string y] by simp [txts], List.length_append, List.length_singleton]
        exact h)
      have B3 : Hid (Below w.heap.size w w3) := Lib.hid ((B2.out.alloc (by have := HSZ.out; omega) _).grown hgrow (by have := HSZ.out; simp; omega) (fun j hj => (O2.out.lt _ hj).1))
      clear hown' hgrow
      go_wp2_with fail
      go_roundw
      case rel => exact ⟨k + 1, m + q, by go_num, by go_num, by omega, hq2, HME, HQ1, HO, B3⟩
      case measure => simp [intOf]; omega
    · obtain rfl : k = n := by omega
      have HE : Hid ((l.take k).map tx = l.map tx) := Lib.hid (by rw [List.take_of_length_le (by have := HN.out; omega)])
      obtain ⟨ao, cap, rfl, _⟩ := ownT_row hown.out
      clear hk hkn
      go_wp2_with fail
      go_ret
      exact ⟨_, rfl, by rw [← HE.out]; exact hown.out, hb.out⟩
end Go.Proofs.YtbdlegjklfkdmaaGreatDoor.Pl

namespace Go.Proofs.YtbdlegjklfkdmaaGreatDoor.Pl
open Go.RowKit

theorem placess_len {l : List Tm} (h : ∀ t ∈ l, t.places.length ≤ t.enc.length) : (placess l).length ≤ (encs l).length := by
  induction l with
  | nil => simp [placess]
  | cons t l ih =>
    simp only [placess, encs, List.length_append]
    have h1 := h t (List.mem_cons_self ..)
    have h2 := ih (fun u hu => h u (List.mem_cons_of_mem _ hu))
    omega
theorem places_count : ∀ t : Tm, t.good → t.places.length ≤ t.enc.length := by
  refine Tm.ind ?_
  intro h l ih hg
  simp only [Tm.good] at hg
  have h1 := List.length_pos_iff.2 hg.1.pos
  have h2 := placess_len (l := l) (fun t ht => ih t ht (goods_mem hg.2 t ht))
  simp only [Tm.places, Tm.enc, List.length_cons, List.length_append]
  omega
theorem ownT_one (w : World) (s : ByteArray) : OwnT (w.alloc (.cells #[.string s] 9)) w.heap.size (.slice (some ⟨w.heap.size, 0, none⟩) 1 1) [s] :=
  World.ownsRow_lit w #[.string s] 1 (Nat.le_refl _) (by decide) rfl

end Go.Proofs.YtbdlegjklfkdmaaGreatDoor.Pl

namespace Go.Proofs.YtbdlegjklfkdmaaGreatDoor.Pl
open Go.RowKit

theorem tree_of {s : List UInt8} (h : checkP s = 0) : ∃ t : Tm, t.valid ∧ s = t.enc ∧ treeOf s = some t := by
  obtain ⟨t, h1, h2, h3⟩ := treeOf_some h
  exact ⟨t, h1, h2.symm, h3⟩
theorem may_yes {s : ByteArray} (h : checkP (bl s) = 0) : (checkP (bl s) == 0) = true := by rw [h]; rfl
theorem may_no {s : ByteArray} (h : checkP (bl s) ≠ 0) : (checkP (bl s) == 0) = false := by rw [beq_eq_false_iff_ne]; exact h
/-- Two rows of texts, by their bytes. -/
theorem map_bl_tx (l : List Tm) : (l.map tx).map bl = l.map Tm.enc := by rw [List.map_map]; rfl

set_option maxRecDepth 100000 in
theorem rparts6_any (s : ByteArray) (hs : s.size ≤ 281474976710656) (w : World) :
    Calls Tryz.prog 51 #[.string s] w fun e w' => ∃ (v : Value) (L : List ByteArray), e = .returned (.tuple #[v, .bool (partsP (bl s)).2]) ∧ OwnT w' w.heap.size v L ∧ L.map bl = (partsP (bl s)).1 ∧ Below w.heap.size w w' := by
  have HM := Lib.hid (rmay_any s hs w)
  by_cases hc : checkP (bl s) = 0
  · rw [may_yes hc] at HM
    obtain ⟨⟨h, l⟩, tv, te, tr⟩ := tree_of hc
    have HP := Lib.hid (fun V => parts_any h l tv s te V)
    have H1 : Hid ((partsP (bl s)).2 = true) := Lib.hid (by unfold partsP; rw [tr])
    have H2 : Hid ((l.map tx).map bl = (partsP (bl s)).1) := Lib.hid (by unfold partsP; rw [tr, map_bl_tx])
    generalize partsP (bl s) = q at *
    obtain ⟨q1, q2⟩ := q
    simp only at H1 H2
    have h1 := H1.out
    subst h1
    generalize l.map tx = L at *
    clear hc tv te tr hs
    go_enter Tryz.func51, Tryz.ntmps51
    go_wp2_with fail
    refine HM.out.mono ?_; rintro e w1 ⟨rfl, b1⟩
    have B1 := Lib.hid b1
    clear b1
    go_wp2_with fail
    refine (HP.out w1).mono ?_; rintro e w2 ⟨v, rfl, ho, b2⟩
    have B2 := Lib.hid (below_step B1.out b2)
    have HO : Hid (OwnT w2 w.heap.size v L) := Lib.hid (by
      refine ⟨ho.1, ho.2.elim .inl ?_⟩
      rintro ⟨g, cap, cur, e1, e2, rest⟩
      exact .inr ⟨g, cap, cur, e1, Nat.le_trans B1.out.size e2, rest⟩)
    obtain ⟨ao, cap, rfl, _⟩ := ownT_row HO.out
    clear b2 ho
    go_wp2_with fail
    go_ret2
    exact ⟨_, _, rfl, HO.out, H2.out, B2.out⟩
  · rw [may_no hc] at HM
    have H1 : Hid (partsP (bl s) = ([], false)) := Lib.hid (by unfold partsP; rw [treeOf_none hc])
    clear hc hs
    go_enter Tryz.func51, Tryz.ntmps51
    go_wp2_with fail
    refine HM.out.mono ?_; rintro e w1 ⟨rfl, b1⟩
    have B1 := Lib.hid b1
    clear b1
    go_wp2_with fail
    go_ret2
    exact ⟨_, [], by rw [H1.out]; rfl, ownT_nil _ _, by rw [H1.out]; rfl, B1.out⟩

end Go.Proofs.YtbdlegjklfkdmaaGreatDoor.Pl
