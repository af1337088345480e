/- append(l, t) of a text to a row that the call owns: where the longer row lies, and that elder rows stay, also those that share its block. What the document's Parts, Size, depth, Depth, In and Has of layer 6 answer. What the document's Can of layer 10 answers, over a list of what is known. What the document's take of layer 10 does: what is new of a term that is known is told. What the document's take of layer 10 does: the walk. What the document's open of layer 10 does: what can be opened is, once for each. What the document's Learn of layer 10 answers. A row's front and its rest as slices; a row appended to one that the call owns. What the document's List of layer 10 answers. What the document's Can of layer 10 answers of who has seen some texts. Whether more was given than a statement of layer 10 has seen. A region that draws its order, by what holds whatever has come up; inside a fence, also in a round. The places of a text of terms, one behind the other: where each begins, how deep it is, where its head ends, how many parts it has; plain mathematics alone. What term's need, textSize and rowHead answer, and what they throw. What term.isName answers. What the document's Row, Hash, Mac, Seal, Text and ReadNum of layer 6 answer. What the document's ReadNum of layer 6 answers: the number in a datum. How a row of texts that came in reads. What a law's statement asks behind its walk: the one result is true, and each argument reads as it did, where below the heap's old size nothing has turned. Whatever the parameters' types are. What the document's Subs of layer 6 answers: what stands at the places, each once, in order. What the document's Same of layer 6 answers: are two rows of texts alike? What Long of layer 6 tells of a row of texts. How the program's own know lists what is known, rule by rule, till nothing new may be opened; plain mathematics alone. How many are known of some texts, and of their beginnings; plain mathematics alone. -/
import Derived.Test.YtpajcalfjfkogaaForgeF2
import Derived.Laws.AppendOwn
import Derived.Test.YtpajcalfjfkogaaForgeF1
import Derived.RangeFuncBox
import Derived.Laws.AppendOwnNone
import Derived.Laws.OwnMore
import Derived.Laws.Slices
import Derived.OrdersIn
import Derived.OwnWalkIn
import Derived.WalkLawsBesides
import Derived.Laws.RangeString
import Derived.Laws.RangeAny
import Derived.Lib.RuneBytes
import Derived.Laws.Cover4
import Derived.Lib.OthersKept
import Derived.OwnWalk
import Derived.ProofKit
import Derived.SliceStrings
import Derived.Test.YtpajcalfjfkogaaProg
import Derived.WalkKit
import Derived.OpenShut
import Derived.Carry
import Derived.ChangeOld
import Derived.Lib.Hide
namespace Go.Proofs.Ytpajcalfjfkogaa.Pl
open Go.RowKit

theorem app10_run {W1 : World} {n₀ : Nat} {v : Value} {l : List ByteArray} (y : ByteArray) (hrow : OwnT W1 n₀ v l) (hn : n₀ ≤ W1.heap.size) (hl : l.length ≤ 1000000000) :
    ∃ v' w', (Builtin.append_ #[22, 22] 22 #[v, .slice (some ⟨W1.heap.size, 0, none⟩) 1 1]).run Try.prog (W1.alloc (.cells #[.string y] 9)) = .ok v' w' ∧ OwnT w' n₀ v' (l ++ [y]) ∧
      (W1.alloc (.cells #[.string y] 9)).grownBy w' v.ownBlock ∧ ((v'.ownBlock = v.ownBlock ∧ v.ownBlock ≠ none) ∨ (v'.ownBlock = some (W1.heap.size + 1) ∧ (W1.alloc (.cells #[.string y] 9)).grownBy w' none)) := by
  obtain ⟨i0, hi, hz0, hz1, hz2⟩ := info_parts infoStr
  have hnews : ∀ (j : Nat) (u : Value), [Value.string y][j]? = some u → (W1.alloc (.cells #[.string y] 9)).cell? ((⟨W1.heap.size, 0, none⟩ : Addr).add j) = some u := by
    intro j u hj
    match j, hj with
    | 0, hj => simp at hj; subst hj; simp [Addr.add]
    | (j + 1), hj => simp at hj
  have hone : ∀ u ∈ [Value.string y], u.oneCell' = true := by intro u hu; simp at hu; subst hu; rfl
  obtain ⟨v', w', hrun, hown', hgrow, _⟩ := run_append_own (P := Try.prog) (W1.alloc (.cells #[.string y] 9)) n₀ 22 22 9 i0 (.string ⟨#[]⟩) 1 16 Try.underlying22 hi hz0 hz1 hz2 rfl (by decide) v l.length (txts l) (World.ownsRow.alloc hrow _) ⟨W1.heap.size, 0, none⟩ 1 1 [.string y] rfl hnews hone (by unfold maxLen; omega) (by omega) (by simp; omega)
  refine ⟨v', w', hrun, ?_, hgrow, ?_⟩
  · unfold OwnT
    rw [List.length_append, List.length_singleton, show txts (l ++ [y]) = txts l ++ [.string y] by simp [txts]]
    exact hown'
  · have hrow2 := World.ownsRow.alloc hrow (.cells #[.string y] 9)
    rcases hrow2.2 with ⟨rfl, _⟩ | ⟨g, cap, cur, rfl, hbg, hg, hnc, hcm, hcs, htake⟩
    · right
      have hr := run_append_nil (P := Try.prog) (W1.alloc (.cells #[.string y] 9)) 22 22 9 i0 (.string ⟨#[]⟩) Try.underlying22 hi hz0 ⟨W1.heap.size, 0, none⟩ 1 1 [.string y] (by rw [hz1]; rfl) hnews (by omega) (by omega) (by rw [hz2]; decide)
      rw [hrun] at hr
      injection hr with h1 h2
      refine ⟨by rw [h1]; simp [Value.ownBlock], hgrow⟩
    · by_cases hroom : l.length + 1 ≤ cap
      · left
        have hfit : l.length * i0.size + [Value.string y].length ≤ cur.size := by rw [hz1, hcs]; simp; omega
        have hr := run_append_room (P := Try.prog) (W1.alloc (.cells #[.string y] 9)) 22 22 9 i0 Try.underlying22 hi g l.length cap cur hg ⟨W1.heap.size, 0, none⟩ 1 1 [.string y] (by rw [hz1]; rfl) hnews hone hroom hfit
        rw [hrun] at hr
        injection hr with h1 h2
        exact ⟨by rw [h1]; rfl, by simp [Value.ownBlock]⟩
      · right
        have holds : ∀ j u, (txts l)[j]? = some u → (W1.alloc (.cells #[.string y] 9)).cell? ((⟨g, 0, none⟩ : Addr).add j) = some u := hrow2.cells (g := g) rfl
        have hr := run_append_grow (P := Try.prog) (W1.alloc (.cells #[.string y] 9)) 22 22 9 i0 (.string ⟨#[]⟩) Try.underlying22 hi hz0 ⟨g, 0, none⟩ l.length cap (txts l) (by rw [hz1, txts_length, Nat.mul_one]) holds ⟨W1.heap.size, 0, none⟩ 1 1 [.string y] (by rw [hz1]; rfl) hnews (by omega) (by omega) (by rw [hz2]; exact growslice_fits (by omega) (by omega))
        rw [hrun] at hr
        injection hr with h1 h2
        refine ⟨by rw [h1]; simp [Value.ownBlock], ?_⟩
        rw [h2]
        exact ⟨rfl, rfl, rfl, by simp, fun k hk _ => Below.heap_alloc _ _ k hk⟩
/-- A row that shares its block with the one that grows, if it does, is its front. -/
def OldV (v : Value) (n : Nat) (ao : Option Addr) (l0 : List ByteArray) : Prop := ∀ b off, ao = some ⟨b, off, none⟩ → l0 ≠ [] → v.ownBlock = some b → off = 0 ∧ l0.length ≤ n
theorem own_at {W : World} {B g cap : Nat} {l : List ByteArray} (h : OwnT W B (.slice (some ⟨g, 0, none⟩) l.length cap) l) (j : Nat) (hj : j < l.length) : W.cell? ⟨g, j, none⟩ = some (.string (l.getD j ByteArray.empty)) := by
  have h' := h
  unfold OwnT at h'
  have := h'.cells (g := g) rfl j _ (txts_at l j hj)
  rwa [show (⟨g, 0, none⟩ : Addr).add j = ⟨g, j, none⟩ from by unfold Addr.add; split <;> simp_all] at this
theorem own_block {W : World} {B b : Nat} {v : Value} {l : List ByteArray} (h : OwnT W B v l) (hb : v.ownBlock = some b) : ∃ cap, v = .slice (some ⟨b, 0, none⟩) l.length cap := by
  rcases h.2 with ⟨rfl, _⟩ | ⟨g, cap, cur, rfl, _⟩
  · cases hb
  · obtain rfl : g = b := Option.some.inj hb
    exact ⟨cap, rfl⟩
/-- The elder row stays. -/
theorem app10_old {W1 w' : World} {n₀ : Nat} {v v' : Value} {l l0 : List ByteArray} {y : ByteArray} {ao : Option Addr} (hrow : OwnT W1 n₀ v l) (hown : OwnT w' n₀ v' (l ++ [y])) (hgrow : (W1.alloc (.cells #[.string y] 9)).grownBy w' v.ownBlock)
    (hloc : (v'.ownBlock = v.ownBlock ∧ v.ownBlock ≠ none) ∨ (v'.ownBlock = some (W1.heap.size + 1) ∧ (W1.alloc (.cells #[.string y] 9)).grownBy w' none)) (h : TxtRow W1 ao l0) (ho : OldV v l.length ao l0) : TxtRow w' ao l0 ∧ OldV v' (l ++ [y]).length ao l0 := by
  have hal := h.below ((Below.refl W1.heap.size W1).alloc (Nat.le_refl _) (.cells #[.string y] 9))
  rcases hloc with ⟨he, hne⟩ | ⟨he, hg⟩
  · constructor
    · by_cases hsame : ∃ b off, ao = some ⟨b, off, none⟩ ∧ l0 ≠ [] ∧ v.ownBlock = some b
      · obtain ⟨b, off, rfl, hl0, hb⟩ := hsame
        obtain ⟨rfl, hlen⟩ := ho b off rfl hl0 hb
        obtain ⟨cap, rfl⟩ := own_block hrow hb
        obtain ⟨cap', rfl⟩ := own_block hown (he.trans hb)
        rcases h with h | ⟨b2, off2, e, hlt, hc⟩
        · exact absurd h hl0
        · cases e
          have hsz := hgrow.size
          rw [World.size_alloc] at hsz
          refine .inr ⟨b, 0, rfl, by omega, fun j hj => ?_⟩
          have h1 := hc j hj
          have h2 := own_at hrow j (by omega)
          have h3 := own_at hown j (by rw [List.length_append]; omega)
          rw [Nat.zero_add] at h1 ⊢
          rw [h3, ← h1, h2]
          simp [List.getD_eq_getElem?_getD, List.getElem?_append_left (show j < l.length by omega)]
      · by_cases hl0 : l0 = []
        · exact .inl hl0
        · exact hal.grown hgrow fun b off e hb => hsame ⟨b, off, e, hl0, hb⟩
    · intro b off e hl0 hb
      have := ho b off e hl0 (he ▸ hb)
      exact ⟨this.1, by rw [List.length_append]; omega⟩
  · refine ⟨hal.grown hg (fun b off _ hb => by cases hb), fun b off e hl0 hb => ?_⟩
    exfalso
    rcases h with h | ⟨b2, off2, e2, hlt, _⟩
    · exact hl0 h
    · rw [e] at e2
      cases e2
      rw [he] at hb
      have := Option.some.inj hb
      omega
/-- The operation, in a plain region. -/
theorem wpList_app10 {ops : Array Oper} {rest : List Oper} {o : Oper} {a : Act} {Q : Exit → Act → World → Prop} (hgd : o.guard = none) (s x : Operand)
    (ho : o.op = .call { callee := .builtin .append, args := #[s, x], argTypes := #[22, 22] }) (hty : o.type = 22) {W1 : World} {n₀ : Nat} {v : Value} {l : List ByteArray} (y : ByteArray) (hs : a.eval s = v) (hx : a.eval x = .slice (some ⟨W1.heap.size, 0, none⟩) 1 1)
    (hrow : OwnT W1 n₀ v l) (hn : n₀ ≤ W1.heap.size) (hl : l.length ≤ 1000000000)
    (K : ∀ v' w', OwnT w' n₀ v' (l ++ [y]) → (W1.alloc (.cells #[.string y] 9)).grownBy w' v.ownBlock → ((v'.ownBlock = v.ownBlock ∧ v.ownBlock ≠ none) ∨ (v'.ownBlock = some (W1.heap.size + 1) ∧ (W1.alloc (.cells #[.string y] 9)).grownBy w' none)) → wpList Try.prog ops Q rest (a.put o.dst v') w') :
    wpList Try.prog ops Q (o :: rest) a (W1.alloc (.cells #[.string y] 9)) := by
  refine wpList_plain hgd fun _ hK => ?_
  obtain ⟨v', w', hr, h2, h3, h4⟩ := app10_run y hrow hn hl
  unfold Oper.wp execOp
  simp only [ho, hty, resolve, invoke, builtin, Sem.run_bind, Sem.run_pure, Result.andThen_ok, List.map_toArray, List.map_cons, List.map_nil, hs, hx, hr]
  exact hK _ _ (K v' w' h2 h3 h4)
end Go.Proofs.Ytpajcalfjfkogaa.Pl

namespace Go.Proofs.Ytpajcalfjfkogaa.Pl
open Go.RowKit

theorem tree_of {s : List UInt8} (h : checkP s = 0) : ∃ t : Tm, t.valid ∧ s = t.enc ∧ treeOf s = some t := by
  obtain ⟨t, h1, h2, h3⟩ := treeOf_some h
  exact ⟨t, h1, h2.symm, h3⟩
theorem may_yes {s : ByteArray} (h : checkP (bl s) = 0) : (checkP (bl s) == 0) = true := by rw [h]; rfl
theorem may_no {s : ByteArray} (h : checkP (bl s) ≠ 0) : (checkP (bl s) == 0) = false := by rw [beq_eq_false_iff_ne]; exact h
theorem valid_size {t : Tm} (h : t.valid) {s : ByteArray} (e : bl s = t.enc) : s.size ≤ 16384 := by rw [size_bl, e]; exact h.2.2

/-- Two rows of texts, by their bytes. -/
theorem map_bl_tx (l : List Tm) : (l.map tx).map bl = l.map Tm.enc := by rw [List.map_map]; rfl

set_option maxRecDepth 100000 in
theorem rparts6_any (s : ByteArray) (hs : s.size ≤ 281474976710656) (w : World) :
    Calls Try.prog 51 #[.string s] w fun e w' => ∃ (v : Value) (L : List ByteArray), e = .returned (.tuple #[v, .bool (partsP (bl s)).2]) ∧ OwnT w' w.heap.size v L ∧ L.map bl = (partsP (bl s)).1 ∧ Below w.heap.size w w' := by
  have HM := Lib.hid (rmay_any s hs w)
  by_cases hc : checkP (bl s) = 0
  · rw [may_yes hc] at HM
    obtain ⟨⟨h, l⟩, tv, te, tr⟩ := tree_of hc
    have HP := Lib.hid (fun V => parts_any h l tv s te V)
    have H1 : Hid ((partsP (bl s)).2 = true) := Lib.hid (by unfold partsP; rw [tr])
    have H2 : Hid ((l.map tx).map bl = (partsP (bl s)).1) := Lib.hid (by unfold partsP; rw [tr, map_bl_tx])
    generalize partsP (bl s) = q at *
    obtain ⟨q1, q2⟩ := q
    simp only at H1 H2
    have h1 := H1.out
    subst h1
    generalize l.map tx = L at *
    clear hc tv te tr hs
    go_enter Try.func51, Try.ntmps51
    go_wp2_with fail
    refine HM.out.mono ?_; rintro e w1 ⟨rfl, b1⟩
    have B1 := Lib.hid b1
    clear b1
    go_wp2_with fail
    refine (HP.out w1).mono ?_; rintro e w2 ⟨v, rfl, ho, b2⟩
    have B2 := Lib.hid (below_step B1.out b2)
    have HO : Hid (OwnT w2 w.heap.size v L) := Lib.hid (by
      refine ⟨ho.1, ho.2.elim .inl ?_⟩
      rintro ⟨g, cap, cur, e1, e2, rest⟩
      exact .inr ⟨g, cap, cur, e1, Nat.le_trans B1.out.size e2, rest⟩)
    obtain ⟨ao, cap, rfl, _⟩ := ownT_row HO.out
    clear b2 ho
    go_wp2_with fail
    go_ret2
    exact ⟨_, _, rfl, HO.out, H2.out, B2.out⟩
  · rw [may_no hc] at HM
    have H1 : Hid (partsP (bl s) = ([], false)) := Lib.hid (by unfold partsP; rw [treeOf_none hc])
    clear hc hs
    go_enter Try.func51, Try.ntmps51
    go_wp2_with fail
    refine HM.out.mono ?_; rintro e w1 ⟨rfl, b1⟩
    have B1 := Lib.hid b1
    clear b1
    go_wp2_with fail
    go_ret2
    exact ⟨_, [], by rw [H1.out]; rfl, ownT_nil _ _, by rw [H1.out]; rfl, B1.out⟩

end Go.Proofs.Ytpajcalfjfkogaa.Pl

namespace Go.Proofs.Ytpajcalfjfkogaa.Pl
open Go.RowKit

theorem kd_node {h : List UInt8} {l : List Tm} (hv : (Tm.node h l).valid) : ∃ c, Kd h l.length c ∧ kindP (Tm.node h l).enc = c := by
  have hg := hv.1
  simp only [Tm.good] at hg
  obtain ⟨c, hk⟩ := head_kind hg.1
  refine ⟨c, hk, ?_⟩
  unfold kindP
  rw [if_pos (check_enc hv), Tm.enc_node]
  rcases hk with ⟨t, rfl, _, _⟩ | ⟨t, rfl, _, _, _⟩ | ⟨v, rfl, _, _⟩ | ⟨rfl, _⟩ | ⟨rfl, _⟩ | ⟨rfl, _⟩ <;> rfl
/-- The first byte of a head, by its kind. -/
theorem kd_first {h : List UInt8} {p c : Nat} (hk : Kd h p c) : (c = 1 ↔ h.head? = some 100) ∧ (c = 2 ↔ h.head? = some 97) ∧ (c = 3 ↔ h.head? = some 114) ∧ (c = 6 ↔ h = [115]) := by
  rcases hk with ⟨t, rfl, _, _⟩ | ⟨t, rfl, _, _, _⟩ | ⟨v, rfl, _, _⟩ | ⟨rfl, _⟩ | ⟨rfl, _⟩ | ⟨rfl, _⟩ <;> simp
theorem parts_node {h : List UInt8} {l : List Tm} (hv : (Tm.node h l).valid) : partsP (Tm.node h l).enc = (l.map Tm.enc, true) := by
  unfold partsP
  rw [treeOf_enc hv]
open Classical in
/-- Whether a tree can be made of them. -/
noncomputable def canB (L : List ByteArray) (T : Tm) : Bool := decide (can (LB (L.map bl)) T)
open Classical in
theorem canB_iff {L : List ByteArray} {T : Tm} : canB L T = true ↔ can (LB (L.map bl)) T := by unfold canB; exact decide_eq_true_iff
end Go.Proofs.Ytpajcalfjfkogaa.Pl

namespace Go.Proofs.Ytpajcalfjfkogaa.Pl
open Go.RowKit

/-- An elder row, and how it stands to the one that grows. -/
def OldR (w : World) (v : Value) (n : Nat) (ao : Option Addr) (l0 : List ByteArray) : Prop := TxtRow w ao l0 ∧ OldV v n ao l0
theorem OldR.below {w w' : World} {v : Value} {n : Nat} {ao : Option Addr} {l0 : List ByteArray} (h : OldR w v n ao l0) (hb : Below w.heap.size w w') : OldR w' v n ao l0 := ⟨h.1.below hb, h.2⟩
theorem own_low {w : World} {B b : Nat} {v : Value} {L : List ByteArray} (h : OwnT w B v L) (hb : v.ownBlock = some b) : B ≤ b := by
  rcases h.2 with ⟨rfl, _⟩ | ⟨g, cap, cur, rfl, hbg, hg, _⟩
  · cases hb
  · obtain rfl : g = b := Option.some.inj hb
    exact hbg
end Go.Proofs.Ytpajcalfjfkogaa.Pl

namespace Go.Proofs.Ytpajcalfjfkogaa.Pl
open Go.RowKit

end Go.Proofs.Ytpajcalfjfkogaa.Pl

namespace Go.Proofs.Ytpajcalfjfkogaa.Pl
open Go.RowKit

end Go.Proofs.Ytpajcalfjfkogaa.Pl

namespace Go.Proofs.Ytpajcalfjfkogaa.Pl
open Go.RowKit

/-- A copy of a row: append([]string(nil), l...). -/
theorem wpList_copy10 {ops : Array Oper} {rest : List Oper} {o : Oper} {a : Act} {Q : Exit → Act → World → Prop} {w : World} (hgd : o.guard = none) (x : Operand)
    (ho : o.op = .call { callee := .builtin .append, args := #[.const (.slice none 0 0), x], argTypes := #[22, 22] })
    (ao : Option Addr) (cap : Nat) (l : List ByteArray) (hx : a.eval x = .slice ao l.length cap) (hs : TxtRow w ao l) (hn : l.length ≤ 1000000000) (hp : ao = none → cap = 0) (B : Nat) (hB : B ≤ w.heap.size)
    (h : ∀ v' w', OwnT w' B v' l → Below B w w' → w.grownBy w' none → wpList Try.prog ops Q rest (a.put o.dst v') w') : wpList Try.prog ops Q (o :: rest) a w := by
  obtain ⟨i0, hi, hz0, hz1, hz2⟩ := info_parts infoStr
  cases ao with
  | none =>
    have h0 : l = [] := by
      rcases hs with h0 | ⟨b, off, hb, _⟩
      · exact h0
      · cases hb
    subst h0
    obtain rfl := hp rfl
    exact wpList_append_own_none hgd _ x 22 ho B 9 i0 1 Try.underlying22 hi (.slice none 0 0) 0 [] rfl (World.ownsRow_nil _ _ _ _) hx
      (h _ w (ownT_nil _ _) (Below.refl _ _) ⟨rfl, rfl, rfl, Nat.le_refl _, fun _ _ _ => rfl⟩)
  | some ad =>
    refine wpList_append_own w hgd _ x 22 ho B 9 i0 (.string ⟨#[]⟩) 1 16 Try.underlying22 hi hz0 hz1 hz2 rfl (by decide) (.slice none 0 0) 0 [] rfl ⟨rfl, .inl ⟨rfl, rfl⟩⟩ ad l.length cap (txts l) hx (by rw [txts_length, Nat.mul_one]) ?_ ?_ (by unfold maxLen; omega) (by omega) hB ?_
    · intro j u hu
      have hj := (List.getElem?_eq_some_iff.1 hu).1
      rw [txts_length] at hj
      rcases hs with h0 | ⟨b, off, hb, hlt, hc⟩
      · subst h0; simp at hj
      · cases hb
        rw [txts_at l j hj] at hu
        have e : u = .string (l.getD j ByteArray.empty) := (Option.some.inj hu).symm
        rw [e, show (⟨b, off, none⟩ : Addr).add j = ⟨b, off + j, none⟩ from by unfold Addr.add; split <;> simp_all]
        exact hc j hj
    · intro u hu
      obtain ⟨y, _, rfl⟩ := List.mem_map.1 hu
      rfl
    · intro v' w' hown hgrow _
      refine h v' w' ?_ ((Below.refl B w).grown hgrow hB (fun j hj => by cases hj)) hgrow
      unfold OwnT
      rw [Nat.zero_add, List.nil_append] at hown
      exact hown
/-- What has turned: what is in F alone. -/
structure Turn (F : Nat → Prop) (w w' : World) : Prop where
  os : w'.os = w.os
  tape : w'.tape = w.tape
  output : w'.output = w.output
  size : w.heap.size ≤ w'.heap.size
  block : ∀ k, k < w.heap.size → ¬ F k → w'.heap[k]? = w.heap[k]?
theorem turn_below {F : Nat → Prop} {w w' : World} (h : Below w.heap.size w w') : Turn F w w' := ⟨h.os, h.tape, h.output, h.size, fun k hk _ => h.block k hk⟩
theorem turn_grown {F : Nat → Prop} {w w' : World} {r : Nat} (h : w.grownBy w' (some r)) (hr : F r) : Turn F w w' :=
  ⟨h.os, h.tape, h.output, h.size, fun k hk hn => h.block k hk (fun e => hn (by rw [Option.some.inj e]; exact hr))⟩
theorem turn_trans {F G : Nat → Prop} {w w1 w2 : World} (h : Turn F w w1) (k : Turn G w1 w2) (hG : ∀ b, G b → F b ∨ w.heap.size ≤ b) : Turn F w w2 :=
  ⟨k.os.trans h.os, k.tape.trans h.tape, k.output.trans h.output, Nat.le_trans h.size k.size, fun b hb hn => (k.block b (Nat.lt_of_lt_of_le hb h.size) (fun e => (hG b e).elim hn (fun e => absurd hb (by omega)))).trans (h.block b hb hn)⟩
theorem turn_to {F : Nat → Prop} {B : Nat} {w w' : World} (h : Turn F w w') (hF : ∀ b, F b → B ≤ b) (hB : B ≤ w.heap.size) : Below B w w' :=
  ⟨h.os, h.tape, h.output, h.size, fun k hk => h.block k (Nat.lt_of_lt_of_le hk hB) (fun e => by have := hF k e; omega)⟩
theorem txt_block {w w' : World} {ao : Option Addr} {l : List ByteArray} (h : TxtRow w ao l) (hs : w.heap.size ≤ w'.heap.size) (hb : ∀ b off, ao = some ⟨b, off, none⟩ → w'.heap[b]? = w.heap[b]?) : TxtRow w' ao l := by
  rcases h with h | ⟨b, off, e, hlt, hc⟩
  · exact .inl h
  · exact .inr ⟨b, off, e, Nat.lt_of_lt_of_le hlt hs, fun j hj => (World.cell?_of_block (a := ⟨b, off + j, none⟩) (hb b off e)).trans (hc j hj)⟩
theorem below_grown {w w' : World} (h : Below w.heap.size w w') (r : Option Nat) : w.grownBy w' r := ⟨h.os, h.tape, h.output, h.size, fun k hk _ => h.block k hk⟩
end Go.Proofs.Ytpajcalfjfkogaa.Pl

namespace Go.Proofs.Ytpajcalfjfkogaa.Pl
open Go.RowKit

theorem sz10 (V : World) : (sizeOf (Try.prog.elem 22)).run Try.prog V = .ok 1 V := by kernel_rfl
theorem elem10 : Try.prog.underlying 22 = some (.slice (Try.prog.elem 22)) := by kernel_rfl
/-- What a slice that is owned looks like. -/
def OwnS (oo : Option Addr) (cap : Nat) : Prop := (oo = none ∧ cap = 0) ∨ ∃ g, oo = some ⟨g, 0, none⟩
theorem own_shape {W : World} {B : Nat} {v : Value} {O : List ByteArray} (h : OwnT W B v O) : ∃ oo cap, v = .slice oo O.length cap ∧ OwnS oo cap ∧ O.length ≤ cap ∧ TxtRow W oo O := by
  obtain ⟨a, c, e, hr⟩ := ownT_row h
  rcases h.2 with ⟨rfl, h0⟩ | ⟨g, cap, cur, rfl, _, _, hc, _⟩
  · injection e with e1 e2 e3
    exact ⟨a, c, by rw [← e1, ← e2, ← e3], .inl ⟨e1.symm, e3.symm⟩, by omega, hr⟩
  · injection e with e1 e2 e3
    exact ⟨a, c, by rw [← e1, ← e3], .inr ⟨g, e1.symm⟩, by omega, hr⟩
theorem cut_front (oo : Option Addr) (z cap j : Nat) (ho : OwnS oo cap) (hj : j ≤ cap) (V : World) : (Instr.sliceAt 22 (.slice oo z cap) none (some (.int .i64 (j : Int))) none).run Try.prog V = .ok (.slice oo j cap) V := by
  rw [run_sliceAt_slice _ _ _ _ _ _ elem10, run_slice_h _ _ _ _ _ elem10 _ _ (by omega) (by omega), sz10]
  simp only [Result.andThen_ok, sliced, Int.toNat_natCast, Nat.sub_zero, Nat.zero_mul]
  rcases ho with ⟨rfl, rfl⟩ | ⟨g, rfl⟩
  · simp
  · split
    · rfl
    · simp [Addr.add]
theorem cut_rest (oo : Option Addr) (z cap j : Nat) (hj : j ≤ z) (V : World) : (Instr.sliceAt 22 (.slice oo z cap) (some (.int .i64 (j : Int))) none none).run Try.prog V = .ok (.slice (if cap = j then oo else oo.map (·.add j)) (z - j) (cap - j)) V := by
  rw [run_sliceAt_slice _ _ _ _ _ _ elem10, run_slice_l _ _ _ _ _ elem10 _ _ (by omega) (by omega), sz10]
  simp only [Result.andThen_ok, sliced, Int.toNat_natCast, Nat.mul_one]
theorem front_row {W : World} {oo : Option Addr} {O : List ByteArray} (h : TxtRow W oo O) (j : Nat) : TxtRow W oo (O.take j) := by
  rcases h with h | ⟨b, off, e, hlt, hc⟩
  · subst h; exact .inl (by simp)
  · refine .inr ⟨b, off, e, hlt, fun i hi => ?_⟩
    rw [List.length_take] at hi
    rw [hc i (by omega)]
    simp [List.getD_eq_getElem?_getD, show i < j by omega]
theorem rest_row {W : World} {oo : Option Addr} {cap : Nat} {O : List ByteArray} (h : TxtRow W oo O) (ho : OwnS oo cap) (hc : O.length ≤ cap) (j : Nat) : TxtRow W (if cap = j then oo else oo.map (·.add j)) (O.drop j) := by
  by_cases h0 : O.drop j = []
  · exact .inl h0
  · have hj : j < O.length := by
      apply Classical.byContradiction
      intro e
      exact h0 (List.drop_eq_nil_of_le (by omega))
    rw [if_neg (by omega)]
    rcases h with h | ⟨b, off, e, hlt, hcell⟩
    · subst h; simp at hj
    · rcases ho with ⟨rfl, _⟩ | ⟨g, rfl⟩
      · cases e
      · cases e
        refine .inr ⟨b, j, by
          simp only [Option.map_some, Addr.add]
          split <;> simp_all, hlt, fun i hi => ?_⟩
        rw [List.length_drop] at hi
        have := hcell (j + i) (by omega)
        rw [Nat.zero_add] at this
        rw [this]
        simp [List.getD_eq_getElem?_getD, List.getElem?_drop]
/-- append(v, l...) of a row to one that is owned. -/
theorem appT_run {W : World} {B : Nat} {v : Value} {l m : List ByteArray} {ao : Option Addr} {cap : Nat} (hown : OwnT W B v l) (hB : B ≤ W.heap.size) (hrow : TxtRow W ao m) (hp : ao = none → cap = 0) (hl : l.length + m.length ≤ 1000000000) :
    ∃ v' w', (Builtin.append_ #[22, 22] 22 #[v, .slice ao m.length cap]).run Try.prog W = .ok v' w' ∧ OwnT w' B v' (l ++ m) ∧ Below B W w' ∧ W.grownBy w' v.ownBlock := by
  obtain ⟨i0, hi, hz0, hz1, hz2⟩ := info_parts infoStr
  cases ao with
  | none =>
    have h0 : m = [] := by
      rcases hrow with h0 | ⟨b, off, hb, _⟩
      · exact h0
      · cases hb
    subst h0
    obtain rfl := hp rfl
    have hr := run_append_owned_none (P := Try.prog) (w := W) B 22 22 9 i0 1 Try.underlying22 hi v l.length (txts l) hown
    exact ⟨v, W, hr, by rw [List.append_nil]; exact hown, Below.refl _ _, ⟨rfl, rfl, rfl, Nat.le_refl _, fun _ _ _ => rfl⟩⟩
  | some ad =>
    obtain ⟨v', w', hr, h1, h2, _⟩ := run_append_own (P := Try.prog) W B 22 22 9 i0 (.string ⟨#[]⟩) 1 16 Try.underlying22 hi hz0 hz1 hz2 rfl (by decide) v l.length (txts l) hown ad m.length cap (txts m) (by rw [txts_length, Nat.mul_one])
      (by
        intro j u hu
        have hj := (List.getElem?_eq_some_iff.1 hu).1
        rw [txts_length] at hj
        rcases hrow with h0 | ⟨b, off, hb, hlt, hc⟩
        · subst h0; simp at hj
        · cases hb
          rw [txts_at m j hj] at hu
          have e : u = .string (m.getD j ByteArray.empty) := (Option.some.inj hu).symm
          rw [e, show (⟨b, off, none⟩ : Addr).add j = ⟨b, off + j, none⟩ from by unfold Addr.add; split <;> simp_all]
          exact hc j hj)
      (by
        intro u hu
        obtain ⟨y, _, rfl⟩ := List.mem_map.1 hu
        rfl) (by unfold maxLen; omega) (by omega) hB
    refine ⟨v', w', hr, ?_, (Below.refl B W).grown h2 hB (fun j hj => own_low hown hj), h2⟩
    unfold OwnT
    rw [List.length_append, show txts (l ++ m) = txts l ++ txts m by simp [txts]]
    exact h1
/-- The operation, in a region that draws. -/
theorem wp_appT {o : Oper} {a : Act} {K : Act → World → Prop} {Q : Exit → Act → World → Prop} {W : World} (s x : Operand)
    (ho : o.op = .call { callee := .builtin .append, args := #[s, x], argTypes := #[22, 22] }) (hty : o.type = 22) {v u v' : Value} {w' : World} (hs : a.eval s = v) (hx : a.eval x = u)
    (hr : (Builtin.append_ #[22, 22] 22 #[v, u]).run Try.prog W = .ok v' w') (hK : K (a.put o.dst v') w') : o.wp Try.prog a W K Q := by
  unfold Oper.wp execOp
  simp only [ho, hty, resolve, invoke, builtin, Sem.run_bind, Sem.run_pure, Result.andThen_ok, List.map_toArray, List.map_cons, List.map_nil, hs, hx, hr]
  exact hK
end Go.Proofs.Ytpajcalfjfkogaa.Pl

namespace Go.Proofs.Ytpajcalfjfkogaa.Pl
open Go.RowKit

end Go.Proofs.Ytpajcalfjfkogaa.Pl

namespace Go.Proofs.Ytpajcalfjfkogaa.Pl
open Go.RowKit

open Classical in
noncomputable def canPB (H : List (List UInt8)) (s : List UInt8) : Bool := decide (canP H s)
open Classical in
theorem canPB_iff {H : List (List UInt8)} {s : List UInt8} : canPB H s = true ↔ canP H s := by unfold canPB; exact decide_eq_true_iff
theorem canPB_no {H : List (List UInt8)} {s : List UInt8} (h : ¬ canP H s) : canPB H s = false := by
  rw [← Bool.not_eq_true, canPB_iff]
  exact h
end Go.Proofs.Ytpajcalfjfkogaa.Pl

namespace Go.Proofs.Ytpajcalfjfkogaa.Pl
open Go.RowKit

def sumB (l : List ByteArray) : Nat := (l.map fun s => min s.size 65536).sum
noncomputable def longB (l : List ByteArray) : Bool := decide (40 < l.length) || decide (6000 < sumB (l.take 60))
theorem sumB_le : ∀ l : List ByteArray, sumB l ≤ 65536 * l.length
  | [] => Nat.le_refl _
  | s :: l => by
    have h := sumB_le l
    unfold sumB at h ⊢
    simp only [List.map_cons, List.sum_cons, List.length_cons]
    have := Nat.min_le_right s.size 65536
    omega
theorem sumB_step (l : List ByteArray) (k : Nat) (h : k < l.length) : sumB (l.take (k + 1)) = sumB (l.take k) + min (l.getD k ByteArray.empty).size 65536 := by
  unfold sumB
  rw [List.take_succ_eq_append_getElem h, List.map_append, List.sum_append]
  simp [List.getD_eq_getElem?_getD, h]
theorem sumB_small : ∀ l : List ByteArray, sumB l ≤ 6000 → (l.map fun s => (bl s).length).sum ≤ 6000 ∧ sumB l = (l.map fun s => (bl s).length).sum
  | [], _ => ⟨Nat.zero_le _, rfl⟩
  | s :: l, h => by
    unfold sumB at h ⊢
    simp only [List.map_cons, List.sum_cons] at h ⊢
    have h1 := sumB_small l (by unfold sumB; omega)
    have h2 := bl_length s
    unfold sumB at h1
    have h3 : min s.size 65536 = s.size := by
      have := Nat.min_le_left s.size 65536
      omega
    omega
theorem long_no {l : List ByteArray} (h : longB l = false) : l.length ≤ 40 ∧ ((l.map bl).map List.length).sum ≤ 6000 := by
  unfold longB at h
  rw [Bool.or_eq_false_iff, decide_eq_false_iff_not, decide_eq_false_iff_not] at h
  have h1 : l.take 60 = l := List.take_of_length_le (by omega)
  rw [h1] at h
  have := (sumB_small l (by omega)).1
  refine ⟨by omega, ?_⟩
  rw [List.map_map]
  exact this
set_option maxHeartbeats 2000000 in
set_option maxRecDepth 100000 in
theorem long10_any (l : List ByteArray) (ao : Option Addr) (cap : Nat) (w : World) (hrow : TxtRow w ao l) :
    Calls Try.prog 7 #[.slice ao l.length cap] w fun e w' => e = .returned (.bool (longB l)) ∧ w = w' := by
  have HR := Lib.hid hrow
  obtain ⟨n, hn⟩ : ∃ n, n = l.length := ⟨_, rfl⟩
  have HN := Lib.hid hn
  rw [← hn]
  clear hrow hn
  go_enter Try.func7, Try.ntmps7
  go_wp2_with fail
  go_loopw [3, 4] (fun sv iv wr => ∃ k : Nat, sv = .int .i64 (sumB (l.take k)) ∧ iv = .int .i64 k ∧ k ≤ n ∧ k ≤ 60 ∧ wr = w) (fun _ iv _ => 60 - (intOf iv).toNat)
  case atStart => exact ⟨0, rfl, rfl, Nat.zero_le _, Nat.zero_le _, rfl⟩
  case round =>
    obtain ⟨k, rfl, rfl, hkn, hk60, rfl⟩ := hrel
    have hb := sumB_le (l.take k)
    rw [List.length_take] at hb
    have hb2 : sumB (l.take k) ≤ 65536 * 60 := by
      have : min k l.length ≤ 60 := by omega
      have := Nat.mul_le_mul_left 65536 this
      omega
    by_cases hk : k < n ∧ k < 60
    · obtain ⟨h1, h2⟩ := hk
      have q1 : (k : Int) < (n : Int) := by omega
      have q2 : (k : Int) < 60 := by omega
      have hkl : k < l.length := by rw [← HN.out]; exact h1
      rcases HR.out with e | ⟨g, off, rfl, hlt, hc⟩
      · exfalso
        rw [e] at hkl
        exact absurd hkl (Nat.not_lt_zero _)
      have ck := hc k hkl
      have hst := sumB_step l k hkl
      generalize l.getD k ByteArray.empty = x at *
      generalize sumB (l.take k) = S at *
      have HST := Lib.hid hst
      clear hc hlt hst hb
      by_cases hx : 65536 < x.size
      · have q3 : (65536 : Int) < (x.size : Int) := by omega
        have q4 : ¬ (x.size : Int) < 65536 := by omega
        have HS2 : Hid (sumB (l.take (k + 1)) = S + 65536) := Lib.hid (by rw [HST.out, Nat.min_eq_right (by omega)])
        clear HST
        go_wp2_with fail
        go_roundw
        case rel => exact ⟨k + 1, by rw [HS2.out]; go_num, by go_num, by omega, by omega, trivial⟩
        case measure => simp [intOf]; omega
      · have q3 : ¬ (65536 : Int) < (x.size : Int) := by omega
        have HS2 : Hid (sumB (l.take (k + 1)) = S + x.size) := Lib.hid (by rw [HST.out, Nat.min_eq_left (by omega)])
        clear HST
        go_wp2_with fail
        go_roundw
        case rel => exact ⟨k + 1, by rw [HS2.out]; go_num, by go_num, by omega, by omega, trivial⟩
        case measure => simp [intOf]; omega
    · have hEQ : l.take 60 = l.take k := by
        by_cases h1 : k = 60
        · rw [h1]
        · have : k = n := by omega
          rw [List.take_of_length_le (by rw [← HN.out]; omega), List.take_of_length_le (by rw [← HN.out]; omega)]
      have HE := Lib.hid (show longB l = (decide (40 < n) || decide (6000 < sumB (l.take k))) by unfold longB; rw [hEQ, HN.out])
      generalize sumB (l.take k) = S at *
      by_cases h40 : 40 < n
      · have q5 : (40 : Int) < (n : Int) := by omega
        have HZ : Hid (longB l = true) := Lib.hid (by rw [HE.out, decide_eq_true h40]; rfl)
        by_cases h1 : k < n
        · have q1 : (k : Int) < (n : Int) := by omega
          have q2 : ¬ (k : Int) < 60 := by omega
          clear hEQ hb
          go_wp2_with fail
          go_ret
          exact ⟨by rw [HZ.out]; rfl, rfl⟩
        · have q1 : ¬ (k : Int) < (n : Int) := by omega
          clear hEQ hb
          go_wp2_with fail
          go_ret
          exact ⟨by rw [HZ.out]; rfl, rfl⟩
      · have q5 : ¬ (40 : Int) < (n : Int) := by omega
        have q1 : ¬ (k : Int) < (n : Int) := by omega
        by_cases h6 : 6000 < S
        · have q6 : (6000 : Int) < (S : Int) := by omega
          have HZ : Hid (longB l = true) := Lib.hid (by rw [HE.out, decide_eq_true h6, Bool.or_true])
          clear hEQ hb
          go_wp2_with fail
          go_ret
          exact ⟨by rw [HZ.out]; rfl, rfl⟩
        · have q6 : ¬ (6000 : Int) < (S : Int) := by omega
          have HZ : Hid (longB l = false) := Lib.hid (by rw [HE.out, decide_eq_false h6, decide_eq_false h40]; rfl)
          clear hEQ hb
          go_wp2_with fail
          go_ret
          exact ⟨by rw [HZ.out]; rfl, rfl⟩
end Go.Proofs.Ytpajcalfjfkogaa.Pl

namespace Go.Proofs.Ytpajcalfjfkogaa.Pl

def unlisted (l : List Bool) : Nat := (l.map fun b => if b then 0 else 1).sum
theorem unlisted_set : ∀ (l : List Bool) (i : Nat), l.getD i true = false → unlisted (l.set i true) + 1 = unlisted l
  | [], i, h => by simp at h
  | b :: l, 0, h => by
    simp at h; subst h
    simp [unlisted]; omega
  | b :: l, i + 1, h => by
    have ih := unlisted_set l i (by simpa using h)
    simp only [unlisted, List.set_cons_succ, List.map_cons, List.sum_cons] at ih ⊢
    omega
theorem unlisted_zero : ∀ (l : List Bool) (i : Nat), unlisted l = 0 → l.getD i true = true
  | [], i, _ => by simp
  | b :: l, 0, h => by
    cases b with
    | true => rfl
    | false => simp [unlisted] at h
  | b :: l, i + 1, h => by
    have h' : unlisted l = 0 := by
      simp only [unlisted, List.map_cons, List.sum_cons] at h ⊢
      omega
    simpa using unlisted_zero l i h'

variable {F : Fence} {n : Nat} {P : Program} {ops : Array Oper} {Q : Exit → Act → World → Prop} {md : Region.Mode}

theorem getD_list (a : Array Bool) (i : Nat) (d : Bool) : a.getD i d = a.toList.getD i d := by
  rw [Array.getD_eq_getD_getElem?, List.getD_eq_getElem?_getD, Array.getElem?_toList]

/-- What holds whatever has come up serves every order. -/
theorem wpAnyIn_inv (I : Array Bool → Act → World → Prop)
    (hstep : ∀ listed a w i, I listed a w → i ∈ Region.ready md ops listed → wpOpIn F n P ops Q i (I (listed.setIfInBounds i true)) a w)
    (hdone : ∀ listed a w, I listed a w → Region.ready md ops listed = [] → Q .normal a w) :
    ∀ (fuel : Nat) (listed : Array Bool) (a : Act) (w : World), unlisted listed.toList ≤ fuel → I listed a w → wpAnyIn F n P md ops Q fuel listed a w
  | 0, listed, a, w, hf, hI => by
    have h0 : Region.ready md ops listed = [] := by
      rw [List.eq_nil_iff_forall_not_mem]
      intro i hi
      have h1 := (mem_ready.1 hi).1
      rw [getD_list, unlisted_zero _ _ (by omega)] at h1
      cases h1
    exact ⟨h0, hdone _ _ _ hI h0⟩
  | fuel + 1, listed, a, w, hf, hI => by
    refine ⟨fun h0 => hdone _ _ _ hI h0, fun i hi => ?_⟩
    refine wpOpIn_mono (fun a' w' h => wpAnyIn_inv I hstep hdone fuel _ a' w' ?_ h) (hstep _ _ _ _ hI hi)
    have h1 := (mem_ready.1 hi).1
    rw [getD_list] at h1
    have h2 := unlisted_set listed.toList i h1
    rw [Array.toList_setIfInBounds]
    omega

/-- Every operation waits for earlier ones alone. -/
def backB (ops : Array Oper) : Bool := (List.range ops.size).all fun i => match ops[i]? with | some o => o.after.all (fun e => decide (e.on < i)) | none => true
theorem backB_spec (h : backB ops = true) {i : Nat} {o : Oper} (ho : ops[i]? = some o) : ∀ e ∈ o.after, e.on < i := by
  intro e he
  unfold backB at h
  have h1 := List.all_eq_true.1 h i (List.mem_range.2 (Array.getElem?_eq_some_iff.1 ho).1)
  simp only [ho] at h1
  have h2 := Array.all_eq_true_iff_forall_mem.1 h1 e he
  simpa using h2
/-- Where nothing may come up any more, everything has. -/
theorem all_listed {listed : Array Bool} (hb : backB ops = true) (hs : listed.size = ops.size) (hr : Region.ready md ops listed = []) : ∀ (k i : Nat), i < k → i < ops.size → listed.getD i true = true
  | 0, _, h, _ => by omega
  | k + 1, i, hk, hi => by
    cases hl : listed.getD i true with
    | true => rfl
    | false =>
      have hm : i ∈ Region.ready md ops listed := by
        refine mem_ready.2 ⟨hl, ops[i], Array.getElem?_eq_getElem hi, fun e he _ => ?_⟩
        have hlt := backB_spec hb (Array.getElem?_eq_getElem hi) e he
        have h1 := all_listed hb hs hr k e.on (by omega) (by omega)
        rw [Array.getD_eq_getD_getElem?, Array.getElem?_eq_getElem (by omega)] at h1 ⊢
        exact h1
      rw [hr] at hm
      cases hm

theorem dep {i : Nat} {listed : Array Bool} {o : Oper} (hi : i ∈ Region.ready md ops listed) (ho : ops[i]? = some o) (e : Edge) (he : e ∈ o.after) (hb : Region.binds md e = true) : listed.getD e.on false = true := by
  obtain ⟨_, o', ho', hall⟩ := mem_ready.1 hi
  rw [ho] at ho'
  cases ho'
  exact hall e he hb

/-- One operation that is carried out, what follows behind a variable. -/
theorem wpOpIn_want {i : Nat} {o : Oper} {a : Act} {w : World} {I : Act → World → Prop} (ho : ops[i]? = some o) (hw : Region.wanted o (yielded ops a.tmps) = true)
    (h : ∀ K : Act → World → Prop, (∀ a w, I a w → K a w) → o.wpIn F n P a w K Q) : wpOpIn F n P ops Q i I a w := by
  unfold wpOpIn
  simp only [ho, hw, if_true]
  exact h I (fun _ _ h => h)

/-- An append that is known to go through. -/
theorem wpOpIn_append {i : Nat} {o : Oper} {a : Act} {w w' : World} {v u v' : Value} {I : Act → World → Prop} (ho : ops[i]? = some o) (hg : Region.wanted o (yielded ops a.tmps) = true) (s x : Operand) (t : TypeId)
    (hop : o.op = Op.call { callee := Callee.builtin Builtin.append, args := #[s, x], argTypes := #[t, t] }) (hs : a.eval s = v) (hx : a.eval x = u) (hrun : (Builtin.append_ #[t, t] o.type #[v, u]).run P w = .ok v' w')
    (h : I (a.put o.dst v') w') : wpOpIn F n P ops Q i I a w := by
  unfold wpOpIn
  simp only [ho, hg, if_true]
  unfold Oper.wpIn
  refine ⟨?_, ?_⟩
  · simp [Oper.about, hop, resolve, Target.leads, Sem.run_pure]
  · rw [Oper.semAt_plain F _ _ (by rw [hop]; intro c hc'; cases hc')]
    simp [execOp, hop, resolve, invoke, builtin, hs, hx, hrun, Result.andThen, Oper.uponIn]
    exact h

end Go.Proofs.Ytpajcalfjfkogaa.Pl

namespace Go.Proofs.Ytpajcalfjfkogaa.Pl

structure Pl6 where
  at_ : Nat
  dep : Nat
  head : Nat
  parts : Nat

/-- Of so many terms, one behind the other. -/
def visL (vs : Nat → List Pl6 × Nat × Nat) : Nat → Nat → List Pl6 × Nat × Nat
  | 0, a => ([], a, 0)
  | k + 1, a => if (vs a).2.2 = 0 then ((vs a).1 ++ (visL vs k (vs a).2.1).1, (visL vs k (vs a).2.1).2) else ((vs a).1, 0, (vs a).2.2)
/-- Of the term at a place, that is no deeper than d below. -/
def visP (s : List UInt8) : Nat → Nat → List Pl6 × Nat × Nat
  | 0, _ => ([], 0, 60)
  | d + 1, a =>
    if (headP (s.drop a)).2.2 = 0 then
      (⟨a, 16 - d, a + (headP (s.drop a)).1, (headP (s.drop a)).2.1⟩ :: (visL (visP s d) (headP (s.drop a)).2.1 (a + (headP (s.drop a)).1)).1, (visL (visP s d) (headP (s.drop a)).2.1 (a + (headP (s.drop a)).1)).2)
    else ([], 0, (headP (s.drop a)).2.2)

/-- Where the places end, and what is wrong, is what reading tells. -/
theorem vis_read (s : List UInt8) : ∀ (d a : Nat), (visP s d a).2 = if (readP d (s.drop a)).2 = 0 then (a + (readP d (s.drop a)).1, 0) else (0, (readP d (s.drop a)).2) := by
  intro d
  induction d with
  | zero => intro a; simp [visP, readP]
  | succ d ih =>
    have loop : ∀ (k a : Nat), (visL (visP s d) k a).2 = if (loopP (readP d) k (s.drop a)).2 = 0 then (a + (loopP (readP d) k (s.drop a)).1, 0) else (0, (loopP (readP d) k (s.drop a)).2) := by
      intro k
      induction k with
      | zero => intro a; simp [visL, loopP]
      | succ k ihk =>
        intro a
        have h := ih a
        by_cases h0 : (readP d (s.drop a)).2 = 0
        · rw [if_pos h0] at h
          have h1 : (visP s d a).2.2 = 0 := by rw [h]
          have h2 : (visP s d a).2.1 = a + (readP d (s.drop a)).1 := by rw [h]
          rw [visL, if_pos h1, loopP, if_pos h0]
          simp only
          rw [ihk, h2, ← List.drop_drop]
          by_cases h3 : (loopP (readP d) k ((s.drop a).drop (readP d (s.drop a)).1)).2 = 0
          · rw [if_pos h3, if_pos h3]; simp [Nat.add_assoc]
          · rw [if_neg h3, if_neg h3]; exact (if_neg h3).symm
        · rw [if_neg h0] at h
          have h1 : (visP s d a).2.2 ≠ 0 := by rw [h]; exact h0
          rw [visL, if_neg h1, loopP, if_neg h0]
          simp only
          rw [if_neg h0, h]
    intro a
    by_cases h0 : (headP (s.drop a)).2.2 = 0
    · rw [visP, if_pos h0, readP, if_pos h0]
      simp only
      rw [loop, ← List.drop_drop]
      by_cases h3 : (loopP (readP d) (headP (s.drop a)).2.1 ((s.drop a).drop (headP (s.drop a)).1)).2 = 0
      · rw [if_pos h3, if_pos h3]; simp [Nat.add_assoc]
      · rw [if_neg h3, if_neg h3]; exact (if_neg h3).symm
    · rw [visP, if_neg h0, readP, if_neg h0]
      simp [h0]

theorem head_le {s : List UInt8} (h : (headP s).2.2 = 0) : (headP s).1 ≤ s.length := (head_front (s := s) (n := (headP s).1) (p := (headP s).2.1) (by rw [← h])).1
theorem head_le32 {s : List UInt8} (h : (headP s).2.2 = 0) : (headP s).2.1 ≤ 32 := by
  obtain ⟨c, hk⟩ := head_kind (head_front (s := s) (n := (headP s).1) (p := (headP s).2.1) (by rw [← h])).2
  cases hk <;> omega
/-- What every place is. -/
def okPl (s : List UInt8) (p : Pl6) : Prop := p.at_ ≤ s.length ∧ p.head ≤ s.length ∧ 1 ≤ p.dep ∧ p.dep ≤ 16 ∧ p.parts ≤ 32
theorem vis_ok (s : List UInt8) : ∀ (d a : Nat), d ≤ 16 → a ≤ s.length → (∀ p ∈ (visP s d a).1, okPl s p) ∧ ((visP s d a).2.2 = 0 → (visP s d a).2.1 ≤ s.length) := by
  intro d
  induction d with
  | zero => intro a _ _; simp [visP]
  | succ d ih =>
    intro a hd ha
    have loop : ∀ (k a : Nat), a ≤ s.length → (∀ p ∈ (visL (visP s d) k a).1, okPl s p) ∧ ((visL (visP s d) k a).2.2 = 0 → (visL (visP s d) k a).2.1 ≤ s.length) := by
      intro k
      induction k with
      | zero => intro a ha; simp [visL, ha]
      | succ k ihk =>
        intro a ha
        obtain ⟨i1, i2⟩ := ih a (by omega) ha
        rw [visL]
        split
        · rename_i h0
          obtain ⟨j1, j2⟩ := ihk (visP s d a).2.1 (i2 h0)
          refine ⟨?_, j2⟩
          intro p hp
          rcases List.mem_append.1 hp with hp | hp
          · exact i1 p hp
          · exact j1 p hp
        · rename_i h0
          exact ⟨i1, fun h => absurd h h0⟩
    rw [visP]
    split
    · rename_i h0
      have h1 := head_le h0
      have h2 := head_le32 h0
      rw [List.length_drop] at h1
      obtain ⟨j1, j2⟩ := loop (headP (s.drop a)).2.1 (a + (headP (s.drop a)).1) (by omega)
      refine ⟨?_, j2⟩
      intro p hp
      rcases List.mem_cons.1 hp with rfl | hp
      · exact ⟨ha, by show a + _ ≤ _; omega, by show 1 ≤ 16 - d; omega, by show 16 - d ≤ 16; omega, h2⟩
      · exact j1 p hp
    · rename_i h0
      exact ⟨by simp, fun h => absurd h h0⟩

/-- The last place's head is where all ends. -/
theorem vis_last (s : List UInt8) : ∀ (d a : Nat), (visP s d a).2.2 = 0 → ∃ q p, (visP s d a).1 = q ++ [p] ∧ p.head = (visP s d a).2.1 := by
  intro d
  induction d with
  | zero => intro a h; simp [visP] at h
  | succ d ih =>
    have loop : ∀ (k a : Nat), (visL (visP s d) (k + 1) a).2.2 = 0 → ∃ q p, (visL (visP s d) (k + 1) a).1 = q ++ [p] ∧ p.head = (visL (visP s d) (k + 1) a).2.1 := by
      intro k
      induction k with
      | zero =>
        intro a h
        rw [visL] at h ⊢
        split at h
        · rename_i h0
          rw [if_pos h0]
          obtain ⟨q, p, e1, e2⟩ := ih a h0
          exact ⟨q, p, by simp [visL, e1], by simp [visL, e2]⟩
        · rename_i h0
          exact absurd h h0
      | succ k ihk =>
        intro a h
        rw [visL] at h ⊢
        split at h
        · rename_i h0
          rw [if_pos h0]
          obtain ⟨q, p, e1, e2⟩ := ihk _ h
          exact ⟨(visP s d a).1 ++ q, p, by simp [e1], e2⟩
        · rename_i h0
          exact absurd h h0
    intro a h
    rw [visP] at h ⊢
    split at h
    · rename_i h0
      rw [if_pos h0]
      cases hk : (headP (s.drop a)).2.1 with
      | zero => exact ⟨[], ⟨a, 16 - d, a + (headP (s.drop a)).1, 0⟩, by simp [visL], by simp [visL]⟩
      | succ k =>
        rw [hk] at h
        obtain ⟨q, p, e1, e2⟩ := loop k _ h
        exact ⟨_ :: q, p, by simp [e1]; rfl, e2⟩
    · rename_i h0
      exact absurd h h0

/- The places of a tree, each with what stands there. -/
mutual
def offT : Nat → Nat → Tm → List (Pl6 × Tm)
  | a, D, .node h l => (⟨a, D, a + h.length, l.length⟩, .node h l) :: offs (a + h.length) (D + 1) l
def offs : Nat → Nat → List Tm → List (Pl6 × Tm)
  | _, _, [] => []
  | a, D, t :: l => offT a D t ++ offs (a + t.enc.length) D l
end
theorem offs_snd : ∀ t : Tm, ∀ a D, (offT a D t).map Prod.snd = t.places := by
  refine Tm.ind ?_
  intro h l ih a D
  have loop : ∀ m : List Tm, (∀ t ∈ m, t ∈ l) → ∀ a D, (offs a D m).map Prod.snd = placess m := by
    intro m
    induction m with
    | nil => intro _ a D; rfl
    | cons t m ihm =>
      intro hm a D
      rw [offs, List.map_append, ih t (hm t (List.mem_cons_self ..)), ihm (fun u hu => hm u (List.mem_cons_of_mem _ hu)), placess]
  rw [offT, List.map_cons, loop l (fun _ h => h), Tm.places]
/-- What reading a tree's bytes goes over. -/
theorem vis_tree (s : List UInt8) : ∀ t : Tm, t.good → ∀ d, t.deep ≤ d → d ≤ 16 → ∀ a rest, s.drop a = t.enc ++ rest → visP s d a = ((offT a (17 - d) t).map Prod.fst, a + t.enc.length, 0) := by
  refine Tm.ind ?_
  intro h l ih hg d hd hd16 a rest e
  simp only [Tm.good] at hg
  simp only [Tm.deep] at hd
  obtain ⟨d, rfl⟩ : ∃ k, d = k + 1 := ⟨d - 1, by omega⟩
  have loop : ∀ m : List Tm, (∀ t ∈ m, t ∈ l) → ∀ a rest, s.drop a = encs m ++ rest → visL (visP s d) m.length a = ((offs a (17 - d) m).map Prod.fst, a + (encs m).length, 0) := by
    intro m
    induction m with
    | nil => intro _ a rest _; simp [visL, offs, encs]
    | cons t m ihm =>
      intro hm a rest e
      have ht := hm t (List.mem_cons_self ..)
      rw [encs, List.append_assoc] at e
      have h1 := ih t ht (goods_mem hg.2 t ht) d (by have := deeps_mem ht; omega) (by omega) a _ e
      have e2 : s.drop (a + t.enc.length) = encs m ++ rest := by rw [← List.drop_drop, e, List.drop_left]
      have h2 := ihm (fun u hu => hm u (List.mem_cons_of_mem _ hu)) _ _ e2
      rw [List.length_cons, visL, h1, if_pos rfl]
      simp only
      rw [h2, offs, encs, List.map_append]
      simp [Nat.add_assoc]
  rw [Tm.enc_node, List.append_assoc] at e
  have e1 := hg.1 (encs l ++ rest)
  have e2 : s.drop (a + h.length) = encs l ++ rest := by rw [← List.drop_drop, e, List.drop_left]
  rw [visP, e, e1, if_pos rfl]
  simp only
  rw [loop l (fun _ h => h) _ _ e2, offT, Tm.enc_node]
  have hD : 17 - (d + 1) = 16 - d := by omega
  have hD2 : 17 - (d + 1) + 1 = 17 - d := by omega
  rw [hD2, hD, List.map_cons]
  simp [Nat.add_assoc]
/-- What stands at a place. -/
theorem offs_at (s : List UInt8) : ∀ t : Tm, ∀ a D rest, s.drop a = t.enc ++ rest → ∀ x ∈ offT a D t, ∃ r, s.drop x.1.at_ = x.2.enc ++ r := by
  refine Tm.ind ?_
  intro h l ih a D rest e
  have loop : ∀ m : List Tm, (∀ t ∈ m, t ∈ l) → ∀ a D rest, s.drop a = encs m ++ rest → ∀ x ∈ offs a D m, ∃ r, s.drop x.1.at_ = x.2.enc ++ r := by
    intro m
    induction m with
    | nil => intro _ a D rest _ x hx; simp [offs] at hx
    | cons t m ihm =>
      intro hm a D rest e x hx
      rw [encs, List.append_assoc] at e
      rw [offs] at hx
      rcases List.mem_append.1 hx with hx | hx
      · exact ih t (hm t (List.mem_cons_self ..)) a D _ e x hx
      · exact ihm (fun u hu => hm u (List.mem_cons_of_mem _ hu)) (a + t.enc.length) D rest (by rw [← List.drop_drop, e, List.drop_left]) x hx
  intro x hx
  rw [offT] at hx
  rcases List.mem_cons.1 hx with rfl | hx
  · exact ⟨rest, e⟩
  · rw [Tm.enc_node, List.append_assoc] at e
    exact loop l (fun _ h => h) _ _ rest (by rw [← List.drop_drop, e, List.drop_left]) x hx
theorem offs_dep : ∀ t : Tm, ∀ a D, ∀ x ∈ offT a D t, D ≤ x.1.dep := by
  refine Tm.ind ?_
  intro h l ih a D
  have loop : ∀ m : List Tm, (∀ t ∈ m, t ∈ l) → ∀ a D, ∀ x ∈ offs a D m, D ≤ x.1.dep := by
    intro m
    induction m with
    | nil => intro _ a D x hx; simp [offs] at hx
    | cons t m ihm =>
      intro hm a D x hx
      rw [offs] at hx
      rcases List.mem_append.1 hx with hx | hx
      · exact ih t (hm t (List.mem_cons_self ..)) a D x hx
      · exact ihm (fun u hu => hm u (List.mem_cons_of_mem _ hu)) _ D x hx
  intro x hx
  rw [offT] at hx
  rcases List.mem_cons.1 hx with rfl | hx
  · exact Nat.le_refl _
  · have := loop l (fun _ h => h) _ _ x hx; omega
/-- The parts are what stands one deeper. -/
theorem offs_parts (h : List UInt8) (l : List Tm) (a D : Nat) : ((offT a D (.node h l)).filter fun x => x.1.dep == D + 1).map Prod.snd = l := by
  have loop : ∀ m : List Tm, ∀ a, ((offs a (D + 1) m).filter fun x => x.1.dep == D + 1).map Prod.snd = m := by
    intro m
    induction m with
    | nil => intro a; rfl
    | cons t m ihm =>
      intro a
      obtain ⟨h', l'⟩ := t
      rw [offs, List.filter_append, List.map_append, ihm]
      rw [offT, List.filter_cons, if_pos (by simp)]
      have hz : (offs (a + h'.length) (D + 1 + 1) l').filter (fun x => x.1.dep == D + 1) = [] := by
        rw [List.filter_eq_nil_iff]
        intro x hx
        have h1 : D + 1 + 1 ≤ x.1.dep := by
          have h2 := offs_dep (.node h' l') a (D + 1) x (by rw [offT]; exact List.mem_cons_of_mem _ hx)
          have : ∀ m : List Tm, ∀ a E, ∀ x ∈ offs a E m, E ≤ x.1.dep := by
            intro m
            induction m with
            | nil => intro a E x hx; simp [offs] at hx
            | cons t m ihm =>
              intro a E x hx
              rw [offs] at hx
              rcases List.mem_append.1 hx with hx | hx
              · exact offs_dep t a E x hx
              · exact ihm _ E x hx
          exact this l' _ _ x hx
        simp <;> omega
      rw [hz]; simp
  rw [offT, List.filter_cons, if_neg (by simp), loop]
end Go.Proofs.Ytpajcalfjfkogaa.Pl

namespace Go.Proofs.Ytpajcalfjfkogaa.Pl
open Go.RowKit

/-- What is thrown. -/
abbrev boom (e : Nat) : Ending := .panicked [{ v := .iface 27 (.int .i64 e), recovered := false }]

theorem need_ok (w : World) : Calls Try.prog 124 #[.int .i64 0] w fun x w' => x = .returned (.tuple #[]) ∧ w' = w := by
  go_enter Try.func124, Try.ntmps124
  go_wp2
  go_end0
  exact ⟨rfl, rfl⟩
theorem need_bad (e : Nat) (he : e ≠ 0) (w : World) : Calls Try.prog 124 #[.int .i64 e] w fun x w' => x = boom e ∧ w' = w := by
  have hz : ((e : Int) != 0) = true := by rw [bne_iff_ne]; omega
  go_enter Try.func124, Try.ntmps124
  go_wp2
  exact ⟨rfl, rfl, rfl⟩

/-- A text's size, or what is wrong. -/
def Size6 (r : Nat × Nat) (w : World) (x : Ending) (w' : World) : Prop := (if r.2 = 0 then x = .returned (.int .i64 r.1) else x = boom r.2) ∧ Below w.heap.size w w'
theorem Size6.ok {k : Nat} {w w' : World} (h : Below w.heap.size w w') : Size6 (k, 0) w (.returned (.int .i64 k)) w' := ⟨by rw [if_pos rfl], h⟩
theorem Size6.bad {k f : Nat} {w w' : World} (hf : f ≠ 0) (h : Below w.heap.size w w') : Size6 (k, f) w (boom f) w' := ⟨by rw [if_neg hf], h⟩

set_option maxHeartbeats 1000000 in
set_option maxRecDepth 100000 in
theorem textsize_any (s : ByteArray) (hs : s.size ≤ 281474976710656) (w : World) :
    Calls Try.prog 117 #[.string s] w (Size6 ((rdt (bl s) 1024).2.1, (rdt (bl s) 1024).2.2) w) := by
  have hT := fun V => readtext_any s 1024 V hs (by decide) (by decide)
  obtain ⟨r, hr⟩ : ∃ r, r = rdt (bl s) 1024 := ⟨_, rfl⟩
  have hbl : s.data.toList = bl s := rfl
  rw [hbl, ← hr] at hT
  rw [← hr]
  obtain ⟨t, k, f⟩ := r
  clear hr hs hbl
  have HT := Lib.hid hT
  clear hT
  by_cases hf : f = 0
  · subst hf
    go_enter Try.func117, Try.ntmps117
    go_wp2_with (first | (go_at_call 86; refine (HT.out _).mono ?_; rintro e w1 ⟨rfl, b1⟩) | (go_at_call 124; refine (need_ok _).mono ?_; rintro e w2 ⟨rfl, rfl⟩))
    go_ret
    exact Size6.ok b1
  · have HF := Lib.hid hf
    go_enter Try.func117, Try.ntmps117
    go_wp2_with (first | (go_at_call 86; refine (HT.out _).mono ?_; rintro e w1 ⟨rfl, b1⟩) | (go_at_call 124; refine (need_bad f HF.out _).mono ?_; rintro e w2 ⟨rfl, rfl⟩))
    exact ⟨by first | rfl | trivial, Size6.bad HF.out b1⟩

/-- A row's parts and its head's length, or what is wrong. -/
def Size62 (r : Nat × Nat × Nat) (w : World) (x : Ending) (w' : World) : Prop := (if r.2.2 = 0 then x = .returned (.tuple #[.int .i64 r.1, .int .i64 r.2.1]) else x = boom r.2.2) ∧ Below w.heap.size w w'
theorem Size62.ok {v k : Nat} {w w' : World} (h : Below w.heap.size w w') : Size62 (v, k, 0) w (.returned (.tuple #[.int .i64 v, .int .i64 k])) w' := ⟨by rw [if_pos rfl], h⟩
theorem Size62.bad {v k f : Nat} {w w' : World} (hf : f ≠ 0) (h : Below w.heap.size w w') : Size62 (v, k, f) w (boom f) w' := ⟨by rw [if_neg hf], h⟩
def rowP6 (s : List UInt8) : Nat × Nat × Nat := if (rdn s).2.2 = 0 ∧ 32 < (rdn s).1 then (0, 0, 5) else rdn s

set_option maxHeartbeats 1000000 in
set_option maxRecDepth 100000 in
theorem rowhead_any (s : ByteArray) (hs : s.size ≤ 281474976710656) (w : World) :
    Calls Try.prog 119 #[.string s] w (Size62 (rowP6 (bl s)) w) := by
  have hT := fun V => readnum_any s (by omega) V
  obtain ⟨r, hr⟩ : ∃ r, r = rdn (bl s) := ⟨_, rfl⟩
  have hbl : s.data.toList = bl s := rfl
  rw [hbl, ← hr] at hT
  obtain ⟨z, hz⟩ : ∃ z, z = rowP6 (bl s) := ⟨_, rfl⟩
  rw [← hz]
  unfold rowP6 at hz
  rw [← hr] at hz
  obtain ⟨v, k, f⟩ := r
  have HZ := Lib.hid hz
  clear hr hs hbl hz
  have HT := Lib.hid hT
  clear hT
  by_cases hf : f = 0
  · subst hf
    by_cases hv : 32 < v
    · have q1 : (32 : Int) < (v : Int) := by omega
      have HV := Lib.hid hv
      clear hv
      go_enter Try.func119, Try.ntmps119
      go_wp2_with (first | (go_at_call 103; refine (HT.out _).mono ?_; rintro e w1 ⟨rfl, rfl⟩) | (go_at_call 124; refine (need_ok _).mono ?_; rintro e w2 ⟨rfl, rfl⟩))
      have hz := HZ.out
      rw [if_pos (by first | exact ⟨rfl, HV.out⟩ | exact ⟨trivial, HV.out⟩)] at hz
      exact ⟨rfl, hz ▸ Size62.bad (f := 5) (by decide) (Below.refl _ _)⟩
    · have q1 : ¬ (32 : Int) < (v : Int) := by omega
      have q2 : (v : Int) ≤ 32 := by omega
      have HV := Lib.hid hv
      clear hv
      go_enter Try.func119, Try.ntmps119
      go_wp2_with (first | (go_at_call 103; refine (HT.out _).mono ?_; rintro e w1 ⟨rfl, rfl⟩) | (go_at_call 124; refine (need_ok _).mono ?_; rintro e w2 ⟨rfl, rfl⟩))
      go_ret2
      have hz := HZ.out
      rw [if_neg (by rintro ⟨_, h⟩; exact HV.out h)] at hz
      exact hz ▸ Size62.ok (Below.refl _ _)
  · have HF := Lib.hid hf
    go_enter Try.func119, Try.ntmps119
    go_wp2_with (first | (go_at_call 103; refine (HT.out _).mono ?_; rintro e w1 ⟨rfl, rfl⟩) | (go_at_call 124; refine (need_bad f HF.out _).mono ?_; rintro e w2 ⟨rfl, rfl⟩))
    have hz := HZ.out
    rw [if_neg (by rintro ⟨h, _⟩; exact HF.out h)] at hz
    exact ⟨rfl, hz ▸ Size62.bad HF.out (Below.refl _ _)⟩
end Go.Proofs.Ytpajcalfjfkogaa.Pl

namespace Go.Proofs.Ytpajcalfjfkogaa.Pl
open Go.RowKit

theorem bl_at (s : ByteArray) (p : Nat) (h : p < s.size) : (bl s).getD p 0 = s[p]'h := by
  unfold bl
  rw [List.getD_eq_getElem?_getD, List.getElem?_eq_getElem (by rw [Array.length_toList]; exact h)]
  simp
  rfl

set_option maxHeartbeats 4000000 in
set_option maxRecDepth 100000 in
theorem isname_any (s : ByteArray) (hs : s.size ≤ 281474976710656) (w : World) :
    Calls Try.prog 34 #[.string s] w fun e w' => e = .returned (.bool (nameOK (bl s))) ∧ Below w.heap.size w w' := by
  obtain ⟨z, hz⟩ : ∃ z, z = nameOK (bl s) := ⟨_, rfl⟩
  rw [← hz]
  by_cases h0 : s.size = 0
  · have HZ : Hid (z = false) := Lib.hid (by rw [hz, bl_nil h0]; rfl)
    obtain rfl : s = ⟨#[]⟩ := bl_inj (bl_nil h0)
    clear hz h0 hs
    go_enter Try.func34, Try.ntmps34
    go_wp2_with fail
    go_loopw [] (fun wr => Hid (wr.heap[w.heap.size]? = some (.stringIter ⟨#[]⟩ 0)) ∧ Hid (Below w.heap.size w wr)) (fun _ => 0)
    case atStart => exact ⟨Lib.hid (World.iter_heap w _ 0), Lib.hid ((Below.refl _ w).alloc (Nat.le_refl _) _)⟩
    case round =>
      obtain ⟨hit, hbw⟩ := hrel
      have hnx : ∀ ty, (Instr.next (.pointer (some ⟨w.heap.size, 0, none⟩)) true ty).run Try.prog wr = _ := fun ty => Lib.run_next_end_at wr w.heap.size ⟨#[]⟩ 0 ty hit.out (by decide)
      go_wp2_with fail
      go_ret
      exact ⟨ret6_bool HZ.out.symm, hbw.out⟩
  · have hne : s ≠ ⟨#[]⟩ := fun e => h0 (by rw [e]; rfl)
    obtain ⟨g1, g2⟩ := str6_ne hne
    have g3 : s.toList.isEmpty = false := by
      rw [Lib.toList_data, List.isEmpty_eq_false_iff]
      intro e
      exact h0 (by rw [size_bl]; unfold bl; rw [e]; rfl)
    have HB : Hid (∀ k, k < s.size → nameB ((bl s).getD k 0) = false → z = false) := Lib.hid (fun k hk hb => by
      rw [hz]
      cases e : nameOK (bl s) with
      | false => rfl
      | true => rw [((nameOK_iff _).1 e).2 k (by rw [bl_length]; exact hk)] at hb; exact absurd hb (by decide))
    have HE : Hid ((∀ j, j < s.size → nameB ((bl s).getD j 0) = true) → z = true) := Lib.hid (fun h => by
      rw [hz, nameOK_iff]
      refine ⟨fun e => h0 (by rw [size_bl, e]; rfl), fun j hj => h j (by rw [bl_length] at hj; exact hj)⟩)
    clear hz h0 hne
    go_enter Try.func34, Try.ntmps34
    go_wp2_with fail
    go_loopw [] (fun wr => ∃ pos : Nat, Hid (pos ≤ s.size) ∧ Hid (wr.heap[w.heap.size]? = some (.stringIter s pos)) ∧ Hid (∀ j, j < pos → nameB ((bl s).getD j 0) = true) ∧ Hid (Below w.heap.size w wr)) (fun wr => s.size - wr.iterPos w.heap.size)
    case atStart => exact ⟨0, Lib.hid (Nat.zero_le _), Lib.hid (World.iter_heap w s 0), Lib.hid (fun j hj => absurd hj (Nat.not_lt_zero j)), Lib.hid ((Below.refl _ w).alloc (Nat.le_refl _) _)⟩
    case round =>
      obtain ⟨pos, hps, hit, hch, hbw⟩ := hrel
      by_cases hp : pos < s.size
      · have hd : Hid (1 ≤ (Utf8.decode s pos).2 ∧ ((nameB ((bl s).getD pos 0) = true ∧ (Utf8.decode s pos).1 = ((bl s).getD pos 0).toNat ∧ (Utf8.decode s pos).2 = 1) ∨ (nameB ((bl s).getD pos 0) = false ∧ ((Utf8.decode s pos).1 = ((bl s).getD pos 0).toNat ∨ 128 ≤ (Utf8.decode s pos).1)))) := Lib.hid (by
          rw [bl_at s pos hp]
          by_cases ha : (s[pos]'hp).toNat < 128
          · rw [decode_ascii s pos hp ha]
            cases hnb : nameB (s[pos]'hp) with
            | true => exact ⟨Nat.le_refl _, .inl ⟨rfl, rfl, rfl⟩⟩
            | false => exact ⟨Nat.le_refl _, .inr ⟨rfl, .inl rfl⟩⟩
          · have hh := decode_high s pos hp (by omega)
            refine ⟨hh.2, .inr ⟨?_, .inr hh.1⟩⟩
            unfold nameB
            exact decide_eq_false (by omega))
        have hwd : Hid (1 ≤ (Utf8.decode s pos).2) := Lib.hid hd.out.1
        have hit2 := Lib.hid (Lib.iterAt_heap wr w.heap.size s pos (pos + (Utf8.decode s pos).2) hit.out)
        have hb2 := Lib.hid (Lib.below_iterAt hbw.out (k := w.heap.size) (Nat.le_refl _) s (pos + (Utf8.decode s pos).2))
        have hnx : ∀ ty, (Instr.next (.pointer (some ⟨w.heap.size, 0, none⟩)) true ty).run Try.prog wr = _ := fun ty => Lib.run_next_any_at wr w.heap.size s pos ty hit.out hp
        generalize wr.iterAt w.heap.size s (pos + (Utf8.decode s pos).2) = W1 at *
        obtain ⟨c, ec⟩ : ∃ c : UInt8, c = (bl s).getD pos 0 := ⟨_, rfl⟩
        have HBK : Hid (nameB c = false → z = false) := Lib.hid (by rw [ec]; exact HB.out pos hp)
        obtain ⟨n, hn⟩ : ∃ n, n = (Utf8.decode s pos).1 := ⟨_, rfl⟩
        obtain ⟨dw, hdw⟩ : ∃ dw, dw = (Utf8.decode s pos).2 := ⟨_, rfl⟩
        have hd' := hd.out
        rw [← hn, ← hdw, ← ec] at hd'
        have HNX : Hid (((97 ≤ n ∧ n ≤ 122) ∨ (48 ≤ n ∧ n ≤ 57) ∨ n = 47 ∨ n = 46 ∨ n = 45) → pos + dw ≤ s.size ∧ ∀ j, j < pos + dw → nameB ((bl s).getD j 0) = true) := Lib.hid (fun h => by
          rcases hd'.2 with ⟨h1, h2, h3⟩ | ⟨h1, h2 | h2⟩
          · refine ⟨by omega, fun j hj => ?_⟩
            by_cases e : j = pos
            · rw [e, ← ec]; exact h1
            · exact hch.out j (by omega)
          · exfalso
            unfold nameB at h1
            rw [← h2] at h1
            exact absurd h (of_decide_eq_false h1)
          · omega)
        have HW : Hid (¬ ((97 ≤ n ∧ n ≤ 122) ∨ (48 ≤ n ∧ n ≤ 57) ∨ n = 47 ∨ n = 46 ∨ n = 45) → z = false) := Lib.hid (fun h => by
          rcases hd'.2 with ⟨h1, h2, h3⟩ | ⟨h1, _⟩
          · exfalso
            unfold nameB at h1
            rw [← h2] at h1
            exact h (of_decide_eq_true h1)
          · exact HBK.out h1)
        rw [← hn] at hnx
        rw [← hdw] at hit2 hwd
        clear ec hn hdw hd hd' HBK
        have hcs : n < 45 ∨ n = 45 ∨ n = 46 ∨ n = 47 ∨ (48 ≤ n ∧ n ≤ 57) ∨ (57 < n ∧ n < 97) ∨ (97 ≤ n ∧ n ≤ 122) ∨ 122 < n := by omega
        have ef : ∀ m : Nat, n ≠ m → ((n : Int) == (m : Int)) = false := fun m h => by rw [beq_eq_false_iff_ne]; omega
        rcases hcs with h | h | h | h | ⟨h, h'⟩ | ⟨h, h'⟩ | ⟨h, h'⟩ | h
        · have HX := Lib.hid (HW.out (by omega))
          have q1 : ((n : Int) == 47) = false := ef 47 (by omega)
          have q2 : ((n : Int) == 46) = false := ef 46 (by omega)
          have q3 : ((n : Int) == 45) = false := ef 45 (by omega)
          clear ef
          go_wp2_with fail
          go_ret
          exact ⟨ret6_bool HX.out.symm, hb2.out⟩
        · subst h
          have HP := Lib.hid (HNX.out (by omega)).1
          have HX := Lib.hid (HNX.out (by omega)).2
          clear ef
          go_wp2_with fail
          go_roundw
          case rel => exact ⟨_, HP, hit2, HX, hb2⟩
          case measure => simp only [World.iterPos, hit2.out, hit.out]; have := hwd.out; omega
        · subst h
          have HP := Lib.hid (HNX.out (by omega)).1
          have HX := Lib.hid (HNX.out (by omega)).2
          clear ef
          go_wp2_with fail
          go_roundw
          case rel => exact ⟨_, HP, hit2, HX, hb2⟩
          case measure => simp only [World.iterPos, hit2.out, hit.out]; have := hwd.out; omega
        · subst h
          have HP := Lib.hid (HNX.out (by omega)).1
          have HX := Lib.hid (HNX.out (by omega)).2
          clear ef
          go_wp2_with fail
          go_roundw
          case rel => exact ⟨_, HP, hit2, HX, hb2⟩
          case measure => simp only [World.iterPos, hit2.out, hit.out]; have := hwd.out; omega
        · have HP := Lib.hid (HNX.out (by omega)).1
          have HX := Lib.hid (HNX.out (by omega)).2
          clear ef
          go_wp2_with fail
          go_roundw
          case rel => exact ⟨_, HP, hit2, HX, hb2⟩
          case measure => simp only [World.iterPos, hit2.out, hit.out]; have := hwd.out; omega
        · have HX := Lib.hid (HW.out (by omega))
          have q1 : ((n : Int) == 47) = false := ef 47 (by omega)
          have q2 : ((n : Int) == 46) = false := ef 46 (by omega)
          have q3 : ((n : Int) == 45) = false := ef 45 (by omega)
          have q4 : decide ((n : Int) ≤ 57) = false := decide_eq_false (by omega)
          clear ef
          go_wp2_with fail
          go_ret
          exact ⟨ret6_bool HX.out.symm, hb2.out⟩
        · have HP := Lib.hid (HNX.out (by omega)).1
          have HX := Lib.hid (HNX.out (by omega)).2
          clear ef
          go_wp2_with fail
          go_roundw
          case rel => exact ⟨_, HP, hit2, HX, hb2⟩
          case measure => simp only [World.iterPos, hit2.out, hit.out]; have := hwd.out; omega
        · have HX := Lib.hid (HW.out (by omega))
          have q1 : ((n : Int) == 47) = false := ef 47 (by omega)
          have q2 : ((n : Int) == 46) = false := ef 46 (by omega)
          have q3 : ((n : Int) == 45) = false := ef 45 (by omega)
          have q4 : decide ((n : Int) ≤ 57) = false := decide_eq_false (by omega)
          have q5 : decide ((n : Int) ≤ 122) = false := decide_eq_false (by omega)
          clear ef
          go_wp2_with fail
          go_ret
          exact ⟨ret6_bool HX.out.symm, hb2.out⟩
      · have hnx : ∀ ty, (Instr.next (.pointer (some ⟨w.heap.size, 0, none⟩)) true ty).run Try.prog wr = _ := fun ty => Lib.run_next_end_at wr w.heap.size s pos ty hit.out hp
        have HQ := Lib.hid (HE.out (fun j hj => hch.out j (by omega)))
        clear hp
        go_wp2_with fail
        go_ret
        exact ⟨ret6_bool HQ.out.symm, hbw.out⟩
end Go.Proofs.Ytpajcalfjfkogaa.Pl

namespace Go.Proofs.Ytpajcalfjfkogaa.Pl
open Go.RowKit

theorem row1 (w : World) (a : ByteArray) : TxtRow (w.alloc (.cells #[.string a] 9)) (some ⟨w.heap.size, 0, none⟩) [a] :=
  .inr ⟨w.heap.size, 0, rfl, by simp, fun j hj => by
    obtain rfl : j = 0 := by simp at hj; omega
    simp⟩
theorem row2 (w : World) (a b : ByteArray) : TxtRow (w.alloc (.cells #[.string a, .string b] 9)) (some ⟨w.heap.size, 0, none⟩) [a, b] :=
  .inr ⟨w.heap.size, 0, rfl, by simp, fun j hj => by
    match j, hj with
    | 0, _ => simp
    | 1, _ => simp⟩
theorem row3 (w : World) (a b c : ByteArray) : TxtRow (w.alloc (.cells #[.string a, .string b, .string c] 9)) (some ⟨w.heap.size, 0, none⟩) [a, b, c] :=
  .inr ⟨w.heap.size, 0, rfl, by simp, fun j hj => by
    match j, hj with
    | 0, _ => simp
    | 1, _ => simp
    | 2, _ => simp⟩

set_option maxRecDepth 100000 in
theorem rhash_any (a : ByteArray) (ha : a.size ≤ 100000) (w : World) :
    Calls Try.prog 47 #[.string a] w fun e w' => e = .returned (st2 (madeP [104] [bl a])) ∧ Below w.heap.size w w' := by
  have HM := Lib.hid (made_any ⟨#[104]⟩ [a] (some ⟨w.heap.size, 0, none⟩) 1 (by decide) (by simp) (fun x hx => by simp at hx; rw [hx]; exact ha) _ (row1 w a))
  have B0 := Lib.hid ((Below.refl w.heap.size w).alloc (Nat.le_refl _) (.cells #[.string a] 9))
  clear ha
  go_enter Try.func47, Try.ntmps47
  go_wp2_with fail
  refine HM.out.mono ?_; rintro e w1 ⟨rfl, b1⟩
  have B1 := Lib.hid (below_step B0.out b1)
  clear b1
  unfold st2
  go_wp2_with fail
  go_ret2
  exact ⟨rfl, B1.out⟩
set_option maxRecDepth 100000 in
theorem rmac_any (a b : ByteArray) (ha : a.size ≤ 100000) (hb : b.size ≤ 100000) (w : World) :
    Calls Try.prog 48 #[.string a, .string b] w fun e w' => e = .returned (st2 (madeP [109] [bl a, bl b])) ∧ Below w.heap.size w w' := by
  have HM := Lib.hid (made_any ⟨#[109]⟩ [a, b] (some ⟨w.heap.size, 0, none⟩) 2 (by decide) (by simp) (fun x hx => by simp at hx; rcases hx with rfl | rfl <;> assumption) _ (row2 w a b))
  have B0 := Lib.hid ((Below.refl w.heap.size w).alloc (Nat.le_refl _) (.cells #[.string a, .string b] 9))
  clear ha hb
  go_enter Try.func48, Try.ntmps48
  go_wp2_with fail
  refine HM.out.mono ?_; rintro e w1 ⟨rfl, b1⟩
  have B1 := Lib.hid (below_step B0.out b1)
  clear b1
  unfold st2
  go_wp2_with fail
  go_ret2
  exact ⟨rfl, B1.out⟩
set_option maxRecDepth 100000 in
theorem rseal6_any (a b c : ByteArray) (ha : a.size ≤ 100000) (hb : b.size ≤ 100000) (hc : c.size ≤ 100000) (w : World) :
    Calls Try.prog 49 #[.string a, .string b, .string c] w fun e w' => e = .returned (st2 (madeP [115] [bl a, bl b, bl c])) ∧ Below w.heap.size w w' := by
  have HM := Lib.hid (made_any ⟨#[115]⟩ [a, b, c] (some ⟨w.heap.size, 0, none⟩) 3 (by decide) (by simp) (fun x hx => by simp at hx; rcases hx with rfl | rfl | rfl <;> assumption) _ (row3 w a b c))
  have B0 := Lib.hid ((Below.refl w.heap.size w).alloc (Nat.le_refl _) (.cells #[.string a, .string b, .string c] 9))
  clear ha hb hc
  go_enter Try.func49, Try.ntmps49
  go_wp2_with fail
  refine HM.out.mono ?_; rintro e w1 ⟨rfl, b1⟩
  have B1 := Lib.hid (below_step B0.out b1)
  clear b1
  unfold st2
  go_wp2_with fail
  go_ret2
  exact ⟨rfl, B1.out⟩

set_option maxRecDepth 100000 in
theorem rrow6_any (l : List ByteArray) (ao : Option Addr) (cap : Nat) (hl : l.length ≤ 1000) (hx : ∀ x ∈ l, x.size ≤ 100000) (w : World) (hrow : TxtRow w ao l) :
    Calls Try.prog 75 #[.slice ao l.length cap] w fun e w' => e = .returned (st2 (rowP (l.map bl))) ∧ Below w.heap.size w w' := by
  have HN := Lib.hid (fun V => refnum_any l.length (by rw [two64]; omega) V)
  have hs : (⟨(enc l.length).toArray⟩ : ByteArray).size ≤ 9 := by rw [size_lit]; exact (enc_len _).2
  have hcat : (⟨#[114]⟩ : ByteArray).size + (⟨(enc l.length).toArray⟩ : ByteArray).size ≤ 9223372036854775807 := by
    have h3 : (⟨#[114]⟩ : ByteArray).size = 1 := rfl
    omega
  have hf : (⟨#[114]⟩ ++ ⟨(enc l.length).toArray⟩ : ByteArray).size ≤ 100 := by
    rw [ByteArray.size_append]
    have h3 : (⟨#[114]⟩ : ByteArray).size = 1 := rfl
    omega
  have HE : Hid (bl (⟨#[114]⟩ ++ ⟨(enc l.length).toArray⟩ : ByteArray) = 114 :: enc (l.map bl).length) := Lib.hid (by rw [cat_front, bl_mk, List.length_map])
  have HM := Lib.hid (fun V hV => made_any (⟨#[114]⟩ ++ ⟨(enc l.length).toArray⟩) l ao cap hf hl hx V hV)
  rw [HE.out] at HM
  have HROW := Lib.hid hrow
  have hcv : ∀ V : World, (convert 3 66 (.int .i64 ((l.length : Nat) : Int))).run Try.prog V = .ok (.int .u64 ((l.length : Nat) : Int)) V := fun V => by
    have hw : IntKind.u64.wrap ((l.length : Nat) : Int) = ((l.length : Nat) : Int) := IntWalk.u64_in _ (by omega)
    go_simp
  generalize (⟨(enc l.length).toArray⟩ : ByteArray) = t at *
  have HP : Hid (rowP (l.map bl) = madeP (114 :: enc (l.map bl).length) (l.map bl)) := Lib.hid rfl
  obtain ⟨n, hn⟩ : ∃ n, n = l.length := ⟨_, rfl⟩
  rw [← hn] at HN hcv HM ⊢
  clear hs hf hx hrow hn hl
  go_enter Try.func75, Try.ntmps75
  go_wp2_with fail
  refine (HN.out w).mono ?_; rintro e w1 ⟨rfl, b1⟩
  have R1 := Lib.hid (HROW.out.below b1)
  have B1 := Lib.hid b1
  clear b1
  go_wp2_with fail
  refine (HM.out w1 R1.out).mono ?_; rintro e w2 ⟨rfl, b2⟩
  have B2 := Lib.hid (below_step B1.out b2)
  clear b2
  unfold st2
  go_wp2_with fail
  go_ret2
  exact ⟨by rw [HP.out, List.length_map]; rfl, B2.out⟩

end Go.Proofs.Ytpajcalfjfkogaa.Pl

namespace Go.Proofs.Ytpajcalfjfkogaa.Pl
open Go.RowKit

theorem rdt_out (l : List UInt8) (m : Int) : (rdt l m).1.length ≤ l.length := by
  unfold rdt
  by_cases h1 : (rdn l).2.2 ≠ 0
  · rw [if_pos h1]; simp
  · rw [if_neg h1]
    by_cases h2 : max m 0 < ((rdn l).1 : Int)
    · rw [if_pos h2]; simp
    · rw [if_neg h2]
      by_cases h3 : l.length - (rdn l).2.1 < (rdn l).1
      · rw [if_pos h3]; simp
      · rw [if_neg h3]; simp; omega
end Go.Proofs.Ytpajcalfjfkogaa.Pl

namespace Go.Proofs.Ytpajcalfjfkogaa.Pl
open Go.RowKit Go.ChangeShapes Go.WideShapes

theorem cells_string6 : Try.prog.cellsOf 9 = 1 := by kernel_rfl
set_option maxRecDepth 100000 in
theorem open_texts6 {H : Type} {enc : TypeId × Value → H} {w : World} {r : Reach} {b0 base : Nat} {v : Value} {d : DataW H} {ps : List MemPlace}
    (hval : Value.okWide Try.prog w r b0 22 v) (hd : DataW.Trod enc Try.prog w base (fun _ => true) true 22 v d ps) :
    ∃ ao l cap, v = .slice ao (List.length l) cap ∧ TxtRow w ao l ∧ List.length l ≤ cap ∧ List.length l ≤ 9223372036854775807 ∧ (ao = none → cap = 0) := by
  obtain ⟨a, len, cap, rfl⟩ := okWide_slice Try.underlying22 hval
  obtain ⟨fuel, hf⟩ := hd
  rcases open_strings Try.underlying22 Try.underlying9 cells_string6 hf with ⟨hcs, _⟩ | ⟨a', len', cap', ss, hcs, _, hl, hm, hz, _, hcell, hws⟩
  · simp [Value.cells] at hcs
    obtain ⟨rfl, rfl, rfl⟩ := hcs
    exact ⟨none, [], 0, rfl, .inl rfl, Nat.le_refl _, Nat.zero_le _, fun _ => rfl⟩
  · simp [Value.cells] at hcs
    obtain ⟨rfl, rfl, rfl⟩ := hcs
    unfold maxLen at hm hws
    simp at hz
    have hlen : (ss.take len).length = len := by simp; omega
    refine ⟨some a', ss.take len, cap, by rw [hlen], ?_, by omega, by omega, fun h => by cases h⟩
    by_cases h0 : len = 0
    · exact .inl (List.length_eq_zero_iff.1 (by omega))
    · right
      have hc0 := hcell 0 (by omega)
      have hspot : a'.spot = none := by
        rw [show a'.add 0 = a' from rfl] at hc0
        unfold World.cell? at hc0
        cases hs : a'.spot with
        | none => rfl
        | some x =>
          rw [hs] at hc0
          split at hc0
          · simp at hc0
          · cases hc0
      obtain ⟨b, off, sp⟩ := a'
      simp at hspot
      subst hspot
      have hlt : b < w.heap.size := by
        rcases Nat.lt_or_ge b w.heap.size with h | h
        · exact h
        · exfalso
          rw [show (⟨b, off, none⟩ : Addr).add 0 = ⟨b, off, none⟩ from rfl] at hc0
          simp [World.cell?, Array.getElem?_eq_none h] at hc0
      refine ⟨b, off, rfl, hlt, fun i hi => ?_⟩
      have h1 := hcell i (by omega)
      rw [show (⟨b, off, none⟩ : Addr).add i = ⟨b, off + i, none⟩ from by unfold Addr.add; split <;> simp_all] at h1
      rw [h1]
      have e : ss.getD i ByteArray.empty = (ss.take len).getD i ByteArray.empty := by
        have hi2 : i < ss.length := by omega
        simp [List.getD, List.getElem?_take_of_lt (show i < len by omega), hi2]
      rw [e]

end Go.Proofs.Ytpajcalfjfkogaa.Pl

namespace Go.Proofs.Ytpajcalfjfkogaa.Pl
open Go.RowKit Go.ChangeShapes Go.WideShapes

/-- Each of these types can be read, and is a row of the table. -/
def typesRowed (P : Program) (ts : List TypeId) : Bool := ts.all fun t => P.readableRec t && decide (t < P.types.size)

theorem trodAll_later {H : Type} {enc : TypeId × Value → H} {P : Program} (hl : laidOutB P = true) {W W' : World} (hb : Below W.heap.size W W') :
    ∀ {ts : List TypeId} {vs : List Value} {ds : List (DataW H)} {ps : List MemPlace}, typesRowed P ts = true →
      DataW.TrodAll enc P W 0 (fun _ => true) true ts vs ds ps → DataW.TrodAll enc P W' 0 (fun b => decide (b < W.heap.size)) true ts vs ds ps
  | [], [], [], _, _, h => h
  | t :: ts, v :: vs, d :: ds, ps, ht, h => by
    have hlt := h.lt
    obtain ⟨p, q, h1, h2, e⟩ := h
    simp only [typesRowed, List.all_cons, Bool.and_eq_true, decide_eq_true_eq] at ht
    exact ⟨p, q, Below.trod hl ht.1.1 ht.1.2 h1 hb (fun x hx => hlt x (by rw [e]; simp [hx])), trodAll_later hl hb ht.2 h2, e⟩
  | [], [], _ :: _, _, _, h => h.elim
  | [], _ :: _, _, _, _, h => h.elim
  | _ :: _, [], _, _, _, h => h.elim
  | _ :: _, _ :: _, [], _, _, h => h.elim

/-- The law's post: the result is true, the arguments read as they did. -/
theorem law_post {H : Type} {enc : TypeId × Value → H} {P : Program} {f : Func} {s : ChangeSpec} {W W' : World} {args : Array Value} {ds gs : List (DataW H)} {before : List MemPlace} {T : TypeId}
    (hl : laidOutB P = true) (ht : typesRowed P f.params.toList = true) (hT : P.underlying T = some .bool) (hr : f.resultTypes = #[T]) (hv : s.vars = [])
    (hW : DataW.Whole enc P f.params.toList s.vars false W args.toList ds gs before) (hb : Below W.heap.size W W')
    (h1 : (s.fn H (ds ++ gs)).results = [.lit (.bool true)]) (h2 : (s.fn H (ds ++ gs)).args = ds) (h3 : (s.fn H (ds ++ gs)).vars = []) :
    s.post enc P f false true false false W args (.bool true) W' := by
  have hW' := hW
  obtain ⟨p, q, hA, hV, hps, _, _⟩ := hW'
  rw [hv] at hV
  obtain ⟨rfl, rfl⟩ := trodVars_none hV
  refine ⟨ds, [], before, [], p, [], hW, ?_, ?_, ?_, World.keptBut_mono (fun x hx => hx.elim) (hb.frame (fun _ => False)), fun h => by cases h⟩
  · rw [h1, hr]
    exact trodAll_mk1 (shut_bool hT true)
  · rw [h2]
    exact trodAll_later hl hb ht hA
  · rw [h3, hv]
    rfl
end Go.Proofs.Ytpajcalfjfkogaa.Pl

namespace Go.Proofs.Ytpajcalfjfkogaa.Pl
open Go.RowKit

open Classical in
noncomputable def onceF (out : List ByteArray) (x : ByteArray) : List ByteArray := if x ∈ out then out else out ++ [x]
end Go.Proofs.Ytpajcalfjfkogaa.Pl

namespace Go.Proofs.Ytpajcalfjfkogaa.Pl
open Go.RowKit

theorem rows_alike {a b : List ByteArray} (hl : a.length = b.length) (h : ∀ j, j < a.length → a.getD j ByteArray.empty = b.getD j ByteArray.empty) : a = b := by
  refine List.ext_getElem hl fun j h1 h2 => ?_
  have := h j h1
  simpa [List.getD_eq_getElem?_getD, h1, h2] using this

set_option maxHeartbeats 1000000 in
set_option maxRecDepth 100000 in
theorem rsame_any (a b : List ByteArray) (ao bo : Option Addr) (ca cb : Nat) (ha : a.length ≤ 281474976710656) (_hb : b.length ≤ 281474976710656) (w : World) (hra : TxtRow w ao a) (hrb : TxtRow w bo b) (r : Bool) (hr : r = true ↔ a = b) :
    Calls Try.prog 14 #[.slice ao a.length ca, .slice bo b.length cb] w fun e w' => e = .returned (.bool r) ∧ Below w.heap.size w w' := by
  have HA := Lib.hid hra
  have HB := Lib.hid hrb
  have HNO : Hid (a ≠ b → r = false) := Lib.hid (fun h => by
    cases e : r with
    | false => rfl
    | true => exact absurd (hr.1 e) h)
  by_cases hl : a.length = b.length
  · have HYES : Hid ((∀ j, j < a.length → a.getD j ByteArray.empty = b.getD j ByteArray.empty) → r = true) := Lib.hid (fun h => hr.2 (rows_alike hl h))
    have HDIF : Hid (∀ k, a.getD k ByteArray.empty ≠ b.getD k ByteArray.empty → r = false) := Lib.hid (fun k h => HNO.out (fun e => h (by rw [e])))
    obtain ⟨n, hn⟩ : ∃ n, n = a.length := ⟨_, rfl⟩
    have hna : a.length = n := hn.symm
    have hnb : b.length = n := by rw [← hl, hna]
    rw [hna, hnb]
    rw [hna] at HYES ha
    clear hra hrb hr hl hn _hb
    go_enter Try.func14, Try.ntmps14
    go_wp2_with fail
    go_loopw [5] (fun iv wr => ∃ k : Nat, iv = .int .i64 k ∧ k ≤ n ∧ Hid (∀ j, j < k → a.getD j ByteArray.empty = b.getD j ByteArray.empty) ∧ Hid (Below w.heap.size w wr)) (fun iv _ => n - (intOf iv).toNat)
    case atStart => exact ⟨0, rfl, Nat.zero_le _, Lib.hid (fun j hj => absurd hj (Nat.not_lt_zero j)), Lib.hid (Below.refl _ _)⟩
    case round =>
      obtain ⟨k, rfl, hkn, hch, hb⟩ := hrel
      by_cases hk : k < n
      · have hk' : (k : Int) < (n : Int) := by omega
        rcases HA.out.below hb.out with e | ⟨b1, off1, rfl, hlt1, hc1⟩
        · exfalso; rw [e] at hna; simp at hna; omega
        rcases HB.out.below hb.out with e | ⟨b2, off2, rfl, hlt2, hc2⟩
        · exfalso; rw [e] at hnb; simp at hnb; omega
        have ck1 := hc1 k (by omega)
        have ck2 := hc2 k (by omega)
        have HD := Lib.hid (HDIF.out k)
        have HX : Hid (a.getD k ByteArray.empty = b.getD k ByteArray.empty → ∀ j, j < k + 1 → a.getD j ByteArray.empty = b.getD j ByteArray.empty) := Lib.hid (fun h j hj => by
          by_cases e : j = k
          · rw [e]; exact h
          · exact hch.out j (by omega))
        generalize a.getD k ByteArray.empty = x at *
        generalize b.getD k ByteArray.empty = y at *
        clear hc1 hlt1 hc2 hlt2
        by_cases e : x = y
        · have HQ := Lib.hid (HX.out e)
          subst e
          go_wp2_with fail
          go_quiet (fail)
          go_wp2_with fail
          go_roundw
          case rel => exact ⟨k + 1, by go_num, by omega, HQ, Lib.hid (by first | exact hb.out | exact below_drewN hb.out _)⟩
          case measure => simp [intOf]; omega
        · obtain ⟨g1, g2⟩ := str6_ne e
          have HQ := Lib.hid (HD.out e)
          clear e
          go_wp2_with fail
          go_quiet (fail)
          go_wp2_with fail
          go_ret
          exact ⟨ret6_bool HQ.out.symm, by first | exact hb.out | exact below_drewN hb.out _⟩
      · obtain rfl : k = n := by omega
        have HQ := Lib.hid (HYES.out (fun j hj => hch.out j hj))
        clear hk hkn
        go_wp2_with fail
        go_ret
        exact ⟨ret6_bool HQ.out.symm, hb.out⟩
  · have HQ := Lib.hid (HNO.out (fun e => hl (by rw [e])))
    obtain ⟨n, hn⟩ : ∃ n, n = a.length := ⟨_, rfl⟩
    obtain ⟨m, hm⟩ : ∃ m, m = b.length := ⟨_, rfl⟩
    rw [← hn] at hl ha ⊢
    rw [← hm] at hl _hb ⊢
    have hl1 : ((n : Int) != (m : Int)) = true := by rw [bne_iff_ne]; omega
    have hl2 : ((n : Int) == (m : Int)) = false := by rw [beq_eq_false_iff_ne]; omega
    clear hra hrb hr hn hm hl
    go_enter Try.func14, Try.ntmps14
    go_wp2_with fail
    go_ret
    exact ⟨ret6_bool HQ.out.symm, Below.refl _ _⟩
end Go.Proofs.Ytpajcalfjfkogaa.Pl

namespace Go.Proofs.Ytpajcalfjfkogaa.Pl
open Go.RowKit

end Go.Proofs.Ytpajcalfjfkogaa.Pl

namespace Go.Proofs.Ytpajcalfjfkogaa.Pl

mutual
/-- What is listed of a term that is known: as takeT, and of a seal what its nonce tells, too. -/
def listT : Tm → List Tm
  | .node h l => if h.head? = some 100 then [] else if h.head? = some 114 then listTs l else .node h l :: (if h = [115] then listN l else [])
def listTs : List Tm → List Tm
  | [] => []
  | t :: l => listT t ++ listTs l
def listN : List Tm → List Tm
  | [] => []
  | _ :: l => listM l
def listM : List Tm → List Tm
  | [] => []
  | t :: _ => listT t
end
theorem mem_listTs {y : Tm} : ∀ {l : List Tm}, y ∈ listTs l ↔ ∃ t ∈ l, y ∈ listT t
  | [] => by simp [listTs]
  | t :: l => by rw [listTs, List.mem_append, mem_listTs]; simp
theorem listN_eq (k n x : Tm) : listN [k, n, x] = listT n := by rw [listN, listM]
theorem listT_data {h : List UInt8} {l : List Tm} (k : h.head? = some 100) : listT (.node h l) = [] := by rw [listT, if_pos k]
theorem listT_row {h : List UInt8} {l : List Tm} (k : h.head? = some 114) : listT (.node h l) = listTs l := by rw [listT, if_neg (by rw [k]; decide), if_pos k]
theorem listT_seal (k n x : Tm) : listT (sealT k n x) = sealT k n x :: listT n := by rw [listT, if_neg (by decide), if_neg (by decide), if_pos rfl, listN_eq]
theorem listT_else {h : List UInt8} {l : List Tm} (h1 : h.head? ≠ some 100) (h2 : h.head? ≠ some 114) (h3 : h ≠ [115]) : listT (.node h l) = [.node h l] := by rw [listT, if_neg h1, if_neg h2, if_neg h3]
theorem three {h : List UInt8} {l : List Tm} (hg : (Tm.node h l).good) (k : h = [115]) : ∃ a b c, l = [a, b, c] := by
  simp only [Tm.good] at hg
  obtain ⟨c, hk⟩ := head_kind hg.1
  subst k
  have h3 : l.length = 3 := by
    rcases hk with ⟨t, e, _, _⟩ | ⟨t, e, _, _, _⟩ | ⟨v, e, _, _⟩ | ⟨e, _⟩ | ⟨e, _⟩ | ⟨_, e⟩
    · cases e
    · cases e
    · cases e
    · cases e
    · cases e
    · exact e
  match l, h3 with
  | [a, b, c], _ => exact ⟨a, b, c, rfl⟩
/-- What is told is listed. -/
theorem take_listT : ∀ (t y : Tm), y ∈ takeT t → y ∈ listT t := by
  refine Tm.ind fun hd l ih y hy => ?_
  rw [takeT] at hy
  rw [listT]
  split at hy
  · cases hy
  · rename_i h1
    rw [if_neg h1]
    split at hy
    · rename_i h2
      rw [if_pos h2]
      obtain ⟨t, ht, h⟩ := mem_takeTs.1 hy
      exact mem_listTs.2 ⟨t, ht, ih t ht y h⟩
    · rename_i h2
      rw [if_neg h2]
      exact List.mem_cons.2 (.inl (List.mem_singleton.1 hy))
/-- Whatever tells what its seals' nonces tell has all that is listed of what it tells. -/
theorem list_in {L : Tm → Prop} (hL : ∀ k n x, L (sealT k n x) → ∀ y ∈ takeT n, L y) : ∀ t : Tm, t.good → (∀ y ∈ takeT t, L y) → ∀ y ∈ listT t, L y := by
  refine Tm.ind fun hd l ih hg h y hy => ?_
  have hg' := hg
  simp only [Tm.good] at hg'
  by_cases h1 : hd.head? = some 100
  · rw [listT_data h1] at hy
    cases hy
  · by_cases h2 : hd.head? = some 114
    · rw [listT_row h2] at hy
      obtain ⟨t, ht, hy⟩ := mem_listTs.1 hy
      refine ih t ht (goods_mem hg'.2 t ht) (fun z hz => h z ?_) y hy
      rw [takeT, if_neg h1, if_pos h2]
      exact mem_takeTs.2 ⟨t, ht, hz⟩
    · have hs : L (.node hd l) := h _ (by rw [take_self h1 h2]; exact List.mem_singleton.2 rfl)
      by_cases h3 : hd = [115]
      · obtain ⟨k, n, x, rfl⟩ := three hg h3
        subst h3
        rw [listT_seal] at hy
        rcases List.mem_cons.1 hy with rfl | hy
        · exact hs
        · exact ih n (by simp) (goods_mem hg'.2 n (by simp)) (hL k n x hs) y hy
      · rw [listT_else h1 h2 h3] at hy
        rw [List.mem_singleton.1 hy]
        exact hs
/-- What a seal's nonce tells is listed beside it. -/
theorem list_nonce {k n x : Tm} : ∀ t : Tm, t.good → sealT k n x ∈ listT t → ∀ y ∈ listT n, y ∈ listT t := by
  refine Tm.ind fun hd l ih hg h y hy => ?_
  have hg' := hg
  simp only [Tm.good] at hg'
  by_cases h1 : hd.head? = some 100
  · rw [listT_data h1] at h
    cases h
  · by_cases h2 : hd.head? = some 114
    · rw [listT_row h2] at h ⊢
      obtain ⟨t, ht, h⟩ := mem_listTs.1 h
      exact mem_listTs.2 ⟨t, ht, ih t ht (goods_mem hg'.2 t ht) h y hy⟩
    · by_cases h3 : hd = [115]
      · obtain ⟨k', n', x', rfl⟩ := three hg h3
        subst h3
        rw [listT_seal] at h ⊢
        rcases List.mem_cons.1 h with e | h
        · injection e with _ e
          injection e with e1 e
          injection e with e2 e
          subst e2
          exact List.mem_cons.2 (.inr hy)
        · exact List.mem_cons.2 (.inr (ih n' (by simp) (goods_mem hg'.2 n' (by simp)) h y hy))
      · rw [listT_else h1 h2 h3] at h
        have e := List.mem_singleton.1 h
        injection e with e _
        exact absurd e.symm h3
theorem listT_cand : ∀ (t y : Tm), y ∈ listT t → y ∈ cand t := by
  have aux : ∀ l : List Tm, (∀ t ∈ l, ∀ y, y ∈ listT t → y ∈ cand t) → ∀ y, y ∈ listN l → y ∈ candt l := by
    intro l h y hy
    match l, h, hy with
    | [], _, hy => rw [listN] at hy; cases hy
    | [a], _, hy => rw [listN, listM] at hy; cases hy
    | a :: b :: r, h, hy =>
      rw [listN, listM] at hy
      rw [candt, cands]
      exact List.mem_append.2 (.inl (h b (by simp) y hy))
  refine Tm.ind fun hd l ih y hy => ?_
  rw [listT] at hy
  rw [cand]
  split at hy
  · cases hy
  · rename_i h1
    rw [if_neg h1]
    split at hy
    · rename_i h2
      rw [if_pos h2]
      obtain ⟨t, ht, h⟩ := mem_listTs.1 hy
      exact mem_cands.2 ⟨t, ht, ih t ht y h⟩
    · rename_i h2
      rw [if_neg h2]
      rcases List.mem_cons.1 hy with rfl | hy
      · exact List.mem_cons.2 (.inl rfl)
      · split at hy
        · rename_i h3
          rw [if_pos h3]
          exact List.mem_cons.2 (.inr (aux l ih y hy))
        · cases hy
theorem listT_valid {t : Tm} (hv : t.valid) {y : Tm} (h : y ∈ listT t) : y.valid := cand_valid t hv y (listT_cand t y h)
theorem listTs_len : ∀ l : List Tm, (∀ t ∈ l, (listT t).length ≤ t.enc.length) → (listTs l).length ≤ (encs l).length
  | [], _ => Nat.le_refl _
  | t :: l, h => by
    have h1 := h t (List.mem_cons.2 (.inl rfl))
    have h2 := listTs_len l fun u hu => h u (List.mem_cons.2 (.inr hu))
    rw [listTs, encs, List.length_append, List.length_append]
    omega
theorem listT_len : ∀ t : Tm, t.good → (listT t).length ≤ t.enc.length := by
  refine Tm.ind fun hd l ih hg => ?_
  have hg' := hg
  simp only [Tm.good] at hg'
  have ih' : ∀ t ∈ l, (listT t).length ≤ t.enc.length := fun t ht => ih t ht (goods_mem hg'.2 t ht)
  have h2 := two_bytes _ hg
  by_cases h1 : hd.head? = some 100
  · rw [listT_data h1]
    exact Nat.zero_le _
  · by_cases h2 : hd.head? = some 114
    · rw [listT_row h2]
      have := listTs_len l ih'
      rw [Tm.enc_node, List.length_append]
      omega
    · by_cases h3 : hd = [115]
      · obtain ⟨k, n, x, rfl⟩ := three hg h3
        subst h3
        rw [listT_seal]
        have := ih' n (by simp)
        rw [Tm.enc_node, List.length_append]
        simp only [encs, List.length_append, List.length_cons, List.length_nil]
        omega
      · rw [listT_else h1 h2 h3]
        simp only [List.length_cons, List.length_nil]
        omega

/-! ### Lists -/
def lstL (L : List (List UInt8)) (T : Tm) : List (List UInt8) := (listT T).foldl (fun L y => insL L y.enc) L
theorem mem_lstL {L : List (List UInt8)} {T : Tm} {u : List UInt8} : u ∈ lstL L T ↔ u ∈ L ∨ ∃ y ∈ listT T, y.enc = u := mem_foldIns
theorem lst_nodup {L : List (List UInt8)} (h : L.Nodup) (T : Tm) : (lstL L T).Nodup := fold_keep (fun (L : List (List UInt8)) (y : Tm) => insL L y.enc) List.Nodup (listT T) (fun _ h _ _ => ins_nodup h _) L h
theorem lst_data {h : List UInt8} {l : List Tm} (k : h.head? = some 100) (L : List (List UInt8)) : lstL L (.node h l) = L := by
  unfold lstL
  rw [listT_data k]
  rfl
theorem foldl_listTs : ∀ (l : List Tm) (L : List (List UInt8)), (listTs l).foldl (fun L y => insL L y.enc) L = l.foldl lstL L
  | [], _ => rfl
  | t :: l, L => by rw [listTs, List.foldl_append, foldl_listTs]; rfl
theorem lst_row {h : List UInt8} {l : List Tm} (k : h.head? = some 114) (L : List (List UInt8)) : lstL L (.node h l) = l.foldl lstL L := by
  unfold lstL
  rw [listT_row k]
  exact foldl_listTs l L
theorem lst_seal (k n x : Tm) (L : List (List UInt8)) : lstL L (sealT k n x) = lstL (insL L (sealT k n x).enc) n := by
  unfold lstL
  rw [listT_seal]
  rfl
theorem lst_else {h : List UInt8} {l : List Tm} (h1 : h.head? ≠ some 100) (h2 : h.head? ≠ some 114) (h3 : h ≠ [115]) (L : List (List UInt8)) : lstL L (.node h l) = insL L (Tm.node h l).enc := by
  unfold lstL
  rw [listT_else h1 h2 h3]
  rfl
theorem lst_step {l : List Tm} {k : Nat} (hk : k < l.length) (L : List (List UInt8)) : (l.take (k + 1)).foldl lstL L = lstL ((l.take k).foldl lstL L) l[k] := by
  rw [List.take_succ_eq_append_getElem hk, List.foldl_append]
  rfl
theorem insL_len (L : List (List UInt8)) (s : List UInt8) : (insL L s).length ≤ L.length + 1 := by
  unfold insL
  split
  · omega
  · simp
theorem foldInsL_len : ∀ (l : List Tm) (L : List (List UInt8)), (l.foldl (fun L y => insL L y.enc) L).length ≤ L.length + l.length
  | [], _ => Nat.le_refl _
  | y :: l, L => by
    have h1 := foldInsL_len l (insL L y.enc)
    have h2 := insL_len L y.enc
    simp only [List.foldl_cons, List.length_cons]
    omega
theorem lst_len (L : List (List UInt8)) {t : Tm} (h : t.good) : (lstL L t).length ≤ L.length + t.enc.length := by
  have h1 := foldInsL_len (listT t) L
  have h2 := listT_len t h
  unfold lstL
  omega
theorem foldLst_len : ∀ (l : List Tm) (L : List (List UInt8)), (∀ t ∈ l, t.good) → (l.foldl lstL L).length ≤ L.length + (encs l).length
  | [], _, _ => by simp [encs]
  | t :: l, L, h => by
    have h1 := foldLst_len l (lstL L t) fun u hu => h u (List.mem_cons.2 (.inr hu))
    have h2 := lst_len L (h t (List.mem_cons.2 (.inl rfl)))
    rw [List.foldl_cons, encs, List.length_append]
    omega
theorem encs_cut10 (l : List Tm) (k : Nat) : (encs (l.take k)).length ≤ (encs l).length := by
  have h : encs l = encs (l.take k) ++ encs (l.drop k) := by
    rw [encs_flat, encs_flat, encs_flat, ← List.flatten_append, ← List.map_append, List.take_append_drop]
  rw [h, List.length_append]
  omega
/-! ### Kinds -/
theorem kd_node10 {h : List UInt8} {l : List Tm} (hv : (Tm.node h l).valid) : ∃ c, Kd h l.length c ∧ kindP (Tm.node h l).enc = c := by
  have hg := hv.1
  simp only [Tm.good] at hg
  obtain ⟨c, hk⟩ := head_kind hg.1
  refine ⟨c, hk, ?_⟩
  unfold kindP
  rw [if_pos (check_enc hv), Tm.enc_node]
  rcases hk with ⟨t, rfl, _, _⟩ | ⟨t, rfl, _, _, _⟩ | ⟨v, rfl, _, _⟩ | ⟨rfl, _⟩ | ⟨rfl, _⟩ | ⟨rfl, _⟩ <;> rfl
theorem kd_first10 {h : List UInt8} {p c : Nat} (hk : Kd h p c) : (c = 1 ↔ h.head? = some 100) ∧ (c = 2 ↔ h.head? = some 97) ∧ (c = 3 ↔ h.head? = some 114) ∧ (c = 6 ↔ h = [115]) := by
  rcases hk with ⟨t, rfl, _, _⟩ | ⟨t, rfl, _, _, _⟩ | ⟨v, rfl, _, _⟩ | ⟨rfl, _⟩ | ⟨rfl, _⟩ | ⟨rfl, _⟩ <;> simp
theorem kd_le10 {h : List UInt8} {p c : Nat} (hk : Kd h p c) : p ≤ 32 ∧ c ≤ 6 := by
  rcases hk with ⟨_, _, _, h⟩ | ⟨_, _, _, _, h⟩ | ⟨v, _, hv, h⟩ | ⟨_, h⟩ | ⟨_, h⟩ | ⟨_, h⟩ <;> omega
theorem parts_node10 {h : List UInt8} {l : List Tm} (hv : (Tm.node h l).valid) : partsP (Tm.node h l).enc = (l.map Tm.enc, true) := by
  unfold partsP
  rw [treeOf_enc hv]

/-! ### Locks -/
/-- A seal's key and what is sealed. -/
def lockT : Tm → List UInt8 × List UInt8
  | .node [115] [k, _, x] => (k.enc, x.enc)
  | _ => ([], [])
noncomputable def lockP (s : List UInt8) : List UInt8 × List UInt8 := match treeOf s with | some t => lockT t | none => ([], [])
theorem lockT_seal (k n x : Tm) : lockT (sealT k n x) = (k.enc, x.enc) := rfl
theorem lockT_else {h : List UInt8} {l : List Tm} (hh : h ≠ [115]) : lockT (.node h l) = ([], []) := by
  unfold lockT
  split
  · rename_i e
    injection e with e _
    exact absurd e hh
  · rfl
theorem lockP_enc {t : Tm} (h : t.valid) : lockP t.enc = lockT t := by
  unfold lockP
  rw [treeOf_enc h]
theorem lock_key {t : Tm} (h : t.valid) (hk : (lockT t).1 ≠ []) : ∃ k n x, t = sealT k n x := by
  obtain ⟨hd, l⟩ := t
  by_cases h3 : hd = [115]
  · obtain ⟨k, n, x, rfl⟩ := three h.1 h3
    subst h3
    exact ⟨k, n, x, rfl⟩
  · rw [lockT_else h3] at hk
    exact absurd rfl hk
/-- A key has bytes. -/
theorem key_bytes {k : Tm} (h : k.valid) : k.enc ≠ [] := by
  have := two_bytes k h.1
  intro e
  rw [e] at this
  simp at this

/-! ### What matters -/
/-- What can be made now, and could not before, has something new in it. -/
theorem new_in {L M : Tm → Prop} : ∀ t : Tm, can M t → ¬ can L t → ∃ y, M y ∧ ¬ L y ∧ ∃ a b, t.enc = a ++ y.enc ++ b := by
  refine Tm.ind fun hd l ih hM hL => ?_
  rw [can] at hM hL
  rcases hM with h | h | ⟨h1, h2⟩
  · exact absurd (.inl h) hL
  · exact ⟨.node hd l, h, fun e => hL (.inr (.inl e)), [], [], by simp⟩
  · have : ∃ t ∈ l, ¬ can L t := Classical.byContradiction fun hn => hL (.inr (.inr ⟨h1, cans_all.2 fun t ht => Classical.byContradiction fun e => hn ⟨t, ht, e⟩⟩))
    obtain ⟨t, ht, hn⟩ := this
    obtain ⟨y, hy1, hy2, a, b, e⟩ := ih t ht (cans_all.1 h2 t ht) hn
    obtain ⟨l1, l2, rfl⟩ := List.append_of_mem ht
    refine ⟨y, hy1, hy2, hd ++ encs l1 ++ a, b ++ encs l2, ?_⟩
    rw [Tm.enc_node, encs_flat, encs_flat, encs_flat, List.map_append, List.flatten_append, List.map_cons, List.flatten_cons, e]
    simp only [List.append_assoc]

/-! ### How the list grows -/
/-- What holds while T is learnt by who knew the list L0 of H: X: what is listed; open: what is to be told still. -/
structure Opens (H L0 : List (List UInt8)) (T : Tm) (X opn : List (List UInt8)) : Prop where
  nodup : X.Nodup
  known : ∀ s ∈ X, knownP (T.enc :: H) s
  old : ∀ s ∈ L0, s ∈ X
  told : ∀ b ∈ opn, ∃ B : Tm, B.valid ∧ B.enc = b ∧ ∀ y ∈ takeT B, Cl (SH (T.enc :: H)) y
  nonce : ∀ k n x, LB X (sealT k n x) → ∀ y ∈ takeT n, LB X y
  opened : ∀ k n x, LB X (sealT k n x) → can (LB X) k → (∀ y ∈ takeT x, LB X y) ∨ x.enc ∈ opn
  first : (∀ y ∈ takeT T, LB X y) ∨ T.enc ∈ opn

theorem lb_mono {X Y : List (List UInt8)} (h : ∀ s ∈ X, s ∈ Y) {y : Tm} (k : LB X y) : LB Y y := ⟨k.1, h _ k.2⟩
theorem opens_start {H L0 : List (List UInt8)} {T : Tm} (hT : T.valid) (h : IsK H L0) : Opens H L0 T L0 [T.enc] := by
  have hs := isK_sat h
  refine ⟨h.1, fun s hs => known_mono (fun _ hu => List.mem_cons.2 (.inr hu)) ((h.2 s).1 hs), fun _ h => h, fun b hb => ?_, fun k n x h1 => (hs k n x h1).1, fun k n x h1 h2 => .inl ((hs k n x h1).2 h2), .inr (by simp)⟩
  rw [List.mem_singleton.1 hb]
  exact ⟨T, hT, rfl, cl_take ⟨hT, List.mem_cons.2 (.inl rfl)⟩⟩
/-- At the end nothing is left to be opened. -/
theorem opens_end {H L0 X : List (List UInt8)} {T : Tm} (hT : T.valid) (h0 : IsK H L0) (h : Opens H L0 T X []) : IsK (T.enc :: H) X := by
  refine grows_end hT h0 ⟨h.nodup, h.known, h.old, fun y hy => ?_⟩ fun k n x hs => ⟨h.nonce k n x hs, fun hc => ?_⟩
  · rcases h.first with e | e
    · exact (e y hy).2
    · cases e
  · rcases h.opened k n x hs hc with e | e
    · exact e
    · cases e
/-- Told: those of opn up to i; Y: what is listed then. -/
structure Tells (H L0 : List (List UInt8)) (T : Tm) (X opn : List (List UInt8)) (i : Nat) (Y : List (List UInt8)) : Prop where
  nodup : Y.Nodup
  known : ∀ s ∈ Y, knownP (T.enc :: H) s
  more : ∀ s ∈ X, s ∈ Y
  nonce : ∀ k n x, LB Y (sealT k n x) → ∀ y ∈ takeT n, LB Y y
  done : ∀ B : Tm, B.valid → B.enc ∈ opn.take i → ∀ y ∈ takeT B, LB Y y
theorem tells_start {H L0 X opn : List (List UInt8)} {T : Tm} (h : Opens H L0 T X opn) : Tells H L0 T X opn 0 X :=
  ⟨h.nodup, h.known, fun _ h => h, h.nonce, fun _ _ hb => by simp at hb⟩
theorem lb_lst {X : List (List UInt8)} {B y : Tm} (hB : B.valid) (hy : y ∈ listT B) : LB (lstL X B) y := ⟨listT_valid hB hy, mem_lstL.2 (.inr ⟨y, hy, rfl⟩)⟩
theorem tells_step {H L0 X opn Y : List (List UInt8)} {T : Tm} (h : Opens H L0 T X opn) {i : Nat} (hi : i < opn.length) (k : Tells H L0 T X opn i Y) {B : Tm} (hB : B.valid) (e : B.enc = opn[i]) : Tells H L0 T X opn (i + 1) (lstL Y B) := by
  have hin : ∀ s ∈ Y, s ∈ lstL Y B := fun s hs => mem_lstL.2 (.inl hs)
  have hcl : ∀ y ∈ takeT B, Cl (SH (T.enc :: H)) y := by
    obtain ⟨C, hC, e2, h2⟩ := h.told opn[i] (List.getElem_mem hi)
    obtain rfl := enc_tm_inj hC.1 hB.1 (e2.trans e.symm)
    exact h2
  have hcl2 : ∀ y ∈ listT B, Cl (SH (T.enc :: H)) y := list_in (fun k n x hs => (cl_sat _ k n x hs).1) B hB.1 hcl
  have tk : ∀ {t y : Tm}, t.valid → y ∈ takeT t → y.valid := fun ht hy => cand_valid _ ht _ (take_cand _ _ hy)
  refine ⟨lst_nodup k.nodup B, fun s hs => ?_, fun s hs => hin s (k.more s hs), fun a n x hs y hy => ?_, fun C hC hb y hy => ?_⟩
  · rcases mem_lstL.1 hs with hs | ⟨y, hy, rfl⟩
    · exact k.known s hs
    · exact ⟨y, hcl2 y hy, rfl⟩
  · rcases mem_lstL.1 hs.2 with hy2 | ⟨z, hz, e2⟩
    · exact lb_mono hin (k.nonce a n x ⟨hs.1, hy2⟩ y hy)
    · obtain rfl := enc_tm_inj (listT_valid hB hz).1 hs.1.1 e2
      exact lb_lst hB (list_nonce B hB.1 hz y (take_listT n y hy))
  · rw [List.take_succ_eq_append_getElem hi, List.mem_append, List.mem_singleton] at hb
    rcases hb with hb | hb
    · exact lb_mono hin (k.done C hC hb y hy)
    · obtain rfl := enc_tm_inj hB.1 hC.1 (e.trans hb.symm)
      exact lb_lst hB (take_listT B y hy)
/-- What is opened behind all that: each seal whose key can be made, if it is new, or something new stands in its key. -/
theorem tells_end {H L0 X opn Y opn2 : List (List UInt8)} {T : Tm} (hT : T.valid) (h : Opens H L0 T X opn) (k : Tells H L0 T X opn opn.length Y)
    (h1 : ∀ b ∈ opn2, ∃ a n x, LB Y (sealT a n x) ∧ can (LB Y) a ∧ x.enc = b)
    (h2 : ∀ a n x, LB Y (sealT a n x) → can (LB Y) a → (∃ y ∈ Y, y ∉ X ∧ (y = (sealT a n x).enc ∨ ∃ u v, a.enc = u ++ y ++ v)) → x.enc ∈ opn2) : Opens H L0 T Y opn2 := by
  have tk : ∀ {t y : Tm}, t.valid → y ∈ takeT t → y.valid := fun ht hy => cand_valid _ ht _ (take_cand _ _ hy)
  have vp : ∀ {a n x : Tm}, (sealT a n x).valid → x.valid := fun hv => node_valid_parts hv _ (by simp)
  have dn : ∀ {x : Tm}, x.valid → x.enc ∈ opn → ∀ y ∈ takeT x, LB Y y := fun hx hin => k.done _ hx (by rw [List.take_length]; exact hin)
  have lbk : ∀ y, LB Y y → Cl (SH (T.enc :: H)) y := lb_known k.known
  refine ⟨k.nodup, k.known, fun s hs => k.more s (h.old s hs), fun b hb => ?_, k.nonce, fun a n x hs hc => ?_, ?_⟩
  · obtain ⟨a, n, x, hs, hc, e⟩ := h1 b hb
    exact ⟨x, vp hs.1, e, (cl_sat _ a n x (lbk _ hs)).2 (can_mono lbk a hc)⟩
  · by_cases hX : LB X (sealT a n x)
    · by_cases hcX : can (LB X) a
      · rcases h.opened a n x hX hcX with e | e
        · exact .inl fun y hy => lb_mono k.more (e y hy)
        · exact .inl (dn (vp hs.1) e)
      · obtain ⟨y, hy1, hy2, u, v, e⟩ := new_in a hc hcX
        exact .inr (h2 a n x hs hc ⟨y.enc, hy1.2, fun hin => hy2 ⟨hy1.1, hin⟩, .inr ⟨u, v, e⟩⟩)
    · exact .inr (h2 a n x hs hc ⟨(sealT a n x).enc, hs.2, fun hin => hX ⟨hs.1, hin⟩, .inl rfl⟩)
  · rcases h.first with e | e
    · exact .inl fun y hy => lb_mono k.more (e y hy)
    · exact .inl (dn hT e)
theorem opens_cnt {H Y : List (List UInt8)} {T : Tm} (h1 : Y.Nodup) (h2 : ∀ s ∈ Y, knownP (T.enc :: H) s) : Y.length ≤ cntP (T.enc :: H) := by
  obtain ⟨L, hL, _⟩ := isK_ex (T.enc :: H)
  rw [← cnt_eq hL]
  exact nodup_len h1 fun s hs => (hL.2 s).2 (h2 s hs)
end Go.Proofs.Ytpajcalfjfkogaa.Pl

namespace Go.Proofs.Ytpajcalfjfkogaa.Pl
open Go.RowKit

theorem learnH_sub (H : List (List UInt8)) (t : List UInt8) : ∀ s ∈ learnH H t, s = t ∨ s ∈ H := by
  intro s hs
  unfold learnH at hs
  split at hs
  · exact List.mem_cons.1 hs
  · exact .inr hs
theorem learns_sub : ∀ (l H : List (List UInt8)), ∀ s ∈ learns H l, s ∈ l ∨ s ∈ H
  | [], _, _, h => .inr h
  | t :: l, H, s, h => by
    rcases learns_sub l (learnH H t) s h with h | h
    · exact .inl (List.mem_cons.2 (.inr h))
    · rcases learnH_sub H t s h with rfl | h
      · exact .inl (List.mem_cons.2 (.inl rfl))
      · exact .inr h
theorem cnt_sub {H K : List (List UInt8)} (h : ∀ s ∈ H, s ∈ K) : 3 * cntP H ≤ (K.map List.length).sum := by
  have h1 := cnt_cover (H := H) (C := coverP K) fun s hs => known_cover (known_mono h hs)
  have h2 := cover_len K
  omega
theorem sum_front (l : List (List UInt8)) (k : Nat) : ((l.take k).map List.length).sum ≤ (l.map List.length).sum := by
  have h : (l.map List.length).sum = ((l.take k).map List.length).sum + ((l.drop k).map List.length).sum := by
    rw [← List.sum_append, ← List.map_append, List.take_append_drop]
  omega
/-- One more is learnt just where it is a term, where there is room. -/
theorem learn_step {l : List (List UInt8)} (hl : (l.map List.length).sum ≤ 6000) {k : Nat} (hk : k < l.length) : learnE (learns [] (l.take k)) l[k] = 0 ↔ checkP l[k] = 0 := by
  refine learn_iff ?_
  have h1 := cnt_sub (H := l[k] :: learns [] (l.take k)) (K := l.take (k + 1)) (fun s hs => by
    rw [List.take_succ_eq_append_getElem hk, List.mem_append, List.mem_singleton]
    rcases List.mem_cons.1 hs with h | h
    · exact .inr h
    · rcases learns_sub _ _ s h with h | h
      · exact .inl h
      · cases h)
  have h2 := sum_front l (k + 1)
  omega
end Go.Proofs.Ytpajcalfjfkogaa.Pl
