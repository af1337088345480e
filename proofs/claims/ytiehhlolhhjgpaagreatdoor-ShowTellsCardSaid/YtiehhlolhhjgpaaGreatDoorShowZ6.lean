/- How long what is read is at most; rows of texts beside a reader. What show.built answers or throws, for each kind. A row of texts of the caller's own that is written cell by cell; how lines are joined. What the document's Atoms of layer 7 answers. What stage 7's two theorems come down to, over plain bytes: a line and its term, names of atoms. What show.Atoms answers. -/
import Derived.Test.YtiehhlolhhjgpaaGreatDoorShowZ1
import Derived.Test.YtiehhlolhhjgpaaGreatDoorShowPlainM
import Derived.Test.YtiehhlolhhjgpaaGreatDoorShowBuilt
import Derived.Test.YtiehhlolhhjgpaaGreatDoorShowZ4
import Derived.Test.YtiehhlolhhjgpaaGreatDoorShowZ3
import Derived.Test.YtiehhlolhhjgpaaGreatDoorShelf
import Derived.Test.YtiehhlolhhjgpaaGreatDoorShowParts
import Derived.Test.YtiehhlolhhjgpaaGreatDoorShowZ5
namespace Go.Proofs.YtiehhlolhhjgpaaGreatDoor.Pl
open Go.RowKit

def Fits (nn : List UInt8 → Option (List UInt8 × List UInt8)) : Prop := ∀ s t r, nn s = some (t, r) → t.length ≤ 16384 ∧ r.length ≤ s.length
theorem nxt_fits (d : Nat) : Fits (nxt d) := by
  intro s t r h
  obtain ⟨h1, h2, h3⟩ := (nxt_rel d s).1 t r h
  rw [← h1] at h2
  obtain ⟨T, tv, te, _, _⟩ := parse_sound d s h2
  rw [← h1, ← te, h3, List.length_drop]
  exact ⟨tv.2.2, by omega⟩
theorem rest_fits {nn : List UInt8 → Option (List UInt8 × List UInt8)} (hn : Fits nn) (fin : UInt8) : ∀ k s l q, nRest nn fin k s = some (l, q) → (∀ x ∈ l, x.length ≤ 16384) ∧ q.length ≤ s.length ∧ l.length ≤ k
  | 0, s, l, q, h => by cases h
  | k + 1, s, l, q, h => by
    rw [nRest] at h
    cases hs : nn s with
    | none => rw [hs] at h; cases h
    | some x =>
      obtain ⟨t, r⟩ := x
      rw [hs] at h
      simp only at h
      obtain ⟨h1, h2⟩ := hn s t r hs
      split at h
      · cases h
        refine ⟨fun x hx => ?_, ?_, ?_⟩
        · rw [List.mem_singleton] at hx; rw [hx]; exact h1
        · rw [List.length_drop]; omega
        · simp
      · split at h
        · cases hk : nRest nn fin k (r.drop 2) with
          | none => rw [hk] at h; cases h
          | some y =>
            obtain ⟨l', q'⟩ := y
            rw [hk] at h
            cases h
            obtain ⟨g1, g2, g3⟩ := rest_fits hn fin k _ _ _ hk
            rw [List.length_drop] at g2
            refine ⟨fun x hx => ?_, by omega, by simp; omega⟩
            rcases List.mem_cons.1 hx with rfl | hx
            · exact h1
            · exact g1 x hx
        · cases h
theorem parts_fits {nn : List UInt8 → Option (List UInt8 × List UInt8)} (hn : Fits nn) (fin : UInt8) (s : List UInt8) (l : List (List UInt8)) (q : List UInt8) (h : nParts nn fin s = some (l, q)) : (∀ x ∈ l, x.length ≤ 16384) ∧ q.length ≤ s.length ∧ l.length ≤ 32 := by
  unfold nParts at h
  split at h
  · cases h
    exact ⟨fun x hx => (by cases hx), by rw [List.length_drop]; omega, by simp⟩
  · exact rest_fits hn fin 32 s l q h
/-- What came before, in front. -/
def comb7 (pre : List (List UInt8)) : Option (List (List UInt8) × List UInt8) → Option (List (List UInt8) × List UInt8)
  | none => none
  | some (l, q) => some (pre ++ l, q)
theorem comb7_none {nn : List UInt8 → Option (List UInt8 × List UInt8)} {fin : UInt8} {k : Nat} {s : List UInt8} (pre : List (List UInt8)) (h : nn s = none) : comb7 pre (nRest nn fin (k + 1) s) = none := by rw [nRest, h]; rfl
theorem comb7_end {nn : List UInt8 → Option (List UInt8 × List UInt8)} {fin : UInt8} {k : Nat} {s t r : List UInt8} (pre : List (List UInt8)) (h : nn s = some (t, r)) (hr : r.head? = some fin) : comb7 pre (nRest nn fin (k + 1) s) = some (pre ++ [t], r.drop 1) := by rw [nRest, h]; simp only; rw [if_pos hr]; rfl
theorem comb7_on {nn : List UInt8 → Option (List UInt8 × List UInt8)} {fin : UInt8} {k : Nat} {s t r : List UInt8} (pre : List (List UInt8)) (h : nn s = some (t, r)) (hr : r.head? ≠ some fin) (h2 : r.take 2 = [44, 32]) : comb7 pre (nRest nn fin (k + 1) s) = comb7 (pre ++ [t]) (nRest nn fin k (r.drop 2)) := by
  rw [nRest, h]
  simp only
  rw [if_neg hr, if_pos h2]
  cases nRest nn fin k (r.drop 2) with
  | none => rfl
  | some y => obtain ⟨l, q⟩ := y; simp [comb7]
theorem comb7_no {nn : List UInt8 → Option (List UInt8 × List UInt8)} {fin : UInt8} {k : Nat} {s t r : List UInt8} (pre : List (List UInt8)) (h : nn s = some (t, r)) (hr : r.head? ≠ some fin) (h2 : r.take 2 ≠ [44, 32]) : comb7 pre (nRest nn fin (k + 1) s) = none := by
  rw [nRest, h]
  simp only
  rw [if_neg hr, if_neg h2]; rfl
theorem prefix_one (fin : UInt8) (s : List UInt8) : ([fin] : List UInt8).isPrefixOf s = decide (s.head? = some fin) := by
  cases s with
  | nil => simp
  | cons c s => simp [List.isPrefixOf, eq_comm]; rfl
theorem prefix_two (a b : UInt8) (s : List UInt8) : ([a, b] : List UInt8).isPrefixOf s = decide (s.take 2 = [a, b]) := by
  match s with
  | [] => simp
  | [c] => simp [List.isPrefixOf]
  | c :: e :: s => simp [List.isPrefixOf, eq_comm]; rfl
theorem Moved.grown {B g : Nat} {w W W' : World} (h : Moved B w W) (hg : W.grownBy W' (some g)) (hb : w.heap.size ≤ g) : Moved B w W' :=
  ⟨hg.os.trans h.os, hg.tape.trans h.tape, hg.output.trans h.output, Nat.le_trans h.size hg.size, fun b hb' hne => (hg.block b (Nat.lt_of_lt_of_le hb' h.size) (fun e => by cases e; omega)).trans (h.block b hb' hne)⟩
theorem Frames.moved {B : Nat} {w w' : World} (h : Frames w) (hB : B ≠ 0) (hm : Moved B w w') : Frames w' :=
  ⟨Nat.lt_of_lt_of_le h.1 hm.size, fun j hj => (World.cell?_of_block (a := ⟨0, j, none⟩) (hm.block 0 h.1 (fun e => hB (Option.some.inj e).symm))).trans (h.2 j hj)⟩
theorem ownT_moved {w w' : World} {A B : Nat} {v : Value} {l : List ByteArray} (h : OwnT w A v l) (hB : B < A) (hm : Moved B w w') : OwnT w' A v l := by
  refine World.ownsRow.kept h hm ?_
  rcases h.2 with ⟨rfl, _⟩ | ⟨g, cap, cur, rfl, hg, _⟩
  · exact .inl rfl
  · refine .inr fun e => ?_
    have : g = B := by simpa [Value.ownBlock] using e
    omega
theorem ownT_cap {w : World} {A : Nat} {v : Value} {l : List ByteArray} (h : OwnT w A v l) : ∃ ao cap, v = .slice ao l.length cap ∧ l.length ≤ cap ∧ TxtRow w ao l := by
  obtain ⟨ao, cap, e, hrow⟩ := ownT_row h
  refine ⟨ao, cap, e, ?_, hrow⟩
  rcases h.2 with ⟨rfl, h0⟩ | ⟨g, c, cur, rfl, _, _, hc, _⟩
  · omega
  · injection e with _ _ e3; omega
theorem ownT_mono7 {w : World} {A B : Nat} {v : Value} {l : List ByteArray} (h : A ≤ B) (ho : OwnT w B v l) : OwnT w A v l := by
  refine ⟨ho.1, ho.2.elim .inl ?_⟩
  rintro ⟨g, cap, cur, e1, e2, rest⟩
  exact .inr ⟨g, cap, cur, e1, Nat.le_trans h e2, rest⟩
end Go.Proofs.YtiehhlolhhjgpaaGreatDoor.Pl

namespace Go.Proofs.YtiehhlolhhjgpaaGreatDoor.Pl
open Go.RowKit

theorem len_two {l : List ByteArray} (h : l.length = 2) : ∃ a b, l = [a, b] := by
  match l, h with
  | [a, b], _ => exact ⟨a, b, rfl⟩
theorem len_three {l : List ByteArray} (h : l.length = 3) : ∃ a b c, l = [a, b, c] := by
  match l, h with
  | [a, b, c], _ => exact ⟨a, b, c, rfl⟩
theorem built7_any (k : Nat) (c : UInt8) (hkc : (k = 3 ∧ c = 91) ∨ (k = 4 ∧ c = 104) ∨ (k = 5 ∧ c = 109) ∨ (k = 6 ∧ c = 115)) (L : List ByteArray) (ao : Option Addr) (cap : Nat) (hcap : L.length ≤ cap) (hl : L.length ≤ 1000) (hx : ∀ x ∈ L, x.size ≤ 100000) (w : World) (hrow : TxtRow w ao L) :
    Calls Tryz.prog 68 #[.int .u8 k, .slice ao L.length cap] w (BuiltPost (bMade c (L.map bl)) w) := by
  rcases hkc with ⟨rfl, rfl⟩ | ⟨rfl, rfl⟩ | ⟨rfl, rfl⟩ | ⟨rfl, rfl⟩
  · have e : bMade 91 (L.map bl) = rowP (L.map bl) := if_pos rfl
    rw [e]
    exact built_row L ao cap hcap hl hx w hrow
  · by_cases h1 : L.length = 1
    · obtain ⟨a, rfl⟩ := List.length_eq_one_iff.1 h1
      obtain ⟨q, off, rfl, hc⟩ := row_cell hrow (by simp)
      have e : bMade 104 ([a].map bl) = madeP [104] [bl a] := by unfold bMade; rw [if_neg (by decide), if_pos ⟨rfl, rfl⟩]; rfl
      rw [e]
      exact built_hash a (hx a (by simp)) q off cap w (hc 0 (by simp))
    · have e : bMade 104 (L.map bl) = ([], 7) := by unfold bMade; rw [if_neg (by decide), if_neg (by rw [List.length_map]; exact fun h => h1 h.2), if_neg (by intro h; exact absurd h.1 (by decide)), if_neg (by intro h; exact absurd h.1 (by decide))]
      rw [e]
      exact built_no4 L.length h1 ao cap w
  · by_cases h1 : L.length = 2
    · obtain ⟨a, b, rfl⟩ := len_two h1
      obtain ⟨q, off, rfl, hc⟩ := row_cell hrow (by simp)
      have e : bMade 109 ([a, b].map bl) = madeP [109] [bl a, bl b] := by unfold bMade; rw [if_neg (by decide), if_neg (by intro h; exact absurd h.1 (by decide)), if_pos ⟨rfl, rfl⟩]; rfl
      rw [e]
      exact built_mac a b (hx a (by simp)) (hx b (by simp)) q off cap w (hc 0 (by simp)) (hc 1 (by simp))
    · have e : bMade 109 (L.map bl) = ([], 7) := by unfold bMade; rw [if_neg (by decide), if_neg (by intro h; exact absurd h.1 (by decide)), if_neg (by rw [List.length_map]; exact fun h => h1 h.2), if_neg (by intro h; exact absurd h.1 (by decide))]
      rw [e]
      exact built_no5 L.length h1 ao cap w
  · by_cases h1 : L.length = 3
    · obtain ⟨a, b, d, rfl⟩ := len_three h1
      obtain ⟨q, off, rfl, hc⟩ := row_cell hrow (by simp)
      have e : bMade 115 ([a, b, d].map bl) = madeP [115] [bl a, bl b, bl d] := by unfold bMade; rw [if_neg (by decide), if_neg (by intro h; exact absurd h.1 (by decide)), if_neg (by intro h; exact absurd h.1 (by decide)), if_pos ⟨rfl, rfl⟩]; rfl
      rw [e]
      exact built_sl a b d (hx a (by simp)) (hx b (by simp)) (hx d (by simp)) q off cap w (hc 0 (by simp)) (hc 1 (by simp)) (hc 2 (by simp))
    · have e : bMade 115 (L.map bl) = ([], 7) := by unfold bMade; rw [if_neg (by decide), if_neg (by intro h; exact absurd h.1 (by decide)), if_neg (by intro h; exact absurd h.1 (by decide)), if_neg (by rw [List.length_map]; exact fun h => h1 h.2)]
      rw [e]
      exact built_no6 L.length h1 ao cap w
end Go.Proofs.YtiehhlolhhjgpaaGreatDoor.Pl

namespace Go.Proofs.YtiehhlolhhjgpaaGreatDoor.Pl
open Go.RowKit

def RowS (w : World) (g : Nat) (L : List ByteArray) : Prop := ∃ cur : Array Value, w.heap[g]? = some (.cells cur 9 (0, 0)) ∧ L.length ≤ cur.size ∧ ∀ j, j < L.length → cur[j]? = some (.string (L.getD j ByteArray.empty))
theorem RowS.lt {w : World} {g : Nat} {L : List ByteArray} (h : RowS w g L) : g < w.heap.size := by obtain ⟨cur, h1, _⟩ := h; exact (Array.getElem?_eq_some_iff.1 h1).1
theorem RowS.cell {w : World} {g : Nat} {L : List ByteArray} (h : RowS w g L) (j : Nat) (hj : j < L.length) : w.cell? ⟨g, j, none⟩ = some (.string (L.getD j ByteArray.empty)) := by
  obtain ⟨cur, h1, h2, h3⟩ := h
  have h4 := h3 j hj
  simp [World.cell?, h1, h4]
theorem RowS.frozen {w : World} {g : Nat} {L : List ByteArray} (h : RowS w g L) (j : Nat) : w.frozen? ⟨g, j, none⟩ = false := by
  obtain ⟨cur, h1, _⟩ := h
  exact Lib.frozen_of_heap h1 j
theorem RowS.below {w w' : World} {g : Nat} {L : List ByteArray} (h : RowS w g L) (b : Below w.heap.size w w') : RowS w' g L := by
  obtain ⟨cur, h1, h2⟩ := h
  exact ⟨cur, heap_below b h1, h2⟩
theorem RowS.set {w : World} {g : Nat} {L : List ByteArray} (h : RowS w g L) (k : Nat) (x : ByteArray) : RowS (w.setCell ⟨g, k, none⟩ (.string x)) g (L.set k x) := by
  obtain ⟨cur, h1, h2, h3⟩ := h
  refine ⟨cur.setIfInBounds k (.string x), by simp [World.setCell, Array.getElem?_modify, h1], by simpa using h2, fun j hj => ?_⟩
  rw [List.length_set] at hj
  have hjc : j < cur.size := by omega
  rw [Array.getElem?_setIfInBounds, List.getD_eq_getElem?_getD, List.getElem?_set]
  by_cases e : k = j
  · subst e; simp [hjc, hj]
  · rw [if_neg e, if_neg e, h3 j hj, List.getD_eq_getElem?_getD]
theorem RowS.of_own {w : World} {A : Nat} {v : Value} {l : List ByteArray} (h : OwnT w A v l) (hne : l.length ≠ 0) : ∃ g cap, v = .slice (some ⟨g, 0, none⟩) l.length cap ∧ A ≤ g ∧ l.length ≤ cap ∧ RowS w g l := by
  rcases h.2 with ⟨_, h0⟩ | ⟨g, cap, cur, rfl, hg, hh, hc, _, hs, ht⟩
  · exact absurd h0 hne
  · refine ⟨g, cap, rfl, hg, hc, cur, hh, by omega, fun j hj => ?_⟩
    have e : cur.toList[j]? = (txts l)[j]? := by rw [← ht, List.getElem?_take_of_lt (by omega)]
    rw [← Array.getElem?_toList, e]
    unfold txts
    rw [List.getElem?_map, List.getElem?_eq_getElem hj, List.getD_eq_getElem?_getD, List.getElem?_eq_getElem hj]; rfl
theorem join_eq : ∀ ls : List (List UInt8), Lib.join ls [44, 32] = joinL ls
  | [] => rfl
  | x :: r => by
    rw [Lib.join_cons, joinL]
    unfold Lib.joinTail sepL
    rw [List.flatMap_def]; rfl
end Go.Proofs.YtiehhlolhhjgpaaGreatDoor.Pl

namespace Go.Proofs.YtiehhlolhhjgpaaGreatDoor.Pl
open Go.RowKit

noncomputable def atomsL (l : List (List UInt8)) : List (List UInt8) := (l.filter (fun x => kindP x == 2)).map (fun x => (textP x).1)
/-- The names of a term's atoms. -/
noncomputable def atomsP (s : List UInt8) : List (List UInt8) := atomsL (onceL (placesP s))
theorem atomsL_take (l : List (List UInt8)) (k : Nat) (h : k < l.length) : atomsL (l.take (k + 1)) = atomsL (l.take k) ++ (if kindP (l.getD k []) = 2 then [(textP (l.getD k [])).1] else []) := by
  have e : l.getD k [] = l[k] := by rw [List.getD_eq_getElem?_getD, List.getElem?_eq_getElem h]; rfl
  rw [e, List.take_succ_eq_append_getElem h]
  unfold atomsL
  rw [List.filter_append, List.map_append]
  congr 1
  by_cases hk : kindP l[k] = 2
  · rw [if_pos hk]; simp [List.filter, hk]
  · rw [if_neg hk]
    have : (kindP l[k] == 2) = false := by rw [beq_eq_false_iff_ne]; exact hk
    simp [List.filter, this]
theorem atomsL_len (l : List (List UInt8)) : (atomsL l).length ≤ l.length := by
  unfold atomsL; rw [List.length_map]; exact List.length_filter_le _ _
theorem ownT_mono {w : World} {A B : Nat} {v : Value} {l : List ByteArray} (h : A ≤ B) (ho : OwnT w B v l) : OwnT w A v l := by
  refine ⟨ho.1, ho.2.elim .inl ?_⟩
  rintro ⟨g, cap, cur, e1, e2, rest⟩
  exact .inr ⟨g, cap, cur, e1, Nat.le_trans h e2, rest⟩
theorem onceL_from : ∀ (l acc : List (List UInt8)), (l.foldl (fun out x => if x ∈ out then out else out ++ [x]) acc).length ≤ acc.length + l.length ∧ ∀ x ∈ l.foldl (fun out x => if x ∈ out then out else out ++ [x]) acc, x ∈ acc ∨ x ∈ l
  | [], acc => ⟨by simp, fun x hx => .inl hx⟩
  | y :: l, acc => by
    have ih := onceL_from l (if y ∈ acc then acc else acc ++ [y])
    rw [List.foldl_cons]
    refine ⟨Nat.le_trans ih.1 ?_, fun x hx => ?_⟩
    · split
      · simp only [List.length_cons]; omega
      · simp only [List.length_cons, List.length_append, List.length_nil]; omega
    · rcases ih.2 x hx with h | h
      · split at h
        · exact .inl h
        · rcases List.mem_append.1 h with h | h
          · exact .inl h
          · exact .inr (by rw [List.mem_singleton] at h; rw [h]; simp)
      · exact .inr (List.mem_cons_of_mem _ h)
theorem onceL_len (l : List (List UInt8)) : (onceL l).length ≤ l.length := by have := (onceL_from l []).1; simp at this; exact this
theorem onceL_mem {l : List (List UInt8)} {x : List UInt8} (h : x ∈ onceL l) : x ∈ l := by
  rcases (onceL_from l []).2 x h with h | h
  · cases h
  · exact h
/-- How many parts there are at most, and how long they are. -/
theorem subs_small (s : List UInt8) : (onceL (placesP s)).length ≤ 16384 ∧ ∀ x ∈ onceL (placesP s), x.length ≤ 16384 := by
  by_cases h : checkP s = 0
  · obtain ⟨t, tv, te, tr⟩ := tree_of h
    have e : placesP s = t.places.map Tm.enc := by unfold placesP; rw [tr]
    have h2 := tv.2.2
    refine ⟨Nat.le_trans (onceL_len _) ?_, fun x hx => ?_⟩
    · rw [e, List.length_map]
      exact Nat.le_trans (places_count t tv.1) h2
    · have hx := onceL_mem hx
      rw [e] at hx
      obtain ⟨p, hp, rfl⟩ := List.mem_map.1 hx
      exact Nat.le_trans (places_len t p hp) h2
  · have e : placesP s = [] := by unfold placesP; rw [treeOf_none h]
    rw [e]
    exact ⟨by decide, fun x hx => by cases hx⟩
set_option maxHeartbeats 4000000 in
set_option maxRecDepth 100000 in
theorem ratoms_any (s : ByteArray) (hs : s.size ≤ 281474976710656) (w : World) :
    Calls Tryz.prog 13 #[.string s] w fun e w' => ∃ (v : Value) (L : List ByteArray), e = .returned v ∧ OwnT w' w.heap.size v L ∧ L.map bl = atomsP (bl s) ∧ Below w.heap.size w w' := by
  obtain ⟨i0, hi, hz0, hz1, hz2⟩ := info_parts infoStr
  have HI := Lib.hid hi
  have HS := Lib.hid (fun V => rsubs_any s hs V)
  obtain ⟨z, hz⟩ : ∃ z, z = atomsP (bl s) := ⟨_, rfl⟩
  rw [← hz]
  unfold atomsP at hz
  have HB : Hid ((onceL (placesP (bl s))).length ≤ 1000000 ∧ ∀ x ∈ onceL (placesP (bl s)), x.length ≤ 281474976710656) := Lib.hid (by
    have := subs_small (bl s)
    exact ⟨by omega, fun x hx => Nat.le_trans (this.2 x hx) (by decide)⟩)
  generalize onceL (placesP (bl s)) = ls at *
  have HZ := Lib.hid hz
  clear hz hi hs
  go_enter Tryz.func13, Tryz.ntmps13
  go_wp2_with fail
  refine (HS.out w).mono ?_; rintro e w1 ⟨v, P, rfl, ho, hPb, b1⟩
  have HPL : Hid (P.length = ls.length) := Lib.hid (by rw [← hPb, List.length_map])
  have HPE : Hid (∀ k, k < P.length → bl (P.getD k ByteArray.empty) = ls.getD k []) := Lib.hid (fun k hk => by
    rw [← hPb, List.getD_eq_getElem?_getD, List.getD_eq_getElem?_getD, List.getElem?_map, List.getElem?_eq_getElem hk]; rfl)
  have HPZ : Hid (∀ k, k < P.length → (P.getD k ByteArray.empty).size ≤ 281474976710656) := Lib.hid (fun k hk => by
    rw [size_bl, HPE.out k hk]
    refine HB.out.2 _ ?_
    have hk' : k < ls.length := by rw [← HPL.out]; exact hk
    rw [List.getD_eq_getElem?_getD, List.getElem?_eq_getElem hk']
    exact List.getElem_mem _)
  have B1 := Lib.hid b1
  obtain ⟨ao, cap, rfl, hrow⟩ := ownT_row ho
  have R1 := Lib.hid hrow
  obtain ⟨n, hn⟩ : ∃ n, n = P.length := ⟨_, rfl⟩
  rw [← hn] at HPL HPE HPZ ⊢
  have HN := Lib.hid hn
  have hn6 : n ≤ 1000000 := by rw [HPL.out]; exact HB.out.1
  clear b1 ho hrow hPb hn
  go_wp2_with fail
  go_loopw [3, 5] (fun ov iv wr => ∃ (k : Nat) (L : List ByteArray), iv = .int .i64 k ∧ k ≤ n ∧ Hid (OwnT wr w1.heap.size ov L) ∧ Hid (L.map bl = atomsL (ls.take k)) ∧ Hid (Below w1.heap.size w1 wr)) (fun _ iv _ => n - (intOf iv).toNat)
  case atStart => exact ⟨0, [], rfl, Nat.zero_le _, Lib.hid (ownT_nil _ _), Lib.hid rfl, Lib.hid (Below.refl _ _)⟩
  case round =>
    obtain ⟨k, L, rfl, hkn, hown, hL, hb⟩ := hrel
    by_cases hk : k < n
    · have hk' : (k : Int) < (n : Int) := by omega
      rcases R1.out.below hb.out with e | ⟨b, off, rfl, hlt, hc⟩
      · exfalso; rw [e] at HN; have := HN.out; simp at this; omega
      have ck := hc k (by rw [← HN.out]; exact hk)
      have HY := Lib.hid (HPE.out k hk)
      have hyz := HPZ.out k hk
      have HAT := Lib.hid (atomsL_take ls k (by rw [← HPL.out]; exact hk))
      rw [← HY.out] at HAT
      generalize P.getD k ByteArray.empty = y at *
      have HK := Lib.hid (fun V => rkind_any y hyz V)
      have HT := Lib.hid (fun V => rtext6_any y hyz V)
      have HLL : Hid (L.length ≤ 1000000) := Lib.hid (by
        have := congrArg List.length hL.out
        rw [List.length_map] at this
        have h2 := atomsL_len (ls.take k)
        rw [List.length_take] at h2
        omega)
      by_cases hkd : kindP (bl y) = 2
      · rw [if_pos hkd] at HAT
        rw [hkd] at HK
        simp only [tb2] at HT
        have HL2 : Hid ((L ++ [(⟨(textP (bl y)).1.toArray⟩ : ByteArray)]).map bl = atomsL (ls.take (k + 1))) := Lib.hid (by
          rw [HAT.out, List.map_append, hL.out]; rfl)
        generalize textP (bl y) = tx7 at *
        generalize (⟨tx7.1.toArray⟩ : ByteArray) = xb at *
        clear hc HY hkd hyz
        go_wp2_with fail
        refine (HK.out wr).mono ?_; rintro e w2 ⟨rfl, b2⟩
        have ck2 := (b2.cell (p := ⟨b, off + k, none⟩) (World.block_lt_of_cell? _ _ ck)).trans ck
        go_wp2_with fail
        refine (HT.out w2).mono ?_; rintro e w3 ⟨rfl, b3⟩
        have b23 := below_step b2 b3
        have B3 : Hid (Below w1.heap.size w1 w3) := Lib.hid (below_step hb.out b23)
        have O3 := Lib.hid (ownT_below hown.out b23)
        have HSZ : Hid (w1.heap.size ≤ w3.heap.size) := Lib.hid (Nat.le_trans hb.out.size b23.size)
        clear b2 b3 b23 ck ck2
        go_wp2_with (at_builtin; refine wpList_append_own _ rfl _ _ 29 rfl w1.heap.size 9 i0 (.string ⟨#[]⟩) 1 16 Tryz.underlying29 HI.out hz0 hz1 hz2 rfl (by decide) _ _ _ rfl (World.ownsRow.alloc O3.out _) ⟨w3.heap.size, 0, none⟩ 1 1 [.string xb] rfl rfl ?c1 ?c2 ?c3 ?c4 ?c5 ?_)
        case c1 =>
          intro j u hj
          match j, hj with
          | 0, hj => simp at hj; subst hj; simp [Addr.add]
          | (j + 1), hj => simp at hj
        case c2 => intro u hu; simp at hu; subst hu; rfl
        case c3 => have := HLL.out; unfold maxLen; omega
        case c4 => have := HLL.out; omega
        case c5 => have := HSZ.out; simp; omega
        intro v' w4 hown' hgrow _
        have HO : Hid (OwnT w4 w1.heap.size v' (L ++ [xb])) := Lib.hid (by
          have h := hown'
          unfold OwnT
          rw [show txts (L ++ [xb]) = txts L ++ [.string xb] by simp [txts], List.length_append, List.length_singleton]
          exact h)
        have B4 : Hid (Below w1.heap.size w1 w4) := Lib.hid ((B3.out.alloc (by have := HSZ.out; omega) _).grown hgrow (by have := HSZ.out; simp; omega) (fun j hj => (O3.out.lt _ hj).1))
        clear hown' hgrow
        go_wp2_with fail
        go_roundw
        case rel => exact ⟨k + 1, L ++ [xb], by go_num, by omega, HO, HL2, B4⟩
        case measure => simp [intOf]; omega
      · rw [if_neg hkd, List.append_nil] at HAT
        have qk : ((kindP (bl y) : Int) == 2) = false := by rw [beq_eq_false_iff_ne]; omega
        have HL2 : Hid (L.map bl = atomsL (ls.take (k + 1))) := Lib.hid (by rw [HAT.out, hL.out])
        clear hc HY hyz
        generalize kindP (bl y) = kd at *
        go_wp2_with fail
        refine (HK.out wr).mono ?_; rintro e w2 ⟨rfl, b2⟩
        have B2 : Hid (Below w1.heap.size w1 w2) := Lib.hid (below_step hb.out b2)
        have O2 := Lib.hid (ownT_below hown.out b2)
        clear b2
        go_wp2_with fail
        go_roundw
        case rel => exact ⟨k + 1, L, by go_num, by omega, O2, HL2, B2⟩
        case measure => simp [intOf]; omega
    · obtain rfl : k = n := by omega
      have HE : Hid (L.map bl = z) := Lib.hid (by rw [hL.out, HZ.out, List.take_of_length_le (by rw [← HPL.out]; exact Nat.le_refl _)])
      clear hk hkn
      go_wp2_with fail
      go_ret
      exact ⟨_, L, rfl, ownT_mono B1.out.size hown.out, HE.out, below_step B1.out hb.out⟩
end Go.Proofs.YtiehhlolhhjgpaaGreatDoor.Pl

namespace Go.Proofs.YtiehhlolhhjgpaaGreatDoor.Pl

theorem brief_whole {T : Tm} (h : T.valid) : briefP 16 T.enc = (lineW T, 0) := by
  rw [briefP_some h]
  have e := lineT_whole 16 T 1 (by have := h.2.1; omega)
  exact congrArg (fun x => (x, 0)) e
/-- There is a line just of what is a term. -/
theorem brief_ok (most : Int) (t : List UInt8) : (briefP most t).2 = 0 ↔ checkP t = 0 := by
  by_cases h : checkP t = 0
  · obtain ⟨T, tv, te, _⟩ := tree_of h
    rw [te, briefP_some tv]
    exact ⟨fun _ => check_enc tv, fun _ => rfl⟩
  · rw [briefP_none h]
    exact ⟨fun k => absurd k (by decide), fun k => absurd k h⟩
theorem brief_two (most : Int) (t : List UInt8) (h : checkP t ≠ 0) : briefP most t = ([], 2) := briefP_none h most
/-- What is parsed of a term's line is the term. -/
theorem line_back {t : List UInt8} (h : checkP t = 0) : parseF (briefP 16 t).1 = (t, 0) := by
  obtain ⟨T, tv, te, _⟩ := tree_of h
  rw [te, brief_whole tv]
  exact parseF_line tv
/-- The line of what was parsed is that line again. -/
theorem parse_back {s : List UInt8} (h : (parseF s).2 = 0) : briefP 16 (parseF s).1 = (s, 0) ∧ checkP (parseF s).1 = 0 := by
  obtain ⟨T, tv, te, tl⟩ := parseF_some h
  rw [← te]
  exact ⟨by rw [brief_whole tv, tl], check_enc tv⟩
/-- Unlike terms have unlike lines. -/
theorem lines_unlike {a b : List UInt8} (ha : checkP a = 0) (hb : checkP b = 0) : (briefP 16 a).1 = (briefP 16 b).1 ↔ a = b := by
  obtain ⟨T, tv, te, _⟩ := tree_of ha
  obtain ⟨U, uv, ue, _⟩ := tree_of hb
  rw [te, ue, brief_whole tv, brief_whole uv]
  exact ⟨fun e => by rw [line_inj tv uv e], fun e => by rw [enc_tm_inj tv.1 uv.1 e]⟩
/-- How wide a line is. -/
theorem rn_len (x : List UInt8) : (rn x).length ≤ x.length := by
  unfold rn
  have := runes_length ⟨x.toArray⟩
  rwa [show (⟨x.toArray⟩ : ByteArray).size = x.length from size_lit x] at this
theorem rn_some {x : List UInt8} (h : x ≠ []) : 1 ≤ (rn x).length := by
  have hs : (⟨x.toArray⟩ : ByteArray).size = x.length := size_lit x
  cases x with
  | nil => exact absurd rfl h
  | cons c r =>
    unfold rn runes
    rw [hs]
    simp only [List.length_cons]
    rw [runesF_step _ _ 0 (by rw [hs]; simp), List.length_cons]
    omega
theorem line_wide {t : List UInt8} (h : checkP t = 0) : 1 ≤ (rn (briefP 16 t).1).length ∧ (rn (briefP 16 t).1).length ≤ (briefP 16 t).1.length := by
  refine ⟨rn_some ?_, rn_len _⟩
  obtain ⟨T, tv, te, _⟩ := tree_of h
  rw [te, brief_whole tv]
  obtain ⟨c, r, e, _⟩ := lineW_head tv.1
  rw [e]
  exact List.cons_ne_nil _ _
/-- An atom. -/
theorem kind_atom {s : List UInt8} (h : kindP s = 2) : ∃ x, s = 97 :: txt x ∧ x.length ≤ 32 ∧ nameOK x = true ∧ textP s = (x, true) ∧ atomP x = (s, 0) := by
  have hc : checkP s = 0 := Classical.byContradiction fun k => by unfold kindP at h; rw [if_neg k] at h; cases h
  obtain ⟨⟨hd, l⟩, tv, te, _⟩ := tree_of hc
  have hg := tv.1
  simp only [Tm.good] at hg
  obtain ⟨c, hk⟩ := head_kind hg.1
  rw [te] at h
  cases hk with
  | data x e _ _ => rw [kind_head tv e] at h; cases h
  | atom x e e1 e2 e3 =>
    have hl : l = [] := List.length_eq_zero_iff.1 e3
    subst hl
    have es : s = 97 :: txt x := by rw [te, e]; exact atom_enc
    refine ⟨x, es, e1, e2, ?_, ?_⟩
    · rw [te]; exact text_head tv e (.inr rfl) (by omega)
    · rw [es]; exact atomP_ok e1 e2
  | row v e _ _ => rw [kind_head tv e] at h; cases h
  | hash e _ => rw [kind_head tv e] at h; cases h
  | mac e _ => rw [kind_head tv e] at h; cases h
  | seal_ e _ => rw [kind_head tv e] at h; cases h
theorem once_all : ∀ (l acc : List (List UInt8)), ∀ x, x ∈ acc ∨ x ∈ l → x ∈ l.foldl (fun out x => if x ∈ out then out else out ++ [x]) acc
  | [], acc, x, h => by rcases h with h | h; exact h; cases h
  | y :: l, acc, x, h => by
    rw [List.foldl_cons]
    refine once_all l _ x ?_
    rcases h with h | h
    · left; split
      · exact h
      · exact List.mem_append_left _ h
    · rcases List.mem_cons.1 h with rfl | h
      · left; split
        · assumption
        · simp
      · exact .inr h
theorem once_mem {l : List (List UInt8)} {x : List UInt8} : x ∈ onceL l ↔ x ∈ l := ⟨onceL_mem, fun h => once_all l [] x (.inr h)⟩
theorem mem_atoms {s x : List UInt8} : x ∈ atomsP s ↔ ∃ a, a ∈ placesP s ∧ kindP a = 2 ∧ (textP a).1 = x := by
  unfold atomsP atomsL
  rw [List.mem_map]
  constructor
  · rintro ⟨a, ha, rfl⟩
    obtain ⟨h1, h2⟩ := List.mem_filter.1 ha
    exact ⟨a, onceL_mem h1, by simpa using h2, rfl⟩
  · rintro ⟨a, h1, h2, rfl⟩
    exact ⟨a, List.mem_filter.2 ⟨once_mem.2 h1, by simpa using h2⟩, rfl⟩
/-- The names are those of atoms that are parts. -/
theorem atoms_parts {s x : List UInt8} (h : x ∈ atomsP s) : (atomP x).2 = 0 ∧ hasP s (atomP x).1 = true := by
  obtain ⟨a, ha, hk, rfl⟩ := mem_atoms.1 h
  obtain ⟨y, es, h1, h2, ht, hat⟩ := kind_atom hk
  rw [ht, hat]
  refine ⟨rfl, ?_⟩
  have hc : checkP s = 0 := Classical.byContradiction fun k => by
    have e : placesP s = [] := by unfold placesP; rw [treeOf_none k]
    rw [e] at ha; cases ha
  obtain ⟨T, tv, te, tr⟩ := tree_of hc
  have hca : checkP a = 0 := Classical.byContradiction fun k => by unfold kindP at hk; rw [if_neg k] at hk; cases hk
  obtain ⟨A, _, _, ar⟩ := tree_of hca
  unfold hasP
  rw [tr, ar]
  exact decide_eq_true ha
/-- An atom that is a part: its name is among them. -/
theorem parts_atoms {s a : List UInt8} (hk : kindP a = 2) (h : hasP s a = true) : (textP a).1 ∈ atomsP s := by
  refine mem_atoms.2 ⟨a, ?_, hk, rfl⟩
  unfold hasP at h
  split at h
  · exact of_decide_eq_true h
  · cases h
end Go.Proofs.YtiehhlolhhjgpaaGreatDoor.Pl

namespace Go.Proofs.YtiehhlolhhjgpaaGreatDoor.Pl
open Go.RowKit

set_option maxHeartbeats 4000000 in
set_option maxRecDepth 100000 in
theorem atoms7_any (s : ByteArray) (hs : s.size ≤ 281474976710656) (w : World) :
    Calls Tryz.prog 12 #[.string s] w fun e w' => ∃ (v : Value) (L : List ByteArray), e = .returned v ∧ OwnT w' w.heap.size v L ∧ L.map bl = atomsP (bl s) ∧ Below w.heap.size w w' := by
  obtain ⟨i0, hi, hz0, hz1, hz2⟩ := info_parts infoStr
  have HI := Lib.hid hi
  have HS := Lib.hid (fun V => subs6_any s hs V)
  obtain ⟨z, hz⟩ : ∃ z, z = atomsP (bl s) := ⟨_, rfl⟩
  rw [← hz]
  unfold atomsP at hz
  have HB : Hid ((onceL (placesP (bl s))).length ≤ 1000000 ∧ ∀ x ∈ onceL (placesP (bl s)), x.length ≤ 281474976710656) := Lib.hid (by
    have := subs_small (bl s)
    exact ⟨by omega, fun x hx => Nat.le_trans (this.2 x hx) (by decide)⟩)
  generalize onceL (placesP (bl s)) = ls at *
  have HZ := Lib.hid hz
  clear hz hi hs
  go_enter Tryz.func12, Tryz.ntmps12
  go_wp2_with fail
  refine (HS.out w).mono ?_; rintro e w1 ⟨v, P, rfl, ho, hPb, b1⟩
  have HPL : Hid (P.length = ls.length) := Lib.hid (by rw [← hPb, List.length_map])
  have HPE : Hid (∀ k, k < P.length → bl (P.getD k ByteArray.empty) = ls.getD k []) := Lib.hid (fun k hk => by
    rw [← hPb, List.getD_eq_getElem?_getD, List.getD_eq_getElem?_getD, List.getElem?_map, List.getElem?_eq_getElem hk]; rfl)
  have HPZ : Hid (∀ k, k < P.length → (P.getD k ByteArray.empty).size ≤ 281474976710656) := Lib.hid (fun k hk => by
    rw [size_bl, HPE.out k hk]
    refine HB.out.2 _ ?_
    have hk' : k < ls.length := by rw [← HPL.out]; exact hk
    rw [List.getD_eq_getElem?_getD, List.getElem?_eq_getElem hk']
    exact List.getElem_mem _)
  have B1 := Lib.hid b1
  obtain ⟨ao, cap, rfl, hrow⟩ := ownT_row ho
  have R1 := Lib.hid hrow
  obtain ⟨n, hn⟩ : ∃ n, n = P.length := ⟨_, rfl⟩
  rw [← hn] at HPL HPE HPZ ⊢
  have HN := Lib.hid hn
  have hn6 : n ≤ 1000000 := by rw [HPL.out]; exact HB.out.1
  clear b1 ho hrow hPb hn
  go_wp2_with fail
  go_loopw [3, 11] (fun ov iv wr => ∃ (k : Nat) (L : List ByteArray), iv = .int .i64 k ∧ k ≤ n ∧ Hid (OwnT wr w1.heap.size ov L) ∧ Hid (L.map bl = atomsL (ls.take k)) ∧ Hid (Below w1.heap.size w1 wr)) (fun _ iv _ => n - (intOf iv).toNat)
  case atStart => exact ⟨0, [], rfl, Nat.zero_le _, Lib.hid (ownT_nil _ _), Lib.hid rfl, Lib.hid (Below.refl _ _)⟩
  case round =>
    obtain ⟨k, L, rfl, hkn, hown, hL, hb⟩ := hrel
    by_cases hk : k < n
    · have hk' : (k : Int) < (n : Int) := by omega
      rcases R1.out.below hb.out with e | ⟨b, off, rfl, hlt, hc⟩
      · exfalso; rw [e] at HN; have := HN.out; simp at this; omega
      have ck := hc k (by rw [← HN.out]; exact hk)
      have HY := Lib.hid (HPE.out k hk)
      have hyz := HPZ.out k hk
      have HAT := Lib.hid (atomsL_take ls k (by rw [← HPL.out]; exact hk))
      rw [← HY.out] at HAT
      generalize P.getD k ByteArray.empty = y at *
      have HK := Lib.hid (fun V => tkind_any y hyz V)
      have HT := Lib.hid (fun V => text6_any y hyz V)
      have HLL : Hid (L.length ≤ 1000000) := Lib.hid (by
        have := congrArg List.length hL.out
        rw [List.length_map] at this
        have h2 := atomsL_len (ls.take k)
        rw [List.length_take] at h2
        omega)
      by_cases hkd : kindP (bl y) = 2
      · rw [if_pos hkd] at HAT
        rw [hkd] at HK
        simp only [tb2] at HT
        have HL2 : Hid ((L ++ [(⟨(textP (bl y)).1.toArray⟩ : ByteArray)]).map bl = atomsL (ls.take (k + 1))) := Lib.hid (by
          rw [HAT.out, List.map_append, hL.out]; rfl)
        generalize textP (bl y) = tx7 at *
        generalize (⟨tx7.1.toArray⟩ : ByteArray) = xb at *
        clear hc HY hkd hyz
        go_wp2_with fail
        refine (HK.out wr).mono ?_; rintro e w2 ⟨rfl, b2⟩
        have ck2 := (b2.cell (p := ⟨b, off + k, none⟩) (World.block_lt_of_cell? _ _ ck)).trans ck
        go_wp2_with fail
        refine (HT.out w2).mono ?_; rintro e w3 ⟨rfl, b3⟩
        have b23 := below_step b2 b3
        have B3 : Hid (Below w1.heap.size w1 w3) := Lib.hid (below_step hb.out b23)
        have O3 := Lib.hid (ownT_below hown.out b23)
        have HSZ : Hid (w1.heap.size ≤ w3.heap.size) := Lib.hid (Nat.le_trans hb.out.size b23.size)
        clear b2 b3 b23 ck ck2
        go_wp2_with (at_builtin; refine wpList_append_own _ rfl _ _ 29 rfl w1.heap.size 9 i0 (.string ⟨#[]⟩) 1 16 Tryz.underlying29 HI.out hz0 hz1 hz2 rfl (by decide) _ _ _ rfl (World.ownsRow.alloc O3.out _) ⟨w3.heap.size, 0, none⟩ 1 1 [.string xb] rfl rfl ?c1 ?c2 ?c3 ?c4 ?c5 ?_)
        case c1 =>
          intro j u hj
          match j, hj with
          | 0, hj => simp at hj; subst hj; simp [Addr.add]
          | (j + 1), hj => simp at hj
        case c2 => intro u hu; simp at hu; subst hu; rfl
        case c3 => have := HLL.out; unfold maxLen; omega
        case c4 => have := HLL.out; omega
        case c5 => have := HSZ.out; simp; omega
        intro v' w4 hown' hgrow _
        have HO : Hid (OwnT w4 w1.heap.size v' (L ++ [xb])) := Lib.hid (by
          have h := hown'
          unfold OwnT
          rw [show txts (L ++ [xb]) = txts L ++ [.string xb] by simp [txts], List.length_append, List.length_singleton]
          exact h)
        have B4 : Hid (Below w1.heap.size w1 w4) := Lib.hid ((B3.out.alloc (by have := HSZ.out; omega) _).grown hgrow (by have := HSZ.out; simp; omega) (fun j hj => (O3.out.lt _ hj).1))
        clear hown' hgrow
        go_wp2_with fail
        go_roundw
        case rel => exact ⟨k + 1, L ++ [xb], by go_num, by omega, HO, HL2, B4⟩
        case measure => simp [intOf]; omega
      · rw [if_neg hkd, List.append_nil] at HAT
        have qk : ((kindP (bl y) : Int) == 2) = false := by rw [beq_eq_false_iff_ne]; omega
        have HL2 : Hid (L.map bl = atomsL (ls.take (k + 1))) := Lib.hid (by rw [HAT.out, hL.out])
        clear hc HY hyz
        generalize kindP (bl y) = kd at *
        go_wp2_with fail
        refine (HK.out wr).mono ?_; rintro e w2 ⟨rfl, b2⟩
        have B2 : Hid (Below w1.heap.size w1 w2) := Lib.hid (below_step hb.out b2)
        have O2 := Lib.hid (ownT_below hown.out b2)
        clear b2
        go_wp2_with fail
        go_roundw
        case rel => exact ⟨k + 1, L, by go_num, by omega, O2, HL2, B2⟩
        case measure => simp [intOf]; omega
    · obtain rfl : k = n := by omega
      have HE : Hid (L.map bl = z) := Lib.hid (by rw [hL.out, HZ.out, List.take_of_length_le (by rw [← HPL.out]; exact Nat.le_refl _)])
      clear hk hkn
      go_wp2_with fail
      go_ret
      exact ⟨_, L, rfl, ownT_mono B1.out.size hown.out, HE.out, below_step B1.out hb.out⟩
end Go.Proofs.YtiehhlolhhjgpaaGreatDoor.Pl
