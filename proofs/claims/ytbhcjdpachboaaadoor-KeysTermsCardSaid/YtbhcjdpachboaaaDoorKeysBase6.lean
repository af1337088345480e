/- What the document's Seal and Open of layer 4 answer. CipherOpens answers true, whatever it is given. What the document's Xor of layer 4 answers. What is sealed and opened again, over texts. The suite's sums, tags and seals over plain bytes are those of the stages before. What suites of bytes make and open, by their own methods. The images of a term's parts, one by one, each in its part's place. The image of a term, in a suite of bytes, by its own method. What the methods of a suite answer, of either kind: the call through its interface. What suite.New answers. What the document's suites make of texts: keys, hashes, tags, seals. -/
import Derived.Test.YtbhcjdpachboaaaDoorCipherRefXored
import Derived.Test.YtbhcjdpachboaaaDoorKeysBase5
import Derived.Lib.Strings
import Derived.Test.YtbhcjdpachboaaaDoorKeysBase1
import Derived.Test.YtbhcjdpachboaaaDoorKeysBase4
import Derived.Test.YtbhcjdpachboaaaDoorKeysBase3
import Derived.Deep.RegionHeld3
import Derived.Handy
namespace Go.Proofs.YtbhcjdpachboaaaDoor.Pl
open Go.RowKit

end Go.Proofs.YtbhcjdpachboaaaDoor.Pl

namespace Go.Proofs.YtbhcjdpachboaaaDoor.Pl
open Go.RowKit

theorem ext_size (x : ByteArray) (a b : Nat) (h : b ≤ x.size) : (x.extract a b).size = b - a := by
  simp [Nat.min_eq_left h]
theorem shown_nums (key y : ByteArray) : nums (shown key y) = hide (skey (nums key)) (nums (y.extract 0 12)) (nums (y.extract 12 y.size)) := by
  unfold shown
  exact nums_bytesOf (hide_bytes _ _ (nums_bytes _))
end Go.Proofs.YtbhcjdpachboaaaDoor.Pl

namespace Go.Proofs.YtbhcjdpachboaaaDoor.Pl
open Go.RowKit

def PartF (f : Nat → Nat) (l m : List Nat) (k : Nat) : Prop := m.length = l.length ∧ ∀ j, j < l.length → m.getD j 0 = if j < k then l.getD j 0 ^^^ f j else l.getD j 0
theorem PartF.zero (f : Nat → Nat) (l : List Nat) : PartF f l l 0 := ⟨rfl, fun j _ => by rw [if_neg (by omega)]⟩
theorem PartF.next {f : Nat → Nat} {l m : List Nat} {k y : Nat} (h : PartF f l m k) (hk : k < l.length) (hy : y = m.getD k 0 ^^^ f k) : PartF f l (m.set k y) (k + 1) := by
  refine ⟨by rw [List.length_set]; exact h.1, fun j hj => ?_⟩
  rw [set_getD _ _ _ _ (by rw [h.1]; exact hk), hy]
  by_cases e : j = k
  · rw [if_pos e, e, if_pos (by omega), h.2 k hk, if_neg (by omega)]
  · rw [if_neg e, h.2 j hj]
    by_cases h' : j < k
    · rw [if_pos h', if_pos (by omega)]
    · rw [if_neg h', if_neg (by omega)]
theorem PartF.all {f : Nat → Nat} {l m : List Nat} {k : Nat} (h : PartF f l m k) (hk : ∀ j, k ≤ j → j < l.length → f j = 0) : m = xorf l f := by
  apply listD_ext (by rw [h.1, xorf_length])
  intro i hi
  rw [h.1] at hi
  rw [h.2 i hi, xorf_at _ _ _ hi]
  by_cases h' : i < k
  · rw [if_pos h']
  · rw [if_neg h', hk i (by omega) hi, Nat.xor_zero]
end Go.Proofs.YtbhcjdpachboaaaDoor.Pl

namespace Go.Proofs.YtbhcjdpachboaaaDoor.Pl
open Go.RowKit

/-- The sealed form, as a text. -/
noncomputable def sealedT (key nonce s : ByteArray) : ByteArray := bytesOf (sealedL (nums key) (nums nonce) (nums s))
theorem sealedT_size (key nonce s : ByteArray) (h : nonce.size = 12) : (sealedT key nonce s).size = s.size + 44 := by
  rw [sealedT, bytesOf_size, sealedL_length, nums_length, nums_length, h]; omega
theorem sealedT_nums (key nonce s : ByteArray) : nums (sealedT key nonce s) = sealedL (nums key) (nums nonce) (nums s) := nums_bytesOf (sealedL_bytes _ (nums_bytes _) (nums_bytes _))
theorem sealedT_hid (key nonce s : ByteArray) (h : nonce.size = 12) : nums (hidOf (sealedT key nonce s)) = hiddenL (nums key) (nums nonce) (nums s) := by
  unfold hidOf
  rw [nums_extract, sealedT_nums, sealedT_size _ _ _ h, List.drop_zero, Nat.sub_zero, sealedL, List.take_append_of_le_length (by rw [hiddenL_length, nums_length, nums_length]; omega),
    List.take_of_length_le (by rw [hiddenL_length, nums_length, nums_length]; omega)]
theorem sealedT_tag (key nonce s : ByteArray) (h : nonce.size = 12) : nums (tagAt (sealedT key nonce s)) = tagOf (tkey (nums key)) (hiddenL (nums key) (nums nonce) (nums s)) := by
  unfold tagAt
  rw [nums_extract, sealedT_nums, sealedT_size _ _ _ h, sealedL, List.drop_left' (by rw [hiddenL_length, nums_length, nums_length]; omega), List.take_of_length_le (by rw [tagOf_length]; omega)]
theorem sealedT_fits (key nonce s : ByteArray) (h : nonce.size = 12) : Fits key (sealedT key nonce s) := by
  apply nums_inj
  rw [nums_bytesOf (tagOf_bytes _ _), sealedT_hid _ _ _ h, sealedT_tag _ _ _ h]
theorem sealedT_shown (key nonce s : ByteArray) (h : nonce.size = 12) : shown key (hidOf (sealedT key nonce s)) = s := by
  apply nums_inj
  have hl : (nums nonce).length = 12 := by rw [nums_length]; exact h
  have hz : (hidOf (sealedT key nonce s)).size = s.size + 12 := by unfold hidOf; rw [ext_size _ _ _ (Nat.sub_le _ _), sealedT_size _ _ _ h]; omega
  rw [shown_nums, nums_extract, nums_extract, sealedT_hid _ _ _ h, hiddenL, List.drop_zero, Nat.sub_zero, List.take_left' hl, List.drop_left' hl,
    List.take_of_length_le (by rw [hide_length, nums_length, hz]; omega), hide_hide]
end Go.Proofs.YtbhcjdpachboaaaDoor.Pl

namespace Go.Proofs.YtbhcjdpachboaaaDoor.Pl
open Go.RowKit

/-- The text of bytes. -/
def ba (l : List UInt8) : ByteArray := ⟨l.toArray⟩
theorem bl_ba (l : List UInt8) : bl (ba l) = l := by simp [bl, ba]
theorem ba_bl (s : ByteArray) : ba (bl s) = s := by simp [bl, ba]
theorem ba_size (l : List UInt8) : (ba l).size = l.length := by simp [ba, ByteArray.size]

open Classical in
/-- The sums, tags and seals of the document's standards, as plain bytes. -/
noncomputable def cryP : Cry where
  hash t := bl (bytesOf (digest (nums (ba t))))
  mac k t := bl (bytesOf (tagOf (nums (ba k)) (nums (ba t))))
  shut k n t := bl (sealedT (ba k) (ba n) (ba t))
  see k x := if 44 ≤ x.length ∧ Fits (ba k) (ba x) then some (bl (shown (ba k) (hidOf (ba x)))) else none
  hash_len t := by rw [bl_length, bytesOf_size, digest_length]
  mac_len k t := by rw [bl_length, bytesOf_size, tagOf_length]
  shut_len k n t := by rw [bl_length, sealedT, bytesOf_size, sealedL_length, nums_length, nums_length, ba_size, ba_size]
  see_shut k n t h _ := by
    have hn : (ba n).size = 12 := by rw [ba_size, h]
    rw [if_pos, ba_bl, sealedT_shown _ _ _ hn, bl_ba]
    refine ⟨?_, ?_⟩
    · rw [bl_length, sealedT_size _ _ _ hn]; omega
    · rw [ba_bl]; exact sealedT_fits _ _ _ hn
theorem cry_mac (k t : ByteArray) : cryP.mac (bl k) (bl t) = bl (bytesOf (tagOf (nums k) (nums t))) := by show bl (bytesOf (tagOf (nums (ba (bl k))) (nums (ba (bl t))))) = _; rw [ba_bl, ba_bl]
open Classical in
theorem cry_see_yes {k x : ByteArray} (h : 44 ≤ x.size) (hf : Fits k x) : cryP.see (bl k) (bl x) = some (bl (shown k (hidOf x))) := by
  show (if 44 ≤ (bl x).length ∧ Fits (ba (bl k)) (ba (bl x)) then some (bl (shown (ba (bl k)) (hidOf (ba (bl x))))) else none) = _
  rw [ba_bl, ba_bl, if_pos ⟨by rw [bl_length]; exact h, hf⟩]
open Classical in
theorem cry_see_no {k x : ByteArray} (h : ¬ (44 ≤ x.size ∧ Fits k x)) : cryP.see (bl k) (bl x) = none := by
  show (if 44 ≤ (bl x).length ∧ Fits (ba (bl k)) (ba (bl x)) then some (bl (shown (ba (bl k)) (hidOf (ba (bl x))))) else none) = _
  rw [ba_bl, ba_bl, bl_length, if_neg h]
end Go.Proofs.YtbhcjdpachboaaaDoor.Pl

namespace Go.Proofs.YtbhcjdpachboaaaDoor.Pl
open Go.RowKit

/-- The table is laid, and block q is a key that is ready, of the text m. -/
def Keyed (w : World) (q : Nat) (m : ByteArray) : Prop := Tab w ∧ KeyAt w q (nums m)
theorem Keyed.below {w w' : World} {q : Nat} {m : ByteArray} (h : Keyed w q m) (hb : Below w.heap.size w w') : Keyed w' q m := ⟨h.1.below hb, h.2.below hb⟩
end Go.Proofs.YtbhcjdpachboaaaDoor.Pl

namespace Go.Proofs.YtbhcjdpachboaaaDoor.Pl
open Go.RowKit

/-- Block g is a row of these texts, and perhaps more. -/
def Row8 (w : World) (g : Nat) (L : List ByteArray) : Prop := ∃ cur : Array Value, w.heap[g]? = some (.cells cur 9 (0, 0)) ∧ L.length ≤ cur.size ∧ ∀ j, j < L.length → cur[j]? = some (.string (L.getD j ByteArray.empty))
theorem Row8.lt {w : World} {g : Nat} {L : List ByteArray} (h : Row8 w g L) : g < w.heap.size := by obtain ⟨cur, h1, _⟩ := h; exact (Array.getElem?_eq_some_iff.1 h1).1
theorem Row8.cell {w : World} {g : Nat} {L : List ByteArray} (h : Row8 w g L) (j : Nat) (hj : j < L.length) : w.cell? ⟨g, j, none⟩ = some (.string (L.getD j ByteArray.empty)) := by
  obtain ⟨cur, h1, h2, h3⟩ := h
  have h4 := h3 j hj
  simp [World.cell?, h1, h4]
theorem Row8.frozen {w : World} {g : Nat} {L : List ByteArray} (h : Row8 w g L) (j : Nat) : w.frozen? ⟨g, j, none⟩ = false := by
  obtain ⟨cur, h1, _⟩ := h
  exact Lib.frozen_of_heap h1 j
theorem Row8.below {w w' : World} {g : Nat} {L : List ByteArray} (h : Row8 w g L) (b : Below w.heap.size w w') : Row8 w' g L := by
  obtain ⟨cur, h1, h2⟩ := h
  exact ⟨cur, heap_below b h1, h2⟩
theorem Row8.set {w : World} {g : Nat} {L : List ByteArray} (h : Row8 w g L) (k : Nat) (x : ByteArray) : Row8 (w.setCell ⟨g, k, none⟩ (.string x)) g (L.set k x) := by
  obtain ⟨cur, h1, h2, h3⟩ := h
  refine ⟨cur.setIfInBounds k (.string x), by simp [World.setCell, Array.getElem?_modify, h1], by simpa using h2, fun j hj => ?_⟩
  rw [List.length_set] at hj
  have hjc : j < cur.size := by omega
  rw [Array.getElem?_setIfInBounds, List.getD_eq_getElem?_getD, List.getElem?_set]
  by_cases e : k = j
  · subst e; simp [hjc, hj]
  · rw [if_neg e, if_neg e, h3 j hj, List.getD_eq_getElem?_getD]
/-- A row of these texts at ao, in a block from B on; or none, where there are none. -/
def RowO (W : World) (B : Nat) (ao : Option Addr) (L : List ByteArray) : Prop := L = [] ∨ ∃ g, ao = some ⟨g, 0, none⟩ ∧ B ≤ g ∧ Row8 W g L
theorem RowO.below {w w' : World} {B : Nat} {ao : Option Addr} {L : List ByteArray} (h : RowO w B ao L) (b : Below w.heap.size w w') : RowO w' B ao L :=
  h.elim .inl fun ⟨g, h1, h2, h3⟩ => .inr ⟨g, h1, h2, h3.below b⟩
theorem RowO.txt {w : World} {B : Nat} {ao : Option Addr} {L : List ByteArray} (h : RowO w B ao L) : TxtRow w ao L :=
  h.elim .inl fun ⟨g, h1, _, h3⟩ => .inr ⟨g, 0, h1, h3.lt, fun j hj => by rw [Nat.zero_add]; exact h3.cell j hj⟩
end Go.Proofs.YtbhcjdpachboaaaDoor.Pl

namespace Go.Proofs.YtbhcjdpachboaaaDoor.Pl
open Go.RowKit

end Go.Proofs.YtbhcjdpachboaaaDoor.Pl

namespace Go.Proofs.YtbhcjdpachboaaaDoor.Pl
open Go.RowKit

/-- Block p is a suite: of terms (b), or of bytes under the master m. -/
def SuiteAt (w : World) (p : Nat) (b : Bool) (m : ByteArray) : Prop :=
  Tab w ∧ ((b = true ∧ w.heap[p]? = some (.cells #[.iface 62 (.agg #[])] 66 (0, 0))) ∨
    (b = false ∧ ∃ q, w.heap[p]? = some (.cells #[.iface 70 (.agg #[.pointer (some ⟨q, 0, none⟩)])] 66 (0, 0)) ∧ KeyAt w q (nums m)))
theorem SuiteAt.below {w w' : World} {p : Nat} {b : Bool} {m : ByteArray} (h : SuiteAt w p b m) (hb : Below w.heap.size w w') : SuiteAt w' p b m :=
  ⟨h.1.below hb, h.2.elim (fun k => .inl ⟨k.1, heap_below hb k.2⟩) (fun ⟨k, q, h1, h2⟩ => .inr ⟨k, q, heap_below hb h1, h2.below hb⟩)⟩

end Go.Proofs.YtbhcjdpachboaaaDoor.Pl

namespace Go.Proofs.YtbhcjdpachboaaaDoor.Pl
open Go.RowKit

set_option maxRecDepth 100000 in
theorem new_terms (m : ByteArray) (w : World) (hT : Tab w) :
    Calls Tryd.prog 24 #[.int .u8 1, .string m] w fun e w' => (∃ p, e = .returned (.tuple #[.pointer (some ⟨p, 0, none⟩), .int .i64 0]) ∧ SuiteAt w' p true m) ∧ Below w.heap.size w w' := by
  have HT := Lib.hid hT
  clear hT
  go_enter Tryd.func24, Tryd.ntmps24
  go_wp2_with fail
  go_ret2
  have A0 := (Below.refl w.heap.size w).alloc (Nat.le_refl _) (.cells #[.iface 62 (.agg #[])] 66)
  exact ⟨⟨_, rfl, HT.out.below A0, .inl ⟨rfl, Go.heap_alloc_new w _⟩⟩, A0⟩
set_option maxRecDepth 100000 in
theorem new_bytes (m : ByteArray) (h1 : 1 ≤ m.size) (h2 : m.size ≤ 64) (w : World) (hT : Tab w) :
    Calls Tryd.prog 24 #[.int .u8 2, .string m] w fun e w' => (∃ p, e = .returned (.tuple #[.pointer (some ⟨p, 0, none⟩), .int .i64 0]) ∧ SuiteAt w' p false m) ∧ Below w.heap.size w w' := by
  have HT := Lib.hid hT
  have HN := Lib.hid (hnew_any m (by omega) w hT)
  have q1 : (0 : Int) < (m.size : Int) := by omega
  have q2 : (m.size : Int) ≤ 64 := by omega
  clear hT h1 h2
  go_enter Tryd.func24, Tryd.ntmps24
  go_wp2_with fail
  refine HN.out.mono ?_; rintro e w1 ⟨g, rfl, hk, hg, b1⟩
  have HK := Lib.hid hk
  have B1 := Lib.hid b1
  clear hk hg b1
  go_wp2_with fail
  go_ret2
  have A0 := (Below.refl w1.heap.size w1).alloc (Nat.le_refl _) (.cells #[.iface 70 (.agg #[.pointer (some ⟨g, 0, none⟩)])] 66)
  exact ⟨⟨_, rfl, (HT.out.below B1.out).below A0, .inr ⟨rfl, g, Go.heap_alloc_new w1 _, HK.out.below A0⟩⟩, below_step B1.out A0⟩
set_option maxRecDepth 100000 in
theorem new_none (k : Nat) (m : ByteArray) (h1 : k ≠ 1) (h2 : ¬ (k = 2 ∧ 1 ≤ m.size ∧ m.size ≤ 64)) (w : World) :
    Calls Tryd.prog 24 #[.int .u8 k, .string m] w fun e w' => e = .returned (.tuple #[.pointer none, .int .i64 2]) ∧ w = w' := by
  have q1 : ((k : Int) == 1) = false := by rw [beq_eq_false_iff_ne]; omega
  by_cases hk : k = 2
  · subst hk
    by_cases h3 : 1 ≤ m.size
    · have q2 : (0 : Int) < (m.size : Int) := by omega
      have q3 : ¬ (m.size : Int) ≤ 64 := by omega
      clear h1 h2 h3 q1
      go_enter Tryd.func24, Tryd.ntmps24
      go_wp2_with fail
      go_ret2
      exact ⟨rfl, rfl⟩
    · have q2 : ¬ (0 : Int) < (m.size : Int) := by omega
      clear h1 h2 h3 q1
      go_enter Tryd.func24, Tryd.ntmps24
      go_wp2_with fail
      go_ret2
      exact ⟨rfl, rfl⟩
  · have q2 : ((k : Int) == 2) = false := by rw [beq_eq_false_iff_ne]; omega
    clear h1 h2 hk
    go_enter Tryd.func24, Tryd.ntmps24
    go_wp2_with fail
    go_ret2
    exact ⟨rfl, rfl⟩
end Go.Proofs.YtbhcjdpachboaaaDoor.Pl

namespace Go.Proofs.YtbhcjdpachboaaaDoor.Pl
open Go.RowKit

theorem cat_size (n : ByteArray) : (⟨#[107, 101, 121, 32]⟩ ++ n : ByteArray).size = 4 + n.size := by rw [ByteArray.size_append]; rfl
set_option maxRecDepth 100000 in
theorem rkey8_any (k : Nat) (m name : ByteArray) (hm : m.size ≤ 1000) (hn : name.size ≤ 20000) (w : World) :
    Calls Tryd.prog 37 #[suiteV k m, .string name] w fun e w' => e = .returned (st2 (keyP cryP (k == 1) (bl m) (bl name))) ∧ Below w.heap.size w w' := by
  obtain ⟨K, hK⟩ : ∃ K : ByteArray, K = ⟨#[107, 101, 121, 32]⟩ ++ name := ⟨_, rfl⟩
  have hs : K.size ≤ 800000 := by rw [hK, cat_size]; omega
  have hb : ([107, 101, 121, 32] ++ bl name : List UInt8) = bl K := by rw [hK, bl_cat]; rfl
  have H := rkey8_by cryP k m name hn
  rw [← hK, hb, cry_mac, ← bl_eq] at H
  exact H (fun V => reftag_any m K (by omega) hs V) w
end Go.Proofs.YtbhcjdpachboaaaDoor.Pl
