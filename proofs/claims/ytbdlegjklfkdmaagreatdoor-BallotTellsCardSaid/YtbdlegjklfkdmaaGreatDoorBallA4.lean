/- More of what suites make of plain bytes: what a datum says, what a seal's parts are, images of trees; plain mathematics alone. Images of rows of trees, part by part; how long they are; plain mathematics alone. SHA-256 over plain numbers: the words of a block, a round, a block, a text. What sha.process answers. What sha.joined answers. A Hash in memory, and what sha.New, Len, Copy answer. The hash of a text over plain numbers: block by block, and what waits. Hexadecimal digits; an index into a text; plain facts. What hmac.Same answers: whether two texts are equal. What hmac.Same answers, under a name of its own. What a law's statement asks behind its walk: the one result is true, and each argument reads as it did, where below the heap's old size nothing has turned. Whatever the parameters' types are. -/
import Derived.Test.YtbdlegjklfkdmaaGreatDoorBallA2
import Derived.Test.YtbdlegjklfkdmaaGreatDoorBallA1
import Derived.Test.YtbdlegjklfkdmaaGreatDoorBallA3
import Derived.Laws.BitsAllLaws
import Derived.Test.YtbdlegjklfkdmaaGreatDoorProg
import Derived.WalkKit
import Derived.Outline
import Derived.Handy
import Derived.Lib.Hide
import Derived.BigRegion
import Derived.BigQuiet
import Derived.Deep.QuietTactic
import Derived.LoopTactic
import Derived.Laws.IdiomStrings
import Derived.Deep.MidRow
import Derived.Laws.CopyRow
import Derived.IntWalk
import Derived.Deep.RegionLaw
import Derived.Deep.AppendLies
import Derived.ProofKit
import Derived.OpenShut
import Derived.Carry
import Derived.ChangeOld
namespace Go.Proofs.YtbdlegjklfkdmaaGreatDoor.Pl
open Go.RowKit

theorem mac8_terms (c : Cry) (k t : List UInt8) : mac8P c true k t = madeP [109] [k, t] := by
  unfold mac8P
  by_cases h : checkP k = 0 ∧ checkP t = 0
  · simp [h]
  · have h' : checkP k ≠ 0 ∨ checkP t ≠ 0 := by
      by_cases h1 : checkP k = 0
      · exact .inr (fun h2 => h ⟨h1, h2⟩)
      · exact .inl h1
    rcases h' with h' | h' <;> simp [h', madeP]
theorem key8_terms (c : Cry) (m name : List UInt8) : keyP c true m name = atomP name := by simp [keyP]
end Go.Proofs.YtbdlegjklfkdmaaGreatDoor.Pl

namespace Go.Proofs.YtbdlegjklfkdmaaGreatDoor.Pl
open Go.RowKit

theorem data_short {s : List UInt8} (h : s.length ≤ 1024) : (dataP s).1.length ≤ 16384 := by
  unfold dataP
  rw [if_neg (by omega)]
  have := txt_most h
  simp only [List.length_cons]
  omega
theorem dataP_short (s : List UInt8) : (dataP s).1.length ≤ 16384 := by
  by_cases h : s.length ≤ 1024
  · exact data_short h
  · unfold dataP; rw [if_pos (by omega)]; exact Nat.zero_le _
theorem atomP_short (s : List UInt8) : (atomP s).1.length ≤ 16384 := by
  unfold atomP
  split
  · exact Nat.zero_le _
  · split
    · exact Nat.zero_le _
    · have := txt_most (t := s) (by omega)
      simp only [List.length_cons]
      omega
theorem madeP_short (f : List UInt8) (l : List (List UInt8)) : (madeP f l).1.length ≤ 16384 := by
  unfold madeP
  split
  · split
    · rename_i h; exact check_len h
    · exact Nat.zero_le _
  · exact Nat.zero_le _
theorem key_short (c : Cry) (b : Bool) (m n : List UInt8) : (keyP c b m n).1.length ≤ 16384 := by
  unfold keyP
  split
  · exact atomP_short _
  · exact dataP_short _
theorem mac_short (c : Cry) (b : Bool) (k t : List UInt8) : (mac8P c b k t).1.length ≤ 16384 := by
  unfold mac8P
  split
  · exact Nat.zero_le _
  · split
    · exact madeP_short _ _
    · exact dataP_short _
end Go.Proofs.YtbdlegjklfkdmaaGreatDoor.Pl

namespace Go.Proofs.YtbdlegjklfkdmaaGreatDoor.Pl

/-- x turned right by n bits. -/
def rr (n x : Nat) : Nat := x * 2 ^ (32 - n) % 4294967296 ||| x / 2 ^ n
def add32 (a b : Nat) : Nat := (a + b) % 4294967296
/-- Four bytes as a word. -/
def be (a b c d : Nat) : Nat := a * 16777216 ||| b * 65536 ||| c * 256 ||| d
def sg0 (x : Nat) : Nat := rr 7 x ^^^ rr 18 x ^^^ x / 8
def sg1 (x : Nat) : Nat := rr 17 x ^^^ rr 19 x ^^^ x / 1024
def wnext (a b c d : Nat) : Nat := add32 (add32 (add32 a (sg0 b)) c) (sg1 d)

/-- The first 16 + k words of a block. -/
def sched (B : List Nat) : Nat → List Nat
  | 0 => (List.range 16).map fun t => be (B.getD (4 * t) 0) (B.getD (4 * t + 1) 0) (B.getD (4 * t + 2) 0) (B.getD (4 * t + 3) 0)
  | k + 1 => sched B k ++ [wnext ((sched B k).getD k 0) ((sched B k).getD (k + 1) 0) ((sched B k).getD (k + 9) 0) ((sched B k).getD (k + 14) 0)]
/-- A value that nothing looks into but by its equation. -/
noncomputable def shut {α : Type} (x : α) : α := Classical.choose (⟨x, rfl⟩ : ∃ y, y = x)
/-- The words of a block. -/
noncomputable def wds (B : List Nat) : List Nat := shut (sched B 48)
/-- The numbers K(0) to K(63). -/
def KL : List Nat := [1116352408, 1899447441, 3049323471, 3921009573, 961987163, 1508970993, 2453635748, 2870763221, 3624381080, 310598401, 607225278, 1426881987, 1925078388, 2162078206, 2614888103, 3248222580, 3835390401, 4022224774, 264347078, 604807628, 770255983, 1249150122, 1555081692, 1996064986, 2554220882, 2821834349, 2952996808, 3210313671, 3336571891, 3584528711, 113926993, 338241895, 666307205, 773529912, 1294757372, 1396182291, 1695183700, 1986661051, 2177026350, 2456956037, 2730485921, 2820302411, 3259730800, 3345764771, 3516065817, 3600352804, 4094571909, 275423344, 430227734, 506948616, 659060556, 883997877, 958139571, 1322822218, 1537002063, 1747873779, 1955562222, 2024104815, 2227730452, 2361852424, 2428436474, 2756734187, 3204031479, 3329325298]
/-- The eight numbers of a state. -/
structure S8 where
  (a b c d e f g h : Nat)
def S8.list (s : S8) : List Nat := [s.a, s.b, s.c, s.d, s.e, s.f, s.g, s.h]
def S8.fits (s : S8) : Prop := s.a < 4294967296 ∧ s.b < 4294967296 ∧ s.c < 4294967296 ∧ s.d < 4294967296 ∧ s.e < 4294967296 ∧ s.f < 4294967296 ∧ s.g < 4294967296 ∧ s.h < 4294967296
def Sg1 (e : Nat) : Nat := rr 6 e ^^^ rr 11 e ^^^ rr 25 e
def Sg0 (a : Nat) : Nat := rr 2 a ^^^ rr 13 a ^^^ rr 22 a
def ch (e f g : Nat) : Nat := (e &&& f) ^^^ ((4294967295 - e) &&& g)
def mj (a b c : Nat) : Nat := (a &&& b) ^^^ (a &&& c) ^^^ (b &&& c)
def T1 (e f g h k x : Nat) : Nat := (h + Sg1 e + ch e f g + k + x) % 4294967296
def T2 (a b c : Nat) : Nat := (Sg0 a + mj a b c) % 4294967296
def rnd (k x : Nat) (s : S8) : S8 := ⟨add32 (T1 s.e s.f s.g s.h k x) (T2 s.a s.b s.c), s.a, s.b, s.c, add32 s.d (T1 s.e s.f s.g s.h k x), s.e, s.f, s.g⟩
/-- The state behind t rounds of a block with the words l. -/
def rn (l : List Nat) (s : S8) : Nat → S8
  | 0 => s
  | t + 1 => rnd (KL.getD t 0) (l.getD t 0) (rn l s t)
noncomputable def rnAll (l : List Nat) (s : S8) : S8 := shut (rn l s 64)
/-- The state behind a block. -/
noncomputable def proc (s : S8) (B : List Nat) : S8 :=
  ⟨add32 s.a (rnAll (wds B) s).a, add32 s.b (rnAll (wds B) s).b, add32 s.c (rnAll (wds B) s).c, add32 s.d (rnAll (wds B) s).d, add32 s.e (rnAll (wds B) s).e, add32 s.f (rnAll (wds B) s).f, add32 s.g (rnAll (wds B) s).g, add32 s.h (rnAll (wds B) s).h⟩
end Go.Proofs.YtbdlegjklfkdmaaGreatDoor.Pl

namespace Go.Proofs.YtbdlegjklfkdmaaGreatDoor.Pl
open Go.RowKit
/-- The table of the numbers K lies where the program's text lays it. -/
def Tab (w : World) : Prop := 1 < w.heap.size ∧ ∀ j, j < 64 → w.cell? ⟨1, j, none⟩ = some (.int .u32 ((KL.getD j 0 : Nat) : Int))
theorem Tab.below {w w' : World} (h : Tab w) (hb : Below w.heap.size w w') : Tab w' :=
  ⟨Nat.lt_of_lt_of_le h.1 hb.size, fun j hj => by rw [hb.cell (p := ⟨1, j, none⟩) h.1]; exact h.2 j hj⟩

end Go.Proofs.YtbdlegjklfkdmaaGreatDoor.Pl

namespace Go.Proofs.YtbdlegjklfkdmaaGreatDoor.Pl
open Go.RowKit

def bytesOf (l : List Nat) : ByteArray := ⟨(l.map UInt8.ofNat).toArray⟩
theorem add_none (b o j : Nat) : (⟨b, o, none⟩ : Addr).add j = ⟨b, o + j, none⟩ := by unfold Addr.add; split <;> simp_all
theorem back_string (w : World) (b o cap : Nat) (l : List Nat) (hl : ∀ j, l.getD j 0 < 256) (hc : ∀ j, j < l.length → w.cell? ⟨b, o + j, none⟩ = some (.int .u8 ((l.getD j 0 : Nat) : Int))) :
    (convert 121 9 (.slice (some ⟨b, o, none⟩) l.length cap)).run Tryz.prog w = .ok (.string (bytesOf l)) w := by
  have h := run_convert_bytes_back (P := Tryz.prog) w 121 9 5 ⟨b, o, none⟩ cap (l.map UInt8.ofNat) Tryz.underlying121 Tryz.underlying5 Tryz.underlying9 (fun j hj => by
    rw [add_none]
    have hj' : j < l.length := by simpa using hj
    rw [hc j hj']
    have h1 := hl j
    rw [List.getD_eq_getElem?_getD, List.getElem?_eq_getElem hj', Option.getD_some] at h1
    have h3 : ((l.map UInt8.ofNat)[j]).toNat = l[j] := by simp; omega
    rw [h3, List.getD_eq_getElem?_getD, List.getElem?_eq_getElem hj', Option.getD_some])
  simpa [bytesOf] using h

end Go.Proofs.YtbdlegjklfkdmaaGreatDoor.Pl

namespace Go.Proofs.YtbdlegjklfkdmaaGreatDoor.Pl
open Go.RowKit

/-- The cells of a Hash: its state, the bytes that wait, the size. -/
def hcells (s : S8) (wt : List Nat) (n : Nat) : Array Value := ((s.list.map fun (x : Nat) => Value.int .u32 (x : Int)) ++ (wt.map fun (x : Nat) => Value.int .u8 (x : Int)) ++ [Value.int .u64 (n : Int)]).toArray
/-- Block b is a Hash with these parts. -/
def HashAt (w : World) (b : Nat) (s : S8) (wt : List Nat) (n : Nat) : Prop := w.heap[b]? = some (.cells (hcells s wt n) 163 (0, 0)) ∧ wt.length = 64
theorem hcells_size {s : S8} {wt : List Nat} (n : Nat) (h : wt.length = 64) : (hcells s wt n).size = 73 := by simp [hcells, S8.list, h]
theorem HashAt.size {w : World} {b : Nat} {s : S8} {wt : List Nat} {n : Nat} (h : HashAt w b s wt n) : w.cell? ⟨b, 72, none⟩ = some (.int .u64 (n : Int)) ∧ w.frozen? ⟨b, 72, none⟩ = false := by
  refine ⟨?_, frozen_of_row w b 72 _ _ h.1⟩
  rw [cell_of_row w b 72 _ _ (0, 0) h.1]
  simp [hcells, S8.list, h.2]
theorem HashAt.lt {w : World} {b : Nat} {s : S8} {wt : List Nat} {n : Nat} (h : HashAt w b s wt n) : b < w.heap.size := (Array.getElem?_eq_some_iff.1 h.1).1
theorem HashAt.below {w w' : World} {b : Nat} {s : S8} {wt : List Nat} {n : Nat} (h : HashAt w b s wt n) (hb : Below w.heap.size w w') : HashAt w' b s wt n := ⟨heap_below hb h.1, h.2⟩
theorem HashAt.state {w : World} {b : Nat} {s : S8} {wt : List Nat} {n : Nat} (h : HashAt w b s wt n) : w.rangeAt b 0 (s.list.map fun (x : Nat) => Value.int .u32 (x : Int)) := by
  intro j v hv
  have hj : j < 8 := by have := (List.getElem?_eq_some_iff.1 hv).1; simpa [S8.list] using this
  rw [cell_of_row w b (0 + j) _ _ (0, 0) h.1, ← hv, Nat.zero_add]
  simp only [hcells, List.getElem?_toArray]
  rw [List.append_assoc, List.getElem?_append_left (by simpa [S8.list] using hj)]
theorem HashAt.wait {w : World} {b : Nat} {s : S8} {wt : List Nat} {n : Nat} (h : HashAt w b s wt n) : w.rangeAt b 8 (wt.map fun (x : Nat) => Value.int .u8 (x : Int)) := by
  intro j v hv
  have hj : j < 64 := by have := (List.getElem?_eq_some_iff.1 hv).1; simpa [h.2] using this
  rw [cell_of_row w b (8 + j) _ _ (0, 0) h.1, ← hv]
  simp only [hcells, List.getElem?_toArray]
  rw [List.append_assoc, List.getElem?_append_right (by simp [S8.list]), List.getElem?_append_left (by simp [S8.list, h.2]; omega)]
  congr 1
  simp [S8.list]
theorem HashAt.there {w : World} {b : Nat} {s : S8} {wt : List Nat} {n : Nat} (h : HashAt w b s wt n) (o k : Nat) (hk : o + k ≤ 73) : w.there b o k := by
  intro j hj
  refine ⟨?_, frozen_of_row w b _ _ _ h.1⟩
  rw [cell_of_row w b (o + j) _ _ (0, 0) h.1]
  have : o + j < (hcells s wt n).size := by rw [hcells_size n h.2]; omega
  simp [this]
/-- The state to begin with. -/
def S0 : S8 := ⟨1779033703, 3144134277, 1013904242, 2773480762, 1359893119, 2600822924, 528734635, 1541459225⟩
end Go.Proofs.YtbdlegjklfkdmaaGreatDoor.Pl

namespace Go.Proofs.YtbdlegjklfkdmaaGreatDoor.Pl
open Go.RowKit

/-- The state behind the first k blocks of m. -/
noncomputable def ab (m : List Nat) : Nat → S8
  | 0 => S0
  | k + 1 => proc (ab m k) ((m.drop (64 * k)).take 64)
/-- The bytes that wait for a whole block. -/
def tail (m : List Nat) : List Nat := m.drop (64 * (m.length / 64))
/-- The state behind the whole blocks of m. -/
noncomputable def st (m : List Nat) : S8 := ab m (m.length / 64)
/-- Numbers that are bytes. -/
def Bytes (m : List Nat) : Prop := ∀ x ∈ m, x < 256
theorem Bytes.at {m : List Nat} (h : Bytes m) (j : Nat) : m.getD j 0 < 256 := by
  by_cases hj : j < m.length
  · rw [List.getD_eq_getElem?_getD, List.getElem?_eq_getElem hj]; exact h _ (List.getElem_mem hj)
  · rw [List.getD_eq_getElem?_getD, List.getElem?_eq_none (by omega)]; decide
theorem Bytes.append {m c : List Nat} (h : Bytes m) (k : Bytes c) : Bytes (m ++ c) := by
  intro x hx; rcases List.mem_append.1 hx with hx | hx
  · exact h x hx
  · exact k x hx
theorem Bytes.take {m : List Nat} (h : Bytes m) (n : Nat) : Bytes (m.take n) := fun x hx => h x (List.mem_of_mem_take hx)
theorem Bytes.drop {m : List Nat} (h : Bytes m) (n : Nat) : Bytes (m.drop n) := fun x hx => h x (List.mem_of_mem_drop hx)
/-- The bytes of a text. -/
def nums (s : ByteArray) : List Nat := s.data.toList.map UInt8.toNat
theorem nums_bytes (s : ByteArray) : Bytes (nums s) := by
  intro x hx
  obtain ⟨c, _, rfl⟩ := List.mem_map.1 hx
  exact c.toNat_lt
theorem nums_length (s : ByteArray) : (nums s).length = s.size := by rw [nums, List.length_map]; rfl

/-- The size in bits, as eight bytes. -/
def lenAt (n j : Nat) : Nat := n * 8 / 2 ^ (8 * (7 - j)) % 256
def lenB (n : Nat) : List Nat := (List.range 8).map (lenAt n)
/-- What waits, the byte 128, and bytes 0 up to 64. -/
def base (m : List Nat) : List Nat := tail m ++ 128 :: List.replicate (63 - m.length % 64) 0
/-- The state behind the padded text. -/
noncomputable def fin (m : List Nat) : S8 :=
  if 56 ≤ m.length % 64 then proc (proc (st m) (base m)) (List.replicate 56 0 ++ lenB m.length) else proc (st m) ((base m).take 56 ++ lenB m.length)
theorem Bytes.base {m : List Nat} (h : Bytes m) : Bytes (base m) := by
  refine Bytes.append (h.drop _) ?_
  intro x hx
  rcases List.mem_cons.1 hx with rfl | hx
  · decide
  · rw [List.eq_of_mem_replicate hx]; decide
end Go.Proofs.YtbdlegjklfkdmaaGreatDoor.Pl

namespace Go.Proofs.YtbdlegjklfkdmaaGreatDoor.Pl
open Go.RowKit

/-- The hexadecimal digit of a number below 16. -/
def dg (x : Nat) : Nat := if x < 10 then 48 + x else 87 + x
theorem str_index (s : ByteArray) (k c : Nat) (hk : k < s.size) (hc : c = (nums s).getD k 0) (V : World) : (Instr.index 9 (.string s) (.int .i64 (k : Int))).run Tryz.prog V = .ok (.int .u8 (c : Int)) V := by
  rw [run_index_string V 9 s .i64 k Tryz.underlying9, dif_pos ⟨by omega, by omega⟩, hc]
  congr 2
  have hk' : k < s.data.toList.length := by simpa using hk
  simp only [nums, List.getD_eq_getElem?_getD, List.getElem?_map, List.getElem?_eq_getElem hk', Option.map_some, Option.getD_some, Int.toNat_natCast]
  rfl
end Go.Proofs.YtbdlegjklfkdmaaGreatDoor.Pl

namespace Go.Proofs.YtbdlegjklfkdmaaGreatDoor.Pl
open Go.RowKit

/-- What has differed in the first k numbers. -/
def dif (l m : List Nat) : Nat → Nat
  | 0 => 0
  | k + 1 => dif l m k ||| (l.getD k 0 ^^^ m.getD k 0)
theorem or_zero (a b : Nat) : a ||| b = 0 ↔ a = 0 ∧ b = 0 := by
  constructor
  · intro h
    constructor
    · apply Nat.eq_of_testBit_eq; intro i
      have := congrArg (fun x => x.testBit i) h
      simp only [Nat.testBit_or, Nat.zero_testBit, Bool.or_eq_false_iff] at this
      rw [this.1, Nat.zero_testBit]
    · apply Nat.eq_of_testBit_eq; intro i
      have := congrArg (fun x => x.testBit i) h
      simp only [Nat.testBit_or, Nat.zero_testBit, Bool.or_eq_false_iff] at this
      rw [this.2, Nat.zero_testBit]
  · rintro ⟨rfl, rfl⟩; rfl
theorem xor_zero (a b : Nat) : a ^^^ b = 0 ↔ a = b := by
  constructor
  · intro h
    apply Nat.eq_of_testBit_eq; intro i
    have := congrArg (fun x => x.testBit i) h
    simp only [Nat.testBit_xor, Nat.zero_testBit] at this
    cases h1 : a.testBit i <;> cases h2 : b.testBit i <;> simp_all
  · rintro rfl; exact Nat.xor_self a
theorem dif_lt {l m : List Nat} (hl : Bytes l) (hm : Bytes m) (k : Nat) : dif l m k < 256 := by
  induction k with
  | zero => exact (by decide : (0 : Nat) < 256)
  | succ k ih => exact Nat.or_lt_two_pow (n := 8) ih (Nat.xor_lt_two_pow (n := 8) (hl.at k) (hm.at k))
theorem dif_zero {l m : List Nat} (k : Nat) : dif l m k = 0 ↔ ∀ j, j < k → l.getD j 0 = m.getD j 0 := by
  induction k with
  | zero => exact ⟨fun _ j hj => absurd hj (by omega), fun _ => rfl⟩
  | succ k ih =>
    rw [dif, or_zero, xor_zero, ih]
    constructor
    · rintro ⟨h1, h2⟩ j hj
      by_cases e : j = k
      · subst e; exact h2
      · exact h1 j (by omega)
    · exact fun h => ⟨fun j hj => h j (by omega), h k (by omega)⟩
theorem nums_inj {a b : ByteArray} (h : nums a = nums b) : a = b := by
  apply ByteArray.ext
  apply Array.ext'
  exact (List.map_inj_right (fun x y hxy => UInt8.toNat_inj.1 hxy)).1 h
theorem dif_all {a b : ByteArray} (h : a.size = b.size) : dif (nums a) (nums b) a.size = 0 ↔ a = b := by
  rw [dif_zero]
  constructor
  · exact fun k => nums_inj (getD_ext (by rw [nums_length, nums_length, h]) (fun i hi => k i (by rwa [nums_length] at hi)))
  · rintro rfl j _; rfl
end Go.Proofs.YtbdlegjklfkdmaaGreatDoor.Pl

namespace Go.Proofs.YtbdlegjklfkdmaaGreatDoor.Pl
open Go.RowKit

set_option maxRecDepth 100000 in
theorem hsame_any (a b : ByteArray) (hn : a.size ≤ 1000000) (w : World) (r : Bool) (hr : r = decide (a = b)) :
    Calls Tryz.prog 102 #[.string a, .string b] w fun e w' => e = .returned (.bool r) ∧ Below w.heap.size w w' := by
  have HR := Lib.hid hr
  clear hr
  by_cases hsz : a.size = b.size
  · have HSZ := Lib.hid hsz
    have e1 : ((a.size : Int) != (b.size : Int)) = false := by rw [hsz]; simp
    obtain ⟨n, en⟩ : ∃ n, n = a.size := ⟨_, rfl⟩
    have EN := Lib.hid en
    clear hsz en
    go_enter Tryz.func102, Tryz.ntmps102
    go_wp2_with fail
    go_loopw [5, 14] (fun d i wr => ∃ k x : Nat, k ≤ a.size ∧ i = .int .i64 k ∧ d = .int .u8 x ∧ Hid (x = dif (nums a) (nums b) k) ∧ Hid (Below w.heap.size w wr)) (fun _ i _ => a.size - (intOf i).toNat)
    case atStart => exact ⟨0, 0, by omega, rfl, rfl, Lib.hid rfl, Lib.hid (Below.refl _ _)⟩
    case round =>
      obtain ⟨k, x, hk, rfl, rfl, hx, hbw⟩ := hrel
      by_cases hlt : k < a.size
      · obtain ⟨c, ec⟩ : ∃ c : Nat, c = (nums a).getD k 0 := ⟨_, rfl⟩
        obtain ⟨d, ed⟩ : ∃ d : Nat, d = (nums b).getD k 0 := ⟨_, rfl⟩
        have i1 : ∀ V : World, (Instr.index 9 (.string a) (.int .i64 (k : Int))).run Tryz.prog V = .ok (.int .u8 (c : Int)) V := str_index a k c hlt ec
        have i2 : ∀ V : World, (Instr.index 9 (.string b) (.int .i64 (k : Int))).run Tryz.prog V = .ok (.int .u8 (d : Int)) V := str_index b k d (by rw [← HSZ.out]; exact hlt) ed
        have hc : c < 256 := by rw [ec]; exact (nums_bytes a).at k
        have hd : d < 256 := by rw [ed]; exact (nums_bytes b).at k
        have hx' : x < 256 := by rw [hx.out]; exact dif_lt (nums_bytes a) (nums_bytes b) k
        have b1 : bits .xor .u8 (c : Int) (d : Int) = ((c ^^^ d : Nat) : Int) := u8_xor_nat c d hc hd
        have b2 : bits .or .u8 (x : Int) ((c ^^^ d : Nat) : Int) = ((x ||| (c ^^^ d) : Nat) : Int) := u8_or_nat x _ hx' (Nat.xor_lt_two_pow (n := 8) hc hd)
        have hz : x ||| (c ^^^ d) = dif (nums a) (nums b) (k + 1) := by rw [dif, ← ec, ← ed, ← hx.out]
        generalize x ||| (c ^^^ d) = z at b2 hz
        generalize c ^^^ d = y at b1 b2
        have HZ := Lib.hid hz
        clear hz hc hd hx'
        have HC := Lib.hid ec
        have HD := Lib.hid ed
        clear ec ed
        go_wp2_with fail
        go_quiet (fail)
        go_wp2
        exact ⟨⟨k + 1, z, by omega, by go_num, by simp, HZ, Lib.hid (below_drewN hbw.out _)⟩, by simp [intOf]; omega⟩
      · obtain rfl : k = a.size := by omega
        have q : ((x : Int) == 0) = r := by
          rw [HR.out]
          have h := dif_all HSZ.out
          rw [← hx.out] at h
          by_cases e : a = b
          · rw [decide_eq_true e, beq_iff_eq]; have := h.2 e; omega
          · rw [decide_eq_false e, beq_eq_false_iff_ne]; intro e0; exact e (h.1 (by omega))
        have HQ := Lib.hid hbw
        clear hx hbw
        go_wp2
        go_ret
        exact ⟨rfl, HQ.out.out⟩
  · have e1 : ((a.size : Int) != (b.size : Int)) = true := by simp; omega
    have HN : Hid (decide (a = b) = false) := Lib.hid (decide_eq_false (fun e => hsz (by rw [e])))
    clear hsz
    go_enter Tryz.func102, Tryz.ntmps102
    go_wp2_with fail
    go_ret
    exact ⟨by rw [HR.out, HN.out]; rfl, Below.refl _ _⟩
end Go.Proofs.YtbdlegjklfkdmaaGreatDoor.Pl

namespace Go.Proofs.YtbdlegjklfkdmaaGreatDoor.Pl
open Go.RowKit Go.ChangeShapes Go.WideShapes

/-- Each of these types can be read, and is a row of the table. -/
def typesRowed (P : Program) (ts : List TypeId) : Bool := ts.all fun t => P.readableRec t && decide (t < P.types.size)

theorem trodAll_later {H : Type} {enc : TypeId × Value → H} {P : Program} (hl : laidOutB P = true) {W W' : World} (hb : Below W.heap.size W W') :
    ∀ {ts : List TypeId} {vs : List Value} {ds : List (DataW H)} {ps : List MemPlace}, typesRowed P ts = true →
      DataW.TrodAll enc P W 0 (fun _ => true) true ts vs ds ps → DataW.TrodAll enc P W' 0 (fun b => decide (b < W.heap.size)) true ts vs ds ps
  | [], [], [], _, _, h => h
  | t :: ts, v :: vs, d :: ds, ps, ht, h => by
    have hlt := h.lt
    obtain ⟨p, q, h1, h2, e⟩ := h
    simp only [typesRowed, List.all_cons, Bool.and_eq_true, decide_eq_true_eq] at ht
    exact ⟨p, q, Below.trod hl ht.1.1 ht.1.2 h1 hb (fun x hx => hlt x (by rw [e]; simp [hx])), trodAll_later hl hb ht.2 h2, e⟩
  | [], [], _ :: _, _, _, h => h.elim
  | [], _ :: _, _, _, _, h => h.elim
  | _ :: _, [], _, _, _, h => h.elim
  | _ :: _, _ :: _, [], _, _, h => h.elim

/-- The law's post: the result is true, the arguments read as they did. -/
theorem law_post {H : Type} {enc : TypeId × Value → H} {P : Program} {f : Func} {s : ChangeSpec} {W W' : World} {args : Array Value} {ds gs : List (DataW H)} {before : List MemPlace} {T : TypeId}
    (hl : laidOutB P = true) (ht : typesRowed P f.params.toList = true) (hT : P.underlying T = some .bool) (hr : f.resultTypes = #[T]) (hv : s.vars = [])
    (hW : DataW.Whole enc P f.params.toList s.vars false W args.toList ds gs before) (hb : Below W.heap.size W W')
    (h1 : (s.fn H (ds ++ gs)).results = [.lit (.bool true)]) (h2 : (s.fn H (ds ++ gs)).args = ds) (h3 : (s.fn H (ds ++ gs)).vars = []) :
    s.post enc P f false true false false W args (.bool true) W' := by
  have hW' := hW
  obtain ⟨p, q, hA, hV, hps, _, _⟩ := hW'
  rw [hv] at hV
  obtain ⟨rfl, rfl⟩ := trodVars_none hV
  refine ⟨ds, [], before, [], p, [], hW, ?_, ?_, ?_, World.keptBut_mono (fun x hx => hx.elim) (hb.frame (fun _ => False)), fun h => by cases h⟩
  · rw [h1, hr]
    exact trodAll_mk1 (shut_bool hT true)
  · rw [h2]
    exact trodAll_later hl hb ht hA
  · rw [h3, hv]
    rfl
end Go.Proofs.YtbdlegjklfkdmaaGreatDoor.Pl
