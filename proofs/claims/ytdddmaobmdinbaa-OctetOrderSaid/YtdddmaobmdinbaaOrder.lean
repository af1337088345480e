/- OctetOrder answers true, whatever it is given. -/
import Derived.Test.YtdddmaobmdinbaaAlive
import Derived.WalkLawsBesides
namespace Go.Proofs.Ytdddmaobmdinbaa.Pl
open Go.RowKit

set_option maxRecDepth 100000 in
theorem order_large (v u : Int) (s t : ByteArray) (w : World) (h : 4096 < s.size) : Calls Try.prog 6 #[.int .u64 v, .int .u64 u, .string s, .string t] w fun e w' => e = .returned (.bool true) ∧ Below w.heap.size w w' := by
  go_enter Try.func6, Try.ntmps6
  go_wp2_with fail
  refine (alive_any _).mono ?_; rintro e w' ⟨rfl, hb⟩
  go_wp2_with fail
  go_ret
  exact ⟨rfl, hb⟩
set_option maxRecDepth 100000 in
theorem order_large2 (v u : Int) (s t : ByteArray) (w : World) (h : ¬ 4096 < s.size) (h2 : 4096 < t.size) : Calls Try.prog 6 #[.int .u64 v, .int .u64 u, .string s, .string t] w fun e w' => e = .returned (.bool true) ∧ Below w.heap.size w w' := by
  go_enter Try.func6, Try.ntmps6
  go_wp2_with fail
  refine (alive_any _).mono ?_; rintro e w' ⟨rfl, hb⟩
  go_wp2_with fail
  go_ret
  exact ⟨rfl, hb⟩
theorem cat_less {l m : List UInt8} {s t : ByteArray} (h : SLt (l ++ s.data.toList) (m ++ t.data.toList)) : Op.bytesLess (({ data := l.toArray } : ByteArray) ++ s).toList (({ data := m.toArray } : ByteArray) ++ t).toList = true := by
  rw [ByteArray.toList_eq, ByteArray.toList_eq]
  simpa using h.less
theorem cat_more {l m : List UInt8} {s t : ByteArray} (h : SLt (m ++ t.data.toList) (l ++ s.data.toList)) : Op.bytesLess (({ data := l.toArray } : ByteArray) ++ s).toList (({ data := m.toArray } : ByteArray) ++ t).toList = false := by
  rw [ByteArray.toList_eq, ByteArray.toList_eq]
  simpa using h.more
set_option maxRecDepth 100000 in
theorem order_lt (v u : Nat) (s t : ByteArray) (w : World) (h : ¬ 4096 < s.size) (h2 : ¬ 4096 < t.size) (hlt : v < u) (hu : u < 256 ^ 8) : Calls Try.prog 6 #[.int .u64 v, .int .u64 u, .string s, .string t] w fun e w' => e = .returned (.bool true) ∧ Below w.heap.size w w' := by
  have hs := enc_slt hlt hu
  have e1 := hs.less
  have e2 : (enc v == enc u) = false := by rw [beq_eq_false_iff_ne]; exact hs.ne
  have e3 := cat_less (hs.append s.data.toList t.data.toList)
  have e4 : ((v : Int) == u) = false := by rw [beq_eq_false_iff_ne]; omega
  have hv8 : v < 256 ^ 8 := by omega
  have HV := Lib.hid hv8
  have HU := Lib.hid hu
  have l1 := (enc_len v).2
  have l2 := (enc_len u).2
  clear hs hv8 hu
  go_enter Try.func6, Try.ntmps6
  go_wp2_with fail
  refine (num_any _ HV.out _).mono ?_; rintro e w1 ⟨rfl, hb1⟩
  go_wp2_with fail
  refine (num_any _ HU.out _).mono ?_; rintro e w2 ⟨rfl, hb2⟩
  go_wp2_with fail
  refine (alive_any _).mono ?_; rintro e w3 ⟨rfl, hb3⟩
  go_wp2_with fail
  go_ret
  exact ⟨rfl, below_step (below_step hb1 hb2) hb3⟩
set_option maxRecDepth 100000 in
theorem order_gt (v u : Nat) (s t : ByteArray) (w : World) (h : ¬ 4096 < s.size) (h2 : ¬ 4096 < t.size) (hlt : u < v) (hv : v < 256 ^ 8) : Calls Try.prog 6 #[.int .u64 v, .int .u64 u, .string s, .string t] w fun e w' => e = .returned (.bool true) ∧ Below w.heap.size w w' := by
  have hs := enc_slt hlt hv
  have e1 := hs.more
  have e2 : (enc v == enc u) = false := by rw [beq_eq_false_iff_ne]; exact fun e => hs.ne e.symm
  have e3 := cat_more (hs.append t.data.toList s.data.toList)
  have e4 : ((v : Int) == u) = false := by rw [beq_eq_false_iff_ne]; omega
  have hu8 : u < 256 ^ 8 := by omega
  have HV := Lib.hid hv
  have HU := Lib.hid hu8
  have l1 := (enc_len v).2
  have l2 := (enc_len u).2
  clear hs hu8 hv
  go_enter Try.func6, Try.ntmps6
  go_wp2_with fail
  refine (num_any _ HV.out _).mono ?_; rintro e w1 ⟨rfl, hb1⟩
  go_wp2_with fail
  refine (num_any _ HU.out _).mono ?_; rintro e w2 ⟨rfl, hb2⟩
  go_wp2_with fail
  refine (alive_any _).mono ?_; rintro e w3 ⟨rfl, hb3⟩
  go_wp2_with fail
  go_ret
  exact ⟨rfl, below_step (below_step hb1 hb2) hb3⟩
set_option maxRecDepth 100000 in
theorem order_eq (v : Nat) (s t : ByteArray) (w : World) (h : ¬ 4096 < s.size) (h2 : ¬ 4096 < t.size) (hv : v < 256 ^ 8) : Calls Try.prog 6 #[.int .u64 v, .int .u64 v, .string s, .string t] w fun e w' => e = .returned (.bool true) ∧ Below w.heap.size w w' := by
  have e1 := bytesLess_irrefl (enc v)
  have HV := Lib.hid hv
  have HU := Lib.hid hv
  have l1 := (enc_len v).2
  clear hv
  go_enter Try.func6, Try.ntmps6
  go_wp2_with fail
  refine (num_any _ HV.out _).mono ?_; rintro e w1 ⟨rfl, hb1⟩
  go_wp2_with fail
  refine (num_any _ HU.out _).mono ?_; rintro e w2 ⟨rfl, hb2⟩
  go_wp2_with fail
  refine (alive_any _).mono ?_; rintro e w3 ⟨rfl, hb3⟩
  go_wp2_with fail
  go_ret
  exact ⟨rfl, below_step (below_step hb1 hb2) hb3⟩
theorem order_any (v u : Nat) (s t : ByteArray) (w : World) (hv : v < 256 ^ 8) (hu : u < 256 ^ 8) : Calls Try.prog 6 #[.int .u64 v, .int .u64 u, .string s, .string t] w fun e w' => e = .returned (.bool true) ∧ Below w.heap.size w w' := by
  by_cases h : 4096 < s.size
  · exact order_large _ _ s t w h
  · by_cases h2 : 4096 < t.size
    · exact order_large2 _ _ s t w h h2
    · rcases Nat.lt_trichotomy v u with h3 | h3 | h3
      · exact order_lt v u s t w h h2 h3 hu
      · subst h3; exact order_eq v s t w h h2 hv
      · exact order_gt v u s t w h h2 h3 hv
end Go.Proofs.Ytdddmaobmdinbaa.Pl
