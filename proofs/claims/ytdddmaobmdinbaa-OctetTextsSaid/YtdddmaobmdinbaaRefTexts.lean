/- What the document's answer says of texts and of rows of texts. -/
import Derived.Test.YtdddmaobmdinbaaReadText
import Derived.Test.YtdddmaobmdinbaaRefReadNum
import Derived.Test.YtdddmaobmdinbaaSrc
import Derived.Test.YtdddmaobmdinbaaPlaind
import Derived.Test.YtdddmaobmdinbaaReadRow
namespace Go.Proofs.Ytdddmaobmdinbaa.Pl
open Go.RowKit

set_option maxRecDepth 100000 in
theorem reftext_any (s : ByteArray) (w : World) (hs : s.size ≤ 281474976710656) :
    Calls Try.prog 15 #[.string s] w fun e w' => e = .returned (.string ⟨(txt s.data.toList).toArray⟩) ∧ Below w.heap.size w w' := by
  have h8 : s.size < 256 ^ 8 := by rw [two64]; omega
  have hl := (enc_len s.size).2
  have H8 := Lib.hid h8
  clear h8
  go_enter Try.func15, Try.ntmps15
  go_wp2_with (go_at_call 12; refine (refnum_any _ H8.out _).mono ?_; rintro e w' ⟨rfl, hb⟩)
  go_ret
  exact ⟨ret_str (text_list s), hb⟩

set_option maxRecDepth 100000 in
theorem refreadtext_any (s : ByteArray) (m : Int) (w : World) (hs : s.size ≤ 281474976710656) (m1 : -9223372036854775808 ≤ m) (m2 : m ≤ 9223372036854775807) :
    Calls Try.prog 17 #[.string s, .int .i64 m] w fun e w' =>
      e = .returned (.tuple #[.string ⟨(rdt s.data.toList m).1.toArray⟩, .int .i64 (rdt s.data.toList m).2.1, .int .i64 (rdt s.data.toList m).2.2]) ∧ Below w.heap.size w w' := by
  have ⟨v, n, e, hr⟩ : ∃ v n e, rdn s.data.toList = (v, n, e) := ⟨_, _, _, rfl⟩
  have hc : ∀ W, Calls Try.prog 10 #[.string s] W fun e' w' => e' = .returned (.tuple #[.int .u64 v, .int .i64 n, .int .i64 e]) ∧ Below W.heap.size W w' := by
    intro W
    have h := refreadnum_any s (by omega) W
    rw [hr] at h
    exact h
  have hlen : s.data.toList.length = s.size := by simp
  have HC := Lib.hid hc
  clear hc
  by_cases he : e = 0
  · subst he
    obtain ⟨n1, n2, hn, hv⟩ := rdn_sound hr
    clear hn
    have hv' : v < 18446744073709551616 := by rw [two64] at hv; exact hv
    clear hv
    have hns : n ≤ s.size := by omega
    by_cases h1 : max m 0 < (v : Int)
    · have HR := Lib.hid (rdt_long hr h1)
      clear hr hlen
      by_cases hm : m < 0
      · have hv1 : 0 < v := by omega
        clear h1
        go_enter Try.func17, Try.ntmps17
        go_wp2_with (go_at_call 10; refine (HC.out _).mono ?_; rintro e w' ⟨rfl, hb⟩)
        go_ret3
        exact ⟨by rw [HR.out]; rfl, hb⟩
      · obtain ⟨k, rfl⟩ : ∃ k : Nat, m = k := ⟨m.toNat, by omega⟩
        have hv1 : k < v := by omega
        clear h1
        go_enter Try.func17, Try.ntmps17
        go_wp2_with (go_at_call 10; refine (HC.out _).mono ?_; rintro e w' ⟨rfl, hb⟩)
        go_ret3
        exact ⟨by rw [HR.out]; rfl, hb⟩
    · by_cases h2 : s.size - n < v
      · have HR := Lib.hid (rdt_end (m := m) hr h1 (by rw [hlen]; exact h2))
        clear hr hlen
        by_cases hm : m < 0
        · have hv1 : v = 0 := by omega
          omega
        · obtain ⟨k, rfl⟩ : ∃ k : Nat, m = k := ⟨m.toNat, by omega⟩
          have hv1 : v ≤ k := by omega
          clear h1
          go_enter Try.func17, Try.ntmps17
          go_wp2_with (go_at_call 10; refine (HC.out _).mono ?_; rintro e w' ⟨rfl, hb⟩)
          go_ret3
          exact ⟨by rw [HR.out]; rfl, hb⟩
      · have HR := Lib.hid (rdt_ok (m := m) hr h1 (by rw [hlen]; exact h2))
        have HE : Hid (s.extract n (n + v) = ⟨((s.data.toList.drop n).take v).toArray⟩) := by
          apply ByteArray.ext
          apply Array.toList_inj.1
          rw [Lib.extract_data]
          simp
        clear hr hlen
        by_cases hm : m < 0
        · have hv1 : v = 0 := by omega
          subst hv1
          clear h1 h2
          go_enter Try.func17, Try.ntmps17
          go_wp2_with (go_at_call 10; refine (HC.out _).mono ?_; rintro e w' ⟨rfl, hb⟩)
          go_ret3
          exact ⟨by rw [HR.out]; exact ret3s (by simp; rfl) (by simp) rfl, hb⟩
        · obtain ⟨k, rfl⟩ : ∃ k : Nat, m = k := ⟨m.toNat, by omega⟩
          have hv1 : v ≤ k := by omega
          clear h1
          go_enter Try.func17, Try.ntmps17
          go_wp2_with (go_at_call 10; refine (HC.out _).mono ?_; rintro e w' ⟨rfl, hb⟩)
          go_ret3
          exact ⟨by rw [HR.out]; exact ret3s HE.out (by simp) rfl, hb⟩
  · have HR := Lib.hid (rdt_err (m := m) hr he)
    have he' : ((e : Int) != 0) = true := by rw [bne_iff_ne]; omega
    clear hr hlen
    go_enter Try.func17, Try.ntmps17
    go_wp2_with (go_at_call 10; refine (HC.out _).mono ?_; rintro e w' ⟨rfl, hb⟩)
    go_ret3
    exact ⟨by rw [HR.out]; rfl, hb⟩

theorem refrow_empty (p : Option Addr) (cap : Nat) (w : World) :
    Calls Try.prog 19 #[.slice p 0 cap] w fun e w' => e = .returned (.string ⟨(rowT []).toArray⟩) ∧ Below w.heap.size w w' := by
  go_enter Try.func19, Try.ntmps19
  go_wp2
  refine wp_loop_rounds 1 ?_
  rw [rounds_succ]
  go_wp2
  go_ret
  exact ⟨rfl, Below.refl _ _⟩
set_option maxHeartbeats 400000 in
set_option maxRecDepth 100000 in
theorem refrow_any (b off cap n : Nat) (ss : List ByteArray) (w : World) (hn : n ≤ 9223372036854775807) (h : TextsAt w b off n ss) (hl : (rowT ss).length ≤ 140737488355328) :
    Calls Try.prog 19 #[.slice (some ⟨b, off, none⟩) n cap] w fun e w' => e = .returned (.string ⟨(rowT ss).toArray⟩) ∧ Below w.heap.size w w' := by
  have H := Lib.hid h
  clear h
  go_enter Try.func19, Try.ntmps19
  go_wp2
  go_loopw [3, 4] (fun t i wr => ∃ j : Nat, j ≤ n ∧ i = .int .i64 j ∧ t = .string ⟨(rowT (ss.take j)).toArray⟩ ∧ Below w.heap.size w wr) (fun _ i _ => n - (intOf i).toNat)
  case atStart => exact ⟨0, Nat.zero_le _, rfl, rfl, Below.refl _ _⟩
  case round =>
    obtain ⟨j, hj, rfl, rfl, hbel⟩ := hrel
    by_cases hlt : j < n
    · have g1 := (H.out.below hbel).2 j hlt
      have HT := Lib.hid (rowT_take_succ ss j (by rw [H.out.1]; exact hlt))
      have hle := rowT_take_le ss (j + 1)
      generalize hx : ss.getD j ⟨#[]⟩ = x at g1 HT
      clear hx
      have hlen : (rowT (ss.take j)).length + (txt x.data.toList).length ≤ 140737488355328 := by
        have := congrArg List.length HT.out
        simp only [List.length_append] at this
        omega
      have hxs : x.size ≤ 281474976710656 := by
        rw [txt_len] at hlen
        simp at hlen
        omega
      have hsz := hbel.size
      clear hle
      go_wp2_with (go_at_call 15; refine (reftext_any x _ hxs).mono ?_; rintro e w1 ⟨rfl, hb1⟩)
      go_roundw
      case rel => exact ⟨j + 1, by omega, by go_num, by rw [HT.out, ByteArray.mk_append_mk], hbel.trans (hb1.mono hsz)⟩
      case measure => simp [intOf]; omega
    · obtain rfl : j = n := by omega
      have hall : ss.take j = ss := List.take_of_length_le (by rw [H.out.1]; exact Nat.le_refl _)
      have HA := Lib.hid hall
      clear hall
      go_wp2
      go_ret
      exact ⟨by rw [HA.out]; rfl, hbel⟩
theorem refrow_src (p : Option Addr) (n cap : Nat) (ss : List ByteArray) (w : World) (h : Src w p n ss) (hn : n ≤ 9223372036854775807) (hl : (rowT ss).length ≤ 140737488355328) :
    Calls Try.prog 19 #[.slice p n cap] w fun e w' => e = .returned (.string ⟨(rowT ss).toArray⟩) ∧ Below w.heap.size w w' := by
  rcases h.2 with h0 | ⟨b, off, rfl, ht⟩
  · subst h0
    rw [h.empty]
    exact refrow_empty p cap w
  · exact refrow_any b off cap n ss w hn ht hl

theorem rdrow_step {m : Int} {k : Nat} {l : List UInt8} {acc : List (List UInt8)} {at' : Nat} {t : List UInt8} {n : Nat} (h : rdt l m = (t, n, 0)) : rdrow m (k + 1) l acc at' = rdrow m k (l.drop n) (acc ++ [t]) (at' + n) := by
  rw [rdrow, h, if_pos rfl]
theorem rdrow_stop {m : Int} {k : Nat} {l : List UInt8} {acc : List (List UInt8)} {at' : Nat} {t : List UInt8} {n z : Nat} (h : rdt l m = (t, n, z)) (hz : z ≠ 0) : rdrow m (k + 1) l acc at' = ([], 0, z) := by
  rw [rdrow, h, if_neg hz]

set_option maxHeartbeats 1000000 in
set_option maxRecDepth 100000 in
theorem refreadrow_any (s : ByteArray) (c m : Int) (hc : c ≤ 10000) (hc0 : -9223372036854775808 ≤ c) (w : World) (hs : s.size ≤ 281474976710656) (m1 : -9223372036854775808 ≤ m) (m2 : m ≤ 9223372036854775807) (R : List (List UInt8) × Nat × Nat) (hR : rdrow m c.toNat s.data.toList [] 0 = R) :
    Calls Try.prog 21 #[.string s, .int .i64 c, .int .i64 m] w (RowPost R w) := by
  obtain ⟨i0, hi, hz0, hz1, hz2⟩ := info_parts infoString
  have HR := Lib.hid hR
  clear hR
  go_enter Try.func21, Try.ntmps21
  go_wp2
  go_loopw [9, 10, 11] (fun l a i wr => ∃ (j : Nat) (acc : List (List UInt8)) (p : Nat), i = .int .i64 j ∧ a = .int .i64 p ∧ p ≤ s.size ∧ j ≤ c.toNat ∧ acc.length = j ∧ rdrow m (c.toNat - j) (s.data.toList.drop p) acc p = R ∧
    wr.ownsRow w.heap.size 9 1 l j (acc.map fun t => .string ⟨t.toArray⟩) ∧ Below w.heap.size w wr) (fun _ _ i _ => c.toNat - (intOf i).toNat)
  case atStart => exact ⟨0, [], 0, rfl, rfl, Nat.zero_le _, Nat.zero_le _, rfl, by simpa using HR.out, World.ownsRow_nil _ _ _ _, Below.refl _ _⟩
  case round =>
    obtain ⟨j, acc, p, rfl, rfl, hp, hj, hacc, hrd, hrow, hbel⟩ := hrel
    by_cases hlt : (j : Int) < c
    · obtain ⟨k, hk⟩ : ∃ k, c.toNat - j = k + 1 := ⟨c.toNat - j - 1, by omega⟩
      rw [hk] at hrd
      obtain ⟨t, n, z, hr⟩ : ∃ t n z, rdt (s.data.toList.drop p) m = (t, n, z) := ⟨_, _, _, rfl⟩
      have hns : n ≤ s.size - p := by
        have h := rdt_size (s.data.toList.drop p) m
        rw [hr] at h
        simpa using h
      have hb : (s.extract p s.size).data.toList = s.data.toList.drop p := by
        rw [Lib.extract_data]
        exact List.take_of_length_le (by simp)
      have hcall : ∀ W, Calls Try.prog 17 #[.string (s.extract p s.size), .int .i64 m] W fun e w' => e = .returned (.tuple #[.string ⟨t.toArray⟩, .int .i64 n, .int .i64 z]) ∧ Below W.heap.size W w' := by
        intro W
        have h := refreadtext_any (s.extract p s.size) m W (by simp; omega) m1 m2
        rw [hb, hr] at h
        exact h
      have HC := Lib.hid hcall
      have HO := Lib.hid hrow
      have hsz := hbel.size
      clear hcall hrow
      by_cases hz : z = 0
      · subst hz
        rw [rdrow_step hr] at hrd
        have HS := Lib.hid hrd
        clear hrd hr hb
        go_wp2_with (first | (go_at_call 17; refine (HC.out _).mono ?_; rintro e w1 ⟨rfl, hb1⟩) | (at_builtin; refine wpList_append_own _ rfl _ _ 29 rfl w.heap.size 9 i0 (.string ⟨#[]⟩) 1 16 Try.underlying29 hi hz0 hz1 hz2 rfl (by decide) _ j (acc.map fun t => .string ⟨t.toArray⟩) rfl ?own ⟨w1.heap.size, 0, none⟩ 1 1 [.string ⟨t.toArray⟩] rfl rfl ?cells ?one ?max ?bytes ?base ?_))
        case own => exact (HO.out.kept (row := none) ⟨hb1.os, hb1.tape, hb1.output, hb1.size, fun k hk _ => hb1.block k hk⟩ (Classical.em _)).alloc _
        case cells =>
          intro i u hu
          cases i with
          | zero =>
            have hu' : Value.string ⟨t.toArray⟩ = u := by simpa using hu
            subst hu'
            exact (Boxed.new w1 9 (.string ⟨t.toArray⟩)).cell
          | succ i => simp at hu
        case one =>
          intro u hu
          have : u = Value.string ⟨t.toArray⟩ := by simpa using hu
          rw [this]; rfl
        case max => unfold maxLen; omega
        case bytes => omega
        case base => have := hb1.size; simp; omega
        intro v2 w2 hown hgrow _
        go_wp2_with fail
        have hb2 := (hb1.size)
        refine ⟨⟨j + 1, acc ++ [t], p + n, by go_num, by go_num, by omega, by omega, by simp [hacc], ?_, by rw [List.map_append]; exact hown, ?_⟩, by simp [intOf]; omega⟩
        · rw [show c.toNat - (j + 1) = k by omega, ← List.drop_drop]
          exact HS.out
        · refine ((hbel.trans (hb1.mono hsz)).alloc (by omega) _).grown hgrow (by simp; omega) ?_
          intro b hb
          rcases HO.out.2 with ⟨rfl, _⟩ | ⟨g, cap, cur, rfl, hg, _⟩
          · simp [Value.ownBlock] at hb
          · have : g = b := by simpa [Value.ownBlock] using hb
            omega
      · have hz' : ((z : Int) != 0) = true := by rw [bne_iff_ne]; omega
        have HS := Lib.hid (hrd.symm.trans (rdrow_stop hr hz))
        clear hrd hr hb
        go_wp2_with (go_at_call 17; refine (HC.out _).mono ?_; rintro e w1 ⟨rfl, hb1⟩)
        refine bodyPost_ret (v := .tuple #[.slice none 0 0, .int .i64 0, .int .i64 z]) (by simp [results, Try.results21, go_sem]) rfl ?_
        rw [HS.out]
        exact ⟨none, 0, rfl, ⟨rfl, .inl rfl⟩, hbel.trans (hb1.mono hsz)⟩
    · have hj' : c.toNat - j = 0 := by omega
      rw [hj'] at hrd
      have HS := Lib.hid (hrd.symm.trans rfl : R = (acc, p, 0))
      have hm : (acc.map fun t => Value.string ⟨t.toArray⟩) = (acc.map fun t => (⟨t.toArray⟩ : ByteArray)).map Value.string := by simp
      rw [hm] at hrow
      obtain ⟨q, cap, rfl, hsrc⟩ := src_own hrow
      have HQ := Lib.hid hsrc
      clear hrd hrow hm hj' hsrc
      go_wp2
      refine bodyPost_ret (v := .tuple #[.slice q j cap, .int .i64 p, .int .i64 0]) (by simp [results, Try.results21, go_sem]) rfl ?_
      rw [HS.out]
      exact ⟨q, cap, by rw [hacc]; rfl, by rw [hacc]; exact HQ.out, hbel⟩
end Go.Proofs.Ytdddmaobmdinbaa.Pl
