/- What octet.Row answers of a row of texts in memory. -/
import Derived.Test.YtdddmaobmdinbaaBuilder
import Derived.Test.YtdddmaobmdinbaaLong
namespace Go.Proofs.Ytdddmaobmdinbaa.Pl
open Go.RowKit

/-- The encodings of texts, one behind the other. -/
def rowT (ss : List ByteArray) : List UInt8 := (ss.map fun s => txt s.data.toList).flatten
theorem rowT_nil : rowT [] = [] := rfl
theorem rowT_append (a b : List ByteArray) : rowT (a ++ b) = rowT a ++ rowT b := by simp [rowT]
theorem rowT_take_succ (ss : List ByteArray) (j : Nat) (h : j < ss.length) : rowT (ss.take (j + 1)) = rowT (ss.take j) ++ txt (ss.getD j ⟨#[]⟩).data.toList := by
  rw [List.take_succ_eq_append_getElem h, rowT_append]
  have e : ss.getD j ⟨#[]⟩ = ss[j] := by simp [List.getD, h]
  rw [e]; simp [rowT]
theorem rowT_take_le (ss : List ByteArray) (j : Nat) : (rowT (ss.take j)).length ≤ (rowT ss).length := by
  have h := rowT_append (ss.take j) (ss.drop j)
  rw [List.take_append_drop] at h
  rw [h]; simp
theorem rowT_len (ss : List ByteArray) : (rowT ss).length ≤ 9 * ss.length + tot ss := by
  induction ss with
  | nil => simp [rowT, tot]
  | cons s r ih =>
    have h1 : rowT (s :: r) = txt s.data.toList ++ rowT r := rowT_append [s] r ▸ by simp [rowT]
    have h2 : tot (s :: r) = s.size + tot r := by simp [tot]
    have h3 := (enc_len s.data.toList.length).2
    rw [h1, h2, List.length_append, txt_len]
    simp at h3 ⊢
    omega

theorem builder_below {T e : TypeId} {B b : Nat} {bs : List Value} {w w' : World} (h : Lib.IsBuilder T e B b bs w) (hb : Below w.heap.size w w') : Lib.IsBuilder T e B b bs w' := by
  have one : ∀ p, Lib.BuilderAt T e B b p bs w → Lib.BuilderAt T e B b p bs w' := by
    intro p h
    have hlt := h.lt
    obtain ⟨hB, v, hbk, hown, hne⟩ := h
    refine ⟨hB, v, by rw [hb.block b hlt]; exact hbk, ?_, hne⟩
    rcases hown with ⟨hl, h | ⟨g, cap, cur, hv, hg, hc, h1, h2, h3, h4⟩⟩
    · exact ⟨hl, .inl h⟩
    · have hgl : g < w.heap.size := by
        rcases Nat.lt_or_ge g w.heap.size with h' | h'
        · exact h'
        · rw [Array.getElem?_eq_none h'] at hc; cases hc
      exact ⟨hl, .inr ⟨g, cap, cur, hv, hg, by rw [hb.block g hgl]; exact hc, h1, h2, h3, h4⟩⟩
  rcases h with h | h
  · exact .inl (one _ h)
  · exact .inr (one _ h)

theorem text_out (s : ByteArray) (w : World) (hs : s.size ≤ 281474976710656) :
    Calls Try.prog 14 #[.string s] w fun e w' => e = .returned (.string ⟨(txt s.data.toList).toArray⟩) ∧ Below w.heap.size w w' := by
  have h := text_any s w hs
  rw [text_list] at h
  exact h

set_option maxRecDepth 100000 in
theorem row_empty (a : Option Addr) (cap : Nat) (w : World) :
    Calls Try.prog 18 #[.slice a 0 cap] w fun e w' => e = .returned (.string ⟨(rowT []).toArray⟩) ∧ Below w.heap.size w w' := by
  have HB := Lib.hid (Lib.fresh_isBuilder 49 5 w)
  go_enter Try.func18, Try.ntmps18
  go_wp2
  refine wp_loop_rounds 1 ?_
  rw [rounds_succ]
  go_wp2_with fail
  refine (Try.Builder_String_empty w.heap.size w.heap.size _ HB.out (by simp)).mono ?_; rintro e w1 ⟨rfl, hb1⟩
  go_wp2_with fail
  go_ret
  exact ⟨rfl, ((Below.refl _ _).alloc (Nat.le_refl _) _).trans hb1⟩
set_option maxHeartbeats 400000 in
set_option maxRecDepth 100000 in
theorem row_any (b off cap n : Nat) (ss : List ByteArray) (w : World) (hn : n ≤ 9223372036854775807) (h : TextsAt w b off n ss) (hl : (rowT ss).length ≤ 140737488355328) :
    Calls Try.prog 18 #[.slice (some ⟨b, off, none⟩) n cap] w fun e w' => e = .returned (.string ⟨(rowT ss).toArray⟩) ∧ Below w.heap.size w w' := by
  have H := Lib.hid h
  have hfresh := Lib.hid (Lib.fresh_isBuilder 49 5 w)
  clear h
  go_enter Try.func18, Try.ntmps18
  go_wp2
  go_loopw [8] (fun i wr => ∃ j : Nat, j ≤ n ∧ i = .int .i64 j ∧ Lib.IsBuilder 49 5 w.heap.size w.heap.size (Lib.byteCells (rowT (ss.take j))) wr ∧ Below w.heap.size w wr) (fun i _ => n - (intOf i).toNat)
  case atStart => exact ⟨0, Nat.zero_le _, rfl, hfresh.out, (Below.refl _ _).alloc (Nat.le_refl _) _⟩
  case round =>
    obtain ⟨j, hj, rfl, hisb, hbel⟩ := hrel
    have HB := Lib.hid hisb
    clear hisb
    by_cases hlt : j < n
    · have g1 := (H.out.below hbel).2 j hlt
      have HT := Lib.hid (rowT_take_succ ss j (by rw [H.out.1]; exact hlt))
      have hle := rowT_take_le ss (j + 1)
      generalize hx : ss.getD j ⟨#[]⟩ = x at g1 HT
      clear hx
      have hlen : (rowT (ss.take j)).length + (txt x.data.toList).length ≤ 140737488355328 := by
        have := congrArg List.length HT.out
        simp only [List.length_append] at this
        omega
      have hxs : x.size ≤ 281474976710656 := by
        rw [txt_len] at hlen
        simp at hlen
        omega
      have hsz := hbel.size
      clear hle
      go_wp2_with fail
      refine (text_out x _ hxs).mono ?_; rintro e w1 ⟨rfl, hb1⟩
      go_wp2_with fail
      refine (writeString_any w.heap.size w.heap.size _ _ _ (builder_below HB.out hb1) (by rw [Lib.byteCells_length, size_lit]; exact hlen) (Nat.le_trans hsz hb1.size)).mono ?_; rintro e w2 ⟨rfl, hb2, hb3⟩
      go_wp2_with fail
      refine ⟨⟨j + 1, by omega, by go_num, ?_, (hbel.trans (hb1.mono hsz)).trans hb3⟩, by simp [intOf]; omega⟩
      rw [HT.out, Lib.byteCells_append]
      exact .inr hb2
    · obtain rfl : j = n := by omega
      have hall : ss.take j = ss := List.take_of_length_le (by rw [H.out.1]; exact Nat.le_refl _)
      have HA := Lib.hid hall
      have hsz := hbel.size
      clear hall
      go_wp2_with fail
      refine (Try.Builder_String_any w.heap.size w.heap.size _ _ HB.out hsz).mono ?_; rintro e w1 ⟨rfl, hb1⟩
      go_wp2_with fail
      go_ret
      exact ⟨by rw [HA.out]; rfl, hbel.trans hb1⟩
end Go.Proofs.Ytdddmaobmdinbaa.Pl
