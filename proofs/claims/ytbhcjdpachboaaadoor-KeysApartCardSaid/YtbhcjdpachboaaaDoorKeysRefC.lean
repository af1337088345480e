/- What the document's List answers, and what a key's name says to it. -/
import Derived.Test.YtbhcjdpachboaaaDoorKeysRefB
namespace Go.Proofs.YtbhcjdpachboaaaDoor.Pl
open Go.RowKit

/-- v is a row of these numbers that the call owns, from block B on. -/
def OwnI (w : World) (B : Nat) (v : Value) (l : List Nat) : Prop := w.ownsRow B 3 1 v l.length (l.map fun (x : Nat) => Value.int .i64 (x : Int))
theorem infoInt : (Tryd.prog.info? 3).map (fun i => (i.zero, i.size, i.bytes)) = some (some (.int .i64 0), 1, 8) := by kernel_rfl
def GivesI (w : World) (l : List Nat) (e : Ending) (w' : World) : Prop := ∃ v, e = .returned v ∧ OwnI w' w.heap.size v l
theorem ownI_below {w w' : World} {B : Nat} {v : Value} {l : List Nat} (h : OwnI w B v l) (hb : Below w.heap.size w w') : OwnI w' B v l := by
  refine ⟨h.1, ?_⟩
  rcases h.2 with hn | ⟨g, cap, cur, hv, hbg, hg, rest⟩
  · exact .inl hn
  · exact .inr ⟨g, cap, cur, hv, hbg, (hb.block g (Array.getElem?_eq_some_iff.1 hg).1).trans hg, rest⟩
theorem range_filter (p : Nat → Bool) (k : Nat) : (List.range (k + 1)).filter p = (List.range k).filter p ++ (if p k = true then [k] else []) := by
  rw [List.range_succ, List.filter_append]
  cases h : p k <;> simp [h]
theorem filter_len (p : Nat → Bool) (k : Nat) : ((List.range k).filter p).length ≤ k := by
  have := List.length_filter_le p (List.range k)
  rwa [List.length_range] at this
set_option maxHeartbeats 2000000 in
set_option maxRecDepth 100000 in
theorem rlist9_any (s : Nat) (n : Int) (w : World) :
    Calls Tryd.prog 23 #[.int .u8 (s : Int), .int .i64 n] w fun e w' => GivesI w (listK s n) e w' ∧ Below w.heap.size w w' := by
  obtain ⟨i0, hi, hz0, hz1, hz2⟩ := info_parts infoInt
  have HI0 := Lib.hid hi
  clear hi
  by_cases h0 : n < 1
  · have hz : Hid (listK s n = []) := Lib.hid (if_neg (fun e => by have := e.1; omega))
    generalize listK s n = Z at *
    go_enter Tryd.func23, Tryd.ntmps23
    go_wp2_with fail
    go_ret
    exact ⟨⟨.slice none 0 0, rfl, by rw [hz.out]; exact World.ownsRow_nil _ _ _ _⟩, Below.refl _ _⟩
  by_cases h1 : 8 < n
  · have hz : Hid (listK s n = []) := Lib.hid (if_neg (fun e => by have := e.2; omega))
    generalize listK s n = Z at *
    go_enter Tryd.func23, Tryd.ntmps23
    go_wp2_with fail
    go_ret
    exact ⟨⟨.slice none 0 0, rfl, by rw [hz.out]; exact World.ownsRow_nil _ _ _ _⟩, Below.refl _ _⟩
  obtain ⟨m, rfl⟩ : ∃ x : Nat, n = x := ⟨n.toNat, by omega⟩
  have hz : listK s m = (List.range m).filter (fun (a : Nat) => setB s (a : Int)) := if_pos ⟨by omega, by omega⟩
  have hm8 : m ≤ 8 := by omega
  rw [hz]
  clear hz
  go_enter Tryd.func23, Tryd.ntmps23
  go_wp2_with fail
  go_loopw [5, 6] (fun lv iv wr => ∃ k : Nat, iv = .int .i64 k ∧ k ≤ m ∧ Hid (OwnI wr w.heap.size lv ((List.range k).filter (fun (a : Nat) => setB s (a : Int)))) ∧ Hid (Below w.heap.size w wr)) (fun _ iv _ => m - (intOf iv).toNat)
  case atStart => exact ⟨0, rfl, Nat.zero_le _, Lib.hid (by rw [List.range_zero, List.filter_nil]; exact World.ownsRow_nil _ _ _ _), Lib.hid (Below.refl _ _)⟩
  case round =>
    obtain ⟨k, rfl, hkn, hown, hb⟩ := hrel
    by_cases hk : k < m
    · have hk' : (k : Int) < (m : Int) := by omega
      have HS := Lib.hid (rin9_any s (k : Int))
      have HF := Lib.hid (range_filter (fun (a : Nat) => setB s (a : Int)) k)
      have HLN := Lib.hid (filter_len (fun (a : Nat) => setB s (a : Int)) k)
      generalize hl : (List.range k).filter (fun (a : Nat) => setB s (a : Int)) = l at *
      cases hs : setB s (k : Int) with
      | true =>
        rw [hs] at HS
        have HF2 : Hid ((List.range (k + 1)).filter (fun (a : Nat) => setB s (a : Int)) = l ++ [k]) := Lib.hid (by rw [HF.out, if_pos hs])
        clear hs HF hl
        go_wp2_with fail
        refine (HS.out _).mono ?_; rintro e w2 ⟨rfl, rfl⟩
        go_wp2_with (at_builtin; refine wpList_append_own _ rfl _ _ 35 rfl w.heap.size 3 i0 (.int .i64 0) 1 8 Tryd.underlying35 HI0.out hz0 hz1 hz2 rfl (by decide) _ _ _ rfl (World.ownsRow.alloc hown.out _) ⟨_, 0, none⟩ 1 1 [.int .i64 (k : Int)] rfl rfl ?c1 ?c2 ?c3 ?c4 ?c5 ?_)
        case c1 =>
          intro j u hj
          match j, hj with
          | 0, hj => simp at hj; subst hj; simp [Addr.add]
          | (j + 1), hj => simp at hj
        case c2 => intro u hu; simp at hu; subst hu; rfl
        case c3 => have := HLN.out; unfold maxLen; omega
        case c4 => have := HLN.out; omega
        case c5 => have := hb.out.size; simp; omega
        intro v' w3 hown' hgrow _
        have HO : Hid (OwnI w3 w.heap.size v' ((List.range (k + 1)).filter (fun (a : Nat) => setB s (a : Int)))) := Lib.hid (by
          rw [HF2.out]
          unfold OwnI
          rw [List.map_append, List.length_append]
          exact hown')
        have B3 : Hid (Below w.heap.size w w3) := Lib.hid ((hb.out.alloc hb.out.size _).grown hgrow (by have := hb.out.size; simp; omega) (fun j hj => (hown.out.lt _ hj).1))
        clear hown' hgrow
        go_wp2_with fail
        go_roundw
        case rel => exact ⟨k + 1, by go_num, by omega, HO, B3⟩
        case measure => simp [intOf]; omega
      | false =>
        rw [hs] at HS
        have hf : (List.range (k + 1)).filter (fun (a : Nat) => setB s (a : Int)) = l := by rw [HF.out, if_neg (by simp [hs]), List.append_nil]
        have HO := hown
        rw [← hf] at HO
        clear hf
        clear hs HF hl
        go_wp2_with fail
        refine (HS.out _).mono ?_; rintro e w2 ⟨rfl, rfl⟩
        go_wp2_with fail
        go_roundw
        case rel => exact ⟨k + 1, by go_num, by omega, HO, hb⟩
        case measure => simp [intOf]; omega
    · obtain rfl : k = m := by omega
      clear hk hkn
      go_wp2_with fail
      go_ret
      exact ⟨⟨_, rfl, hown.out⟩, hb.out⟩
end Go.Proofs.YtbhcjdpachboaaaDoor.Pl
