/- What term's join, Row, Hash, Mac and Seal answer. -/
import Derived.Test.YtbdlegjklfkdmaaGreatDoorBallC30
import Derived.Test.YtbdlegjklfkdmaaGreatDoorShelf
import Derived.Lib.Join
namespace Go.Proofs.YtbdlegjklfkdmaaGreatDoor.Pl
open Go.RowKit

theorem join_flat : ∀ l : List (List UInt8), Lib.join l [] = l.flatten := by
  intro l
  cases l with
  | nil => rfl
  | cons x r =>
    rw [Lib.join_cons]
    have : Lib.joinTail [] r = r.flatten := by
      unfold Lib.joinTail
      congr 1
      induction r with
      | nil => rfl
      | cons y r ih => simp
    rw [this]; rfl

theorem joined6_any (l : List ByteArray) (ao : Option Addr) (cap : Nat) (hcap : l.length ≤ cap) (hl : l.length ≤ 1000) (hx : ((l.map bl).flatten).length ≤ 100000) (w : World) (hrow : TxtRow w ao l) :
    Calls Tryz.prog 139 #[.slice ao l.length cap, .string ⟨#[]⟩] w fun e w' => e = .returned (.string ⟨((l.map bl).flatten).toArray⟩) ∧ Below w.heap.size w w' := by
  rcases hrow with rfl | ⟨b, off, rfl, hlt, hc⟩
  · exact (Tryz.strings_Join_none ao cap ⟨#[]⟩ w).mono (fun e w' h => ⟨h.1, by rw [h.2]; exact Below.refl _ _⟩)
  · have hj : Lib.join (l.map (·.data.toList)) (⟨#[]⟩ : ByteArray).data.toList = (l.map bl).flatten := join_flat _
    have h := Tryz.strings_Join b off cap l ⟨#[]⟩ w (fun j x hj => by
        have hlt : j < l.length := (List.getElem?_eq_some_iff.1 hj).1
        rw [hc j hlt, List.getD_eq_getElem?_getD, hj]; rfl) hlt (by omega) hcap (by rw [hj]; omega)
    rwa [hj] at h

set_option maxHeartbeats 2000000 in
set_option maxRecDepth 100000 in
theorem join6_any (front : ByteArray) (l : List ByteArray) (ao : Option Addr) (cap : Nat) (hcap : l.length ≤ cap) (hf : front.size ≤ 100) (hl : l.length ≤ 1000) (hx : ∀ x ∈ l, x.size ≤ 100000) (w : World) (hrow : TxtRow w ao l) :
    Calls Tryz.prog 111 #[.string front, .slice ao l.length cap] w fun e w' => e = .returned (st2 (madeP (bl front) (l.map bl))) ∧ Below w.heap.size w w' := by
  have HROW := Lib.hid hrow
  obtain ⟨z, hz⟩ : ∃ z, z = madeP (bl front) (l.map bl) := ⟨_, rfl⟩
  rw [← hz]
  unfold madeP at hz
  by_cases hall : ∀ x ∈ l, checkP (bl x) = 0
  · rw [if_pos (by intro x hx'; obtain ⟨y, hy, rfl⟩ := List.mem_map.1 hx'; exact hall y hy)] at hz
    have HA := Lib.hid (fun V hV => are_any l ao cap (by omega) (fun x h => Nat.le_trans (hx x h) (by decide)) V hV true (by simpa using hall))
    have HX : Hid (∀ k, k < l.length → (l.getD k ByteArray.empty).size ≤ 16384) := Lib.hid (fun k hk => by rw [size_bl]; exact check_len (hall _ (getD_mem6 l k hk)))
    have HCL : Hid (∀ k, (catL l k).length ≤ ((l.map bl).flatten).length) := Lib.hid (fun k => catL_le l k)
    have hbig : ∀ m : List ByteArray, (∀ x ∈ m, checkP (bl x) = 0) → ((m.map bl).flatten).length ≤ m.length * 16384 := by
      intro m
      induction m with
      | nil => intro _; simp
      | cons x m ih =>
        intro h
        have h1 := ih (fun y hy => h y (List.mem_cons_of_mem _ hy))
        have h2 := check_len (h x (List.mem_cons_self ..))
        rw [List.map_cons, List.flatten_cons, List.length_append, List.length_cons, Nat.succ_mul]
        omega
    have hbg := hbig l hall
    have hbg2 : ((l.map bl).flatten).length ≤ 16384000 := by omega
    have HALL : Hid (catL l l.length = (l.map bl).flatten) := Lib.hid (catL_all l _ (Nat.le_refl _))
    have HS : Hid (∀ k, k < l.length → catL l (k + 1) = catL l k ++ bl (l.getD k ByteArray.empty)) := Lib.hid (fun k hk => catL_succ l k hk)
    have HJ := Lib.hid (fun (h : ((l.map bl).flatten).length ≤ 100000) V hV => joined6_any l ao cap hcap hl h V hV)
    have hfl : (bl front ++ (l.map bl).flatten).length = front.size + ((l.map bl).flatten).length := by rw [List.length_append, bl_length]
    generalize (l.map bl).flatten = F at *
    obtain ⟨n, hn⟩ : ∃ n, n = l.length := ⟨_, rfl⟩
    have HN := Lib.hid hn
    rw [← hn] at HA HJ hl ⊢
    have HFL := Lib.hid hfl
    have HZ := Lib.hid hz
    have HBG := Lib.hid hbg2
    have HF := Lib.hid hf
    clear hall hx hrow hbig hbg hbg2 hn hfl hz hcap hf
    go_enter Tryz.func111, Tryz.ntmps111
    go_wp2_with (go_at_call 63; refine (HA.out _ HROW.out).mono ?_; rintro e w1 ⟨rfl, b1⟩)
    go_loopw [6, 16] (fun sv iv wr => ∃ k : Nat, sv = .int .i64 ((front.size + (catL l k).length : Nat) : Int) ∧ iv = .int .i64 k ∧ k ≤ n ∧ Hid (Below w.heap.size w wr)) (fun _ iv _ => n - (intOf iv).toNat)
    case atStart => exact ⟨0, by simp [catL_zero], rfl, Nat.zero_le _, Lib.hid b1⟩
    case round =>
      obtain ⟨k, rfl, rfl, hkn, hb⟩ := hrel
      have hsz : front.size + (catL l k).length ≤ 20000000 := by have := HCL.out k; have := HBG.out; have := HF.out; omega
      by_cases hk : k < n
      · have hk' : (k : Int) < (n : Int) := by omega
        rcases HROW.out.below hb.out with e | ⟨b, off, rfl, hlt, hc⟩
        · exfalso; have := HN.out; rw [e] at this; simp at this; omega
        have ck := hc k (by have := HN.out; omega)
        have hy := HX.out k (by have := HN.out; omega)
        have HST : Hid (front.size + (catL l (k + 1)).length = front.size + (catL l k).length + (l.getD k ByteArray.empty).size) := Lib.hid (by rw [HS.out k (by have := HN.out; omega), List.length_append, bl_length, Nat.add_assoc])
        generalize l.getD k ByteArray.empty = y at *
        generalize front.size + (catL l k).length = q at *
        clear hc hlt
        go_wp2_with fail
        go_roundw
        case rel => exact ⟨k + 1, by rw [HST.out]; go_num, by go_num, by omega, hb⟩
        case measure => simp [intOf]; omega
      · obtain rfl : k = n := by omega
        have HT : Hid (front.size + (catL l k).length = (bl front ++ F).length) := Lib.hid (by rw [HFL.out]; have := HALL.out; rw [← HN.out] at this; rw [this])
        rw [HT.out] at hsz ⊢
        by_cases hT : 16384 < (bl front ++ F).length
        · have h' : (16384 : Int) < (((bl front ++ F).length : Nat) : Int) := by omega
          have HZ2 : Hid (z = ([], 5)) := Lib.hid (by rw [HZ.out, if_neg (fun h => by have := check_len h; omega)])
          clear hT hk hkn hsz
          generalize (bl front ++ F).length = q at *
          go_wp2_with fail
          go_ret2
          exact ⟨by rw [HZ2.out]; rfl, hb.out⟩
        · have h' : ¬ (16384 : Int) < (((bl front ++ F).length : Nat) : Int) := by omega
          have hFl : F.length ≤ 100000 := by have := HFL.out; omega
          have HJ2 := Lib.hid (HJ.out hFl)
          have hcat : front.size + (⟨F.toArray⟩ : ByteArray).size ≤ 9223372036854775807 := by rw [size_lit F]; have := HF.out; omega
          have HV := Lib.hid (fun V => valid6_any (front ++ ⟨F.toArray⟩) (by rw [ByteArray.size_append, size_lit F]; have := HF.out; omega) V)
          have HB : Hid (bl (front ++ ⟨F.toArray⟩) = bl front ++ F) := Lib.hid (cat_bytes _ _)
          have hV2 := HV.out
          rw [HB.out, ← HZ.out] at hV2
          unfold st2 at hV2
          have HV3 := Lib.hid hV2
          clear hT hk hkn hsz hFl HV hV2
          generalize (bl front ++ F).length = q at *
          generalize (⟨F.toArray⟩ : ByteArray) = ft at *
          go_wp2_with (first | (go_at_call 139; refine (HJ2.out _ (HROW.out.below hb.out)).mono ?_; rintro e w2 ⟨rfl, b2⟩) | (go_at_call 138; refine (HV3.out _).mono ?_; rintro e w3 ⟨rfl, b3⟩))
          go_ret2
          exact ⟨rfl, below_step (below_step hb.out b2) b3⟩
  · have HZ : Hid (z = ([], 2)) := Lib.hid (by
      rw [hz, if_neg]
      intro h
      exact hall (fun x hx' => h _ (List.mem_map.2 ⟨x, hx', rfl⟩)))
    have HA := Lib.hid (fun V hV => are_any l ao cap (by omega) (fun x h => Nat.le_trans (hx x h) (by decide)) V hV false (by simpa using hall))
    clear hall hx hz hrow
    generalize l.length = n at *
    go_enter Tryz.func111, Tryz.ntmps111
    go_wp2_with (go_at_call 63; refine (HA.out _ HROW.out).mono ?_; rintro e w1 ⟨rfl, b1⟩)
    go_ret2
    exact ⟨by rw [HZ.out]; rfl, b1⟩

set_option maxRecDepth 100000 in
theorem mac6_any (a b : ByteArray) (ha : a.size ≤ 100000) (hb : b.size ≤ 100000) (w : World) :
    Calls Tryz.prog 188 #[.string a, .string b] w fun e w' => e = .returned (st2 (madeP [109] [bl a, bl b])) ∧ Below w.heap.size w w' := by
  have HM := Lib.hid (join6_any ⟨#[109]⟩ [a, b] (some ⟨w.heap.size, 0, none⟩) 2 (by simp) (by decide) (by simp) (fun x hx => by simp at hx; rcases hx with rfl | rfl <;> assumption) _ (row2 w a b))
  have B0 := Lib.hid ((Below.refl w.heap.size w).alloc (Nat.le_refl _) (.cells #[.string a, .string b] 9))
  unfold st2 at HM
  clear ha hb
  go_enter Tryz.func188, Tryz.ntmps188
  go_wp2_with (go_at_call 111; refine HM.out.mono ?_; rintro e w1 ⟨rfl, b1⟩)
  go_ret2
  exact ⟨rfl, below_step B0.out b1⟩
set_option maxRecDepth 100000 in
theorem row6_any (l : List ByteArray) (ao : Option Addr) (cap : Nat) (hcap : l.length ≤ cap) (hl : l.length ≤ 1000) (hx : ∀ x ∈ l, x.size ≤ 100000) (w : World) (hrow : TxtRow w ao l) :
    Calls Tryz.prog 70 #[.slice ao l.length cap] w fun e w' => e = .returned (st2 (rowP (l.map bl))) ∧ Below w.heap.size w w' := by
  have HN := Lib.hid (fun V => num_any l.length (by rw [two64]; omega) V)
  have hs : (⟨(enc l.length).toArray⟩ : ByteArray).size ≤ 9 := by rw [size_lit]; exact (enc_len _).2
  have hcat : (⟨#[114]⟩ : ByteArray).size + (⟨(enc l.length).toArray⟩ : ByteArray).size ≤ 9223372036854775807 := by
    have h3 : (⟨#[114]⟩ : ByteArray).size = 1 := rfl
    omega
  have hf : (⟨#[114]⟩ ++ ⟨(enc l.length).toArray⟩ : ByteArray).size ≤ 100 := by
    rw [ByteArray.size_append]
    have h3 : (⟨#[114]⟩ : ByteArray).size = 1 := rfl
    omega
  have HE : Hid (bl (⟨#[114]⟩ ++ ⟨(enc l.length).toArray⟩ : ByteArray) = 114 :: enc (l.map bl).length) := Lib.hid (by rw [cat_front, bl_mk, List.length_map])
  have hM := fun V hV => join6_any (⟨#[114]⟩ ++ ⟨(enc l.length).toArray⟩) l ao cap hcap hf hl hx V hV
  rw [HE.out, show madeP (114 :: enc (l.map bl).length) (l.map bl) = rowP (l.map bl) from rfl] at hM
  unfold st2 at hM
  have HM := Lib.hid hM
  have HROW := Lib.hid hrow
  have hcv : ∀ V : World, (convert 3 108 (.int .i64 ((l.length : Nat) : Int))).run Tryz.prog V = .ok (.int .u64 ((l.length : Nat) : Int)) V := fun V => by
    have hw : IntKind.u64.wrap ((l.length : Nat) : Int) = ((l.length : Nat) : Int) := IntWalk.u64_in _ (by omega)
    go_simp
  generalize (⟨(enc l.length).toArray⟩ : ByteArray) = t at *
  generalize rowP (l.map bl) = rp at *
  obtain ⟨n, hn⟩ : ∃ n, n = l.length := ⟨_, rfl⟩
  rw [← hn] at HN hcv HM ⊢
  clear hs hf hx hrow hn hl hM hcap
  go_enter Tryz.func70, Tryz.ntmps70
  go_wp2_with (first | (go_at_call 74; refine (HN.out _).mono ?_; rintro e w1 ⟨rfl, b1⟩) | (go_at_call 111; refine (HM.out _ (HROW.out.below b1)).mono ?_; rintro e w2 ⟨rfl, b2⟩))
  go_ret2
  exact ⟨rfl, below_step b1 b2⟩
end Go.Proofs.YtbdlegjklfkdmaaGreatDoor.Pl
