/- OctetApart answers true, whatever it is given. -/
import Derived.Test.YtdddmaobmdinbaaSrc
import Derived.Test.YtdddmaobmdinbaaPlainc
import Derived.Test.YtdddmaobmdinbaaAlive
import Derived.Deep.RegionHeld3
namespace Go.Proofs.Ytdddmaobmdinbaa.Pl
open Go.RowKit

theorem rowT_inj : ∀ (ss ts : List ByteArray), ss.length = ts.length → (∀ s ∈ ss, s.size < 256 ^ 8) → (∀ t ∈ ts, t.size < 256 ^ 8) → rowT ss = rowT ts → ss = ts
  | [], [], _, _, _, _ => rfl
  | s :: ss, t :: ts, hl, h1, h2, h => by
    have e1 : rowT (s :: ss) = txt s.data.toList ++ rowT ss := by simp [rowT]
    have e2 : rowT (t :: ts) = txt t.data.toList ++ rowT ts := by simp [rowT]
    rw [e1, e2] at h
    obtain ⟨ha, hb⟩ := txt_front (by have := h1 s (by simp); simpa using this) (by have := h2 t (by simp); simpa using this) h
    have ih := rowT_inj ss ts (by simpa using hl) (fun x hx => h1 x (by simp [hx])) (fun x hx => h2 x (by simp [hx])) hb
    rw [ih, ByteArray.ext (Array.toList_inj.1 ha)]
  | [], _ :: _, hl, _, _, _ => by simp at hl
  | _ :: _, [], hl, _, _, _ => by simp at hl
theorem size_le_tot {ss : List ByteArray} {s : ByteArray} (h : s ∈ ss) : s.size ≤ tot ss := by
  induction ss with
  | nil => cases h
  | cons a r ih =>
    have e : tot (a :: r) = a.size + tot r := by simp [tot]
    rcases List.mem_cons.1 h with rfl | h
    · omega
    · have := ih h; omega
theorem getD_le_tot {ss : List ByteArray} {j : Nat} (h : j < ss.length) : (ss.getD j ⟨#[]⟩).size ≤ tot ss := by
  have e : ss.getD j ⟨#[]⟩ = ss[j] := by simp [List.getD, h]
  rw [e]
  exact size_le_tot (List.getElem_mem h)
theorem longB_no {ss : List ByteArray} (h : longB ss = false) : tot ss ≤ 8192 ∧ ss.length ≤ 300 := by
  simp [longB] at h; omega

theorem keep2 {W w1 : World} {p q : Addr} {x y : Value} (hb : Below W.heap.size W w1) (h : W.cell? p = some x ∧ W.cell? q = some y) : w1.cell? p = some x ∧ w1.cell? q = some y :=
  ⟨(hb.cell (World.block_lt_of_cell? _ _ h.1)).trans h.1, (hb.cell (World.block_lt_of_cell? _ _ h.2)).trans h.2⟩
theorem begins_num (v u : Nat) (hv : v < 256 ^ 8) (hu : u < 256 ^ 8) (r : Bool) (hr : decide (v = u) = r) (w : World) :
    Calls Try.prog 23 #[.string ⟨(enc v).toArray⟩, .string ⟨(enc u).toArray⟩] w fun e w' => e = .returned (.bool r) ∧ w = w' := by
  refine begins_any _ _ w r ?_
  rw [← hr, size_lit]
  by_cases h : v = u
  · subst h
    simp
  · rw [decide_eq_false h, decide_eq_false_iff_not]
    intro e
    exact h (enc_cut hv hu (by simpa using e))
theorem begins_txt (x y : ByteArray) (hx : x.size < 256 ^ 8) (hy : y.size < 256 ^ 8) (r : Bool) (hr : decide (x = y) = r) (w : World) :
    Calls Try.prog 23 #[.string ⟨(txt x.data.toList).toArray⟩, .string ⟨(txt y.data.toList).toArray⟩] w fun e w' => e = .returned (.bool r) ∧ w = w' := by
  refine begins_any _ _ w r ?_
  rw [← hr, size_lit]
  by_cases h : x = y
  · subst h
    simp
  · rw [decide_eq_false h, decide_eq_false_iff_not]
    intro e
    exact h (ByteArray.ext (Array.toList_inj.1 (txt_cut (by simpa using hx) (by simpa using hy) (by simpa using e))))

set_option maxRecDepth 100000 in
theorem apart_long1 (v u : Int) (p q : Option Addr) (n m c1 c2 : Nat) (ss : List ByteArray) (w : World) (h1 : Src w p n ss) (hn : n ≤ 9223372036854775807) (hl : longB ss = true) :
    Calls Try.prog 7 #[.int .u64 v, .int .u64 u, .slice p n c1, .slice q m c2] w fun e w' => e = .returned (.bool true) ∧ Below w.heap.size w w' := by
  have H1 := long_src p n c1 ss w h1 hn
  rw [hl] at H1
  have H := Lib.hid H1
  clear H1
  go_enter Try.func7, Try.ntmps7
  go_wp2_with fail
  refine H.out.mono ?_; rintro e w' ⟨rfl, rfl⟩
  go_wp2_with fail
  refine (alive_any _).mono ?_; rintro e w' ⟨rfl, hb⟩
  go_wp2_with fail
  go_ret
  exact ⟨rfl, hb⟩
set_option maxRecDepth 100000 in
theorem apart_long2 (v u : Int) (p q : Option Addr) (n m c1 c2 : Nat) (ss ts : List ByteArray) (w : World) (h1 : Src w p n ss) (hn : n ≤ 9223372036854775807) (hl : longB ss = false) (h2 : Src w q m ts) (hm : m ≤ 9223372036854775807) (hl2 : longB ts = true) :
    Calls Try.prog 7 #[.int .u64 v, .int .u64 u, .slice p n c1, .slice q m c2] w fun e w' => e = .returned (.bool true) ∧ Below w.heap.size w w' := by
  have H1 := long_src p n c1 ss w h1 hn
  have H2 := long_src q m c2 ts w h2 hm
  rw [hl] at H1
  rw [hl2] at H2
  have H := Lib.hid H1
  have G := Lib.hid H2
  clear H1 H2
  go_enter Try.func7, Try.ntmps7
  go_wp2_with fail
  refine H.out.mono ?_; rintro e w' ⟨rfl, rfl⟩
  go_wp2_with fail
  refine G.out.mono ?_; rintro e w' ⟨rfl, rfl⟩
  go_wp2_with fail
  refine (alive_any _).mono ?_; rintro e w' ⟨rfl, hb⟩
  go_wp2_with fail
  go_ret
  exact ⟨rfl, hb⟩
set_option maxHeartbeats 1000000 in
set_option maxRecDepth 100000 in
theorem apart_00 (v u : Nat) (p q : Option Addr) (c1 c2 : Nat) (ss ts : List ByteArray) (w : World) (hv : v < 256 ^ 8) (hu : u < 256 ^ 8) (h1 : Src w p 0 ss) (hl : longB ss = false) (h2 : Src w q 0 ts) (hl2 : longB ts = false) (hp : p = none → c1 = 0) (hq : q = none → c2 = 0) :
    Calls Try.prog 7 #[.int .u64 v, .int .u64 u, .slice p 0 c1, .slice q 0 c2] w fun e w' => e = .returned (.bool true) ∧ Below w.heap.size w w' := by
  have l1 := (enc_len v).2
  have l2 := (enc_len u).2
  have b1 := longB_no hl
  have b2 := longB_no hl2
  have hn : 0 ≤ 300 := by have := h1.1; omega
  have hm : 0 ≤ 300 := by have := h2.1; omega
  have HL := long_src p 0 c1 ss w h1 (by omega)
  have HL2 := long_src q 0 c2 ts w h2 (by omega)
  rw [hl] at HL
  rw [hl2] at HL2
  have A1 := Lib.hid HL
  have A2 := Lib.hid HL2
  have HV := Lib.hid hv
  have HU := Lib.hid hu
  have S1 := Lib.hid h1
  have S2 := Lib.hid h2
  have B1 := Lib.hid b1
  have B2 := Lib.hid b2
  obtain ⟨r, hr⟩ : ∃ r, decide (v = u) = r := ⟨_, rfl⟩
  have f1 : ((v : Int) == (u : Int)) = r := by
    rw [← hr]
    by_cases h : v = u
    · subst h; simp
    · rw [decide_eq_false h, beq_eq_false_iff_ne]; omega
  have HR := Lib.hid hr
  obtain ⟨r2, hr2⟩ : ∃ r2, decide (ss = ts) = r2 := ⟨_, rfl⟩
  have F2 : Hid (0 = 0 → (rowT ss == rowT ts) = r2) := fun hnm => by
    rw [← hr2]
    by_cases h : ss = ts
    · subst h; simp
    · rw [decide_eq_false h, beq_eq_false_iff_ne]
      intro e
      exact h (rowT_inj ss ts (by rw [h1.1, h2.1, hnm]) (fun x hx => by rw [two64]; have := size_le_tot hx; omega) (fun x hx => by rw [two64]; have := size_le_tot hx; omega) e)
  have g1 : (rowT ss).length ≤ 140737488355328 := by have := rowT_len ss; omega
  have g2 : (rowT ts).length ≤ 140737488355328 := by have := rowT_len ts; omega
  have HS : Hid (∀ W, Src W p 0 ss → Src W q 0 ts → Calls Try.prog 22 #[.slice p 0 c1, .slice q 0 c2] W fun e w' => e = .returned (.bool r2) ∧ Below W.heap.size W w') := fun W k1 k2 => by
    have h := same_src p q 0 0 c1 c2 ss ts W (by omega) k1 k2
    rw [hr2] at h
    exact h
  clear hr2
  clear HL HL2 hv hu h1 h2 b1 b2 hr hl hl2
  go_enter Try.func7, Try.ntmps7
  go_wp2_with fail
  refine A1.out.mono ?_; rintro e w' ⟨rfl, rfl⟩
  go_wp2_with fail
  refine A2.out.mono ?_; rintro e w' ⟨rfl, rfl⟩
  go_wp2_with fail
  refine (num_any _ HV.out _).mono ?_; rintro e w1 ⟨rfl, hb1⟩
  go_wp2_with fail
  refine (num_any _ HU.out _).mono ?_; rintro e w2 ⟨rfl, hb2⟩
  go_wp2_with fail
  refine (begins_num v u HV.out HU.out r HR.out _).mono ?_; rintro e w' ⟨rfl, rfl⟩
  go_wp2_with fail
  refine wp_loop_rounds 1 ?_
  rw [rounds_succ]
  go_wp2_with (at_builtin; refine wpList_copy_texts rfl _ rfl p 0 c1 ss rfl ?c1 ?c2 ?c3 ?_)
  case c1 => exact S1.out.below (below_step hb1 hb2)
  case c2 => omega
  case c3 => exact hp
  intro q1 k1 w3 hs3 hb3
  go_wp2_with fail
  refine (row_src q1 0 k1 ss _ hs3 (by omega) g1).mono ?_; rintro e w4 ⟨rfl, hb4⟩
  go_wp2_with (at_builtin; refine wpList_copy_texts rfl _ rfl q 0 c2 ts rfl ?d1 ?d2 ?d3 ?_)
  case d1 => exact S2.out.below (below_step (below_step (below_step hb1 hb2) hb3) hb4)
  case d2 => omega
  case d3 => exact hq
  intro q2 k2 w5 hs5 hb5
  go_wp2_with fail
  refine (row_src q2 0 k2 ts _ hs5 (by omega) g2).mono ?_; rintro e w6 ⟨rfl, hb6⟩
  go_wp2_with fail
  have f2 := F2.out (by trivial)
  have hall : Below w.heap.size w w6 := below_step (below_step (below_step (below_step (below_step hb1 hb2) hb3) hb4) hb5) hb6
  refine (HS.out _ (S1.out.below hall) (S2.out.below hall)).mono ?_; rintro e w7 ⟨rfl, hb7⟩
  go_wp2_with fail
  refine (alive_any _).mono ?_; rintro e w8 ⟨rfl, hb8⟩
  go_wp2_with fail
  go_ret
  exact ⟨rfl, below_step (below_step hall hb7) hb8⟩
set_option maxHeartbeats 1000000 in
set_option maxRecDepth 100000 in
theorem apart_0m (v u : Nat) (p q : Option Addr) (m c1 c2 : Nat) (ss ts : List ByteArray) (w : World) (hv : v < 256 ^ 8) (hu : u < 256 ^ 8) (h1 : Src w p 0 ss) (hl : longB ss = false) (h2 : Src w q m ts) (hl2 : longB ts = false) (hm0 : 0 < m) :
    Calls Try.prog 7 #[.int .u64 v, .int .u64 u, .slice p 0 c1, .slice q m c2] w fun e w' => e = .returned (.bool true) ∧ Below w.heap.size w w' := by
  have l1 := (enc_len v).2
  have l2 := (enc_len u).2
  have b1 := longB_no hl
  have b2 := longB_no hl2
  have hn : 0 ≤ 300 := by have := h1.1; omega
  have hm : m ≤ 300 := by have := h2.1; omega
  have HL := long_src p 0 c1 ss w h1 (by omega)
  have HL2 := long_src q m c2 ts w h2 (by omega)
  rw [hl] at HL
  rw [hl2] at HL2
  have A1 := Lib.hid HL
  have A2 := Lib.hid HL2
  have HV := Lib.hid hv
  have HU := Lib.hid hu
  have S1 := Lib.hid h1
  have S2 := Lib.hid h2
  have B1 := Lib.hid b1
  have B2 := Lib.hid b2
  obtain ⟨r, hr⟩ : ∃ r, decide (v = u) = r := ⟨_, rfl⟩
  have f1 : ((v : Int) == (u : Int)) = r := by
    rw [← hr]
    by_cases h : v = u
    · subst h; simp
    · rw [decide_eq_false h, beq_eq_false_iff_ne]; omega
  have HR := Lib.hid hr
  have f3 : ((0 : Int) != (m : Int)) = true := by rw [bne_iff_ne]; omega
  clear HL HL2 hv hu h1 h2 b1 b2 hr hl hl2
  go_enter Try.func7, Try.ntmps7
  go_wp2_with fail
  refine A1.out.mono ?_; rintro e w' ⟨rfl, rfl⟩
  go_wp2_with fail
  refine A2.out.mono ?_; rintro e w' ⟨rfl, rfl⟩
  go_wp2_with fail
  refine (num_any _ HV.out _).mono ?_; rintro e w1 ⟨rfl, hb1⟩
  go_wp2_with fail
  refine (num_any _ HU.out _).mono ?_; rintro e w2 ⟨rfl, hb2⟩
  go_wp2_with fail
  refine (begins_num v u HV.out HU.out r HR.out _).mono ?_; rintro e w' ⟨rfl, rfl⟩
  go_wp2_with fail
  refine wp_loop_rounds 1 ?_
  rw [rounds_succ]
  go_wp2_with fail
  refine (alive_any _).mono ?_; rintro e w3 ⟨rfl, hb3⟩
  go_wp2_with fail
  go_ret
  exact ⟨rfl, below_step (below_step hb1 hb2) hb3⟩
set_option maxHeartbeats 1000000 in
set_option maxRecDepth 100000 in
theorem apart_n0 (v u : Nat) (p q : Option Addr) (n c1 c2 : Nat) (ss ts : List ByteArray) (w : World) (hv : v < 256 ^ 8) (hu : u < 256 ^ 8) (h1 : Src w p n ss) (hl : longB ss = false) (h2 : Src w q 0 ts) (hl2 : longB ts = false) (hn0 : 0 < n) :
    Calls Try.prog 7 #[.int .u64 v, .int .u64 u, .slice p n c1, .slice q 0 c2] w fun e w' => e = .returned (.bool true) ∧ Below w.heap.size w w' := by
  have l1 := (enc_len v).2
  have l2 := (enc_len u).2
  have b1 := longB_no hl
  have b2 := longB_no hl2
  have hn : n ≤ 300 := by have := h1.1; omega
  have hm : 0 ≤ 300 := by have := h2.1; omega
  have HL := long_src p n c1 ss w h1 (by omega)
  have HL2 := long_src q 0 c2 ts w h2 (by omega)
  rw [hl] at HL
  rw [hl2] at HL2
  have A1 := Lib.hid HL
  have A2 := Lib.hid HL2
  have HV := Lib.hid hv
  have HU := Lib.hid hu
  have S1 := Lib.hid h1
  have S2 := Lib.hid h2
  have B1 := Lib.hid b1
  have B2 := Lib.hid b2
  obtain ⟨r, hr⟩ : ∃ r, decide (v = u) = r := ⟨_, rfl⟩
  have f1 : ((v : Int) == (u : Int)) = r := by
    rw [← hr]
    by_cases h : v = u
    · subst h; simp
    · rw [decide_eq_false h, beq_eq_false_iff_ne]; omega
  have HR := Lib.hid hr
  have f3 : ((n : Int) != (0 : Int)) = true := by rw [bne_iff_ne]; omega
  clear HL HL2 hv hu h1 h2 b1 b2 hr hl hl2
  go_enter Try.func7, Try.ntmps7
  go_wp2_with fail
  refine A1.out.mono ?_; rintro e w' ⟨rfl, rfl⟩
  go_wp2_with fail
  refine A2.out.mono ?_; rintro e w' ⟨rfl, rfl⟩
  go_wp2_with fail
  refine (num_any _ HV.out _).mono ?_; rintro e w1 ⟨rfl, hb1⟩
  go_wp2_with fail
  refine (num_any _ HU.out _).mono ?_; rintro e w2 ⟨rfl, hb2⟩
  go_wp2_with fail
  refine (begins_num v u HV.out HU.out r HR.out _).mono ?_; rintro e w' ⟨rfl, rfl⟩
  go_wp2_with fail
  refine wp_loop_rounds 1 ?_
  rw [rounds_succ]
  go_wp2_with fail
  refine (alive_any _).mono ?_; rintro e w3 ⟨rfl, hb3⟩
  go_wp2_with fail
  go_ret
  exact ⟨rfl, below_step (below_step hb1 hb2) hb3⟩
set_option maxHeartbeats 1000000 in
set_option maxRecDepth 100000 in
theorem apart_nm (v u : Nat) (b off b' off' n m c1 c2 : Nat) (ss ts : List ByteArray) (w : World) (hv : v < 256 ^ 8) (hu : u < 256 ^ 8) (h1 : Src w (some ⟨b, off, none⟩) n ss) (hl : longB ss = false) (h2 : Src w (some ⟨b', off', none⟩) m ts) (hl2 : longB ts = false) (t1 : TextsAt w b off n ss) (t2 : TextsAt w b' off' m ts) :
    Calls Try.prog 7 #[.int .u64 v, .int .u64 u, .slice (some ⟨b, off, none⟩) n c1, .slice (some ⟨b', off', none⟩) m c2] w fun e w' => e = .returned (.bool true) ∧ Below w.heap.size w w' := by
  have l1 := (enc_len v).2
  have l2 := (enc_len u).2
  have b1 := longB_no hl
  have b2 := longB_no hl2
  have hn : n ≤ 300 := by have := h1.1; omega
  have hm : m ≤ 300 := by have := h2.1; omega
  have HL := long_src (some ⟨b, off, none⟩) n c1 ss w h1 (by omega)
  have HL2 := long_src (some ⟨b', off', none⟩) m c2 ts w h2 (by omega)
  rw [hl] at HL
  rw [hl2] at HL2
  have A1 := Lib.hid HL
  have A2 := Lib.hid HL2
  have HV := Lib.hid hv
  have HU := Lib.hid hu
  have T1 := Lib.hid t1
  have T2 := Lib.hid t2
  clear t1 t2
  have hp : (some ⟨b, off, none⟩ : Option Addr) = none → c1 = 0 := fun h => by cases h
  have hq : (some ⟨b', off', none⟩ : Option Addr) = none → c2 = 0 := fun h => by cases h
  have S1 := Lib.hid h1
  have S2 := Lib.hid h2
  have B1 := Lib.hid b1
  have B2 := Lib.hid b2
  obtain ⟨r, hr⟩ : ∃ r, decide (v = u) = r := ⟨_, rfl⟩
  have f1 : ((v : Int) == (u : Int)) = r := by
    rw [← hr]
    by_cases h : v = u
    · subst h; simp
    · rw [decide_eq_false h, beq_eq_false_iff_ne]; omega
  have HR := Lib.hid hr
  obtain ⟨r2, hr2⟩ : ∃ r2, decide (ss = ts) = r2 := ⟨_, rfl⟩
  have F2 : Hid (n = m → (rowT ss == rowT ts) = r2) := fun hnm => by
    rw [← hr2]
    by_cases h : ss = ts
    · subst h; simp
    · rw [decide_eq_false h, beq_eq_false_iff_ne]
      intro e
      exact h (rowT_inj ss ts (by rw [h1.1, h2.1, hnm]) (fun x hx => by rw [two64]; have := size_le_tot hx; omega) (fun x hx => by rw [two64]; have := size_le_tot hx; omega) e)
  have g1 : (rowT ss).length ≤ 140737488355328 := by have := rowT_len ss; omega
  have g2 : (rowT ts).length ≤ 140737488355328 := by have := rowT_len ts; omega
  have HS : Hid (∀ W, Src W (some ⟨b, off, none⟩) n ss → Src W (some ⟨b', off', none⟩) m ts → Calls Try.prog 22 #[.slice (some ⟨b, off, none⟩) n c1, .slice (some ⟨b', off', none⟩) m c2] W fun e w' => e = .returned (.bool r2) ∧ Below W.heap.size W w') := fun W k1 k2 => by
    have h := same_src (some ⟨b, off, none⟩) (some ⟨b', off', none⟩) n m c1 c2 ss ts W (by omega) k1 k2
    rw [hr2] at h
    exact h
  clear hr2
  clear HL HL2 hv hu h1 h2 b1 b2 hr hl hl2
  go_enter Try.func7, Try.ntmps7
  go_wp2_with fail
  refine A1.out.mono ?_; rintro e w' ⟨rfl, rfl⟩
  go_wp2_with fail
  refine A2.out.mono ?_; rintro e w' ⟨rfl, rfl⟩
  go_wp2_with fail
  refine (num_any _ HV.out _).mono ?_; rintro e w1 ⟨rfl, hb1⟩
  go_wp2_with fail
  refine (num_any _ HU.out _).mono ?_; rintro e w2 ⟨rfl, hb2⟩
  go_wp2_with fail
  refine (begins_num v u HV.out HU.out r HR.out _).mono ?_; rintro e w' ⟨rfl, rfl⟩
  go_wp2_with fail
  go_loopw [9] (fun i wr => ∃ j : Nat, j ≤ n ∧ j ≤ m ∧ i = .int .i64 j ∧ Below w.heap.size w wr) (fun i _ => n - (intOf i).toNat)
  case atStart => exact ⟨0, Nat.zero_le _, Nat.zero_le _, rfl, below_step hb1 hb2⟩
  case round =>
    obtain ⟨j, hj, hjm, rfl, hbel⟩ := hrel
    by_cases hlt : j < n ∧ j < m
    · obtain ⟨hlt, hlt2⟩ := hlt
      have g3 := (T1.out.below hbel).2 j hlt
      have g4 := (T2.out.below hbel).2 j hlt2
      have z1 : (ss.getD j ⟨#[]⟩).size ≤ 8192 := Nat.le_trans (getD_le_tot (by rw [T1.out.1]; exact hlt)) B1.out.1
      have z2 : (ts.getD j ⟨#[]⟩).size ≤ 8192 := Nat.le_trans (getD_le_tot (by rw [T2.out.1]; exact hlt2)) B2.out.1
      generalize hx : ss.getD j ⟨#[]⟩ = x at g3 z1
      generalize hy : ts.getD j ⟨#[]⟩ = y at g4 z2
      clear hx hy
      have q1 : (0 : Int) ≤ (j : Int) := by omega
      have q2 : (j : Int) < (n : Int) := by omega
      have q3 : (j : Int) < (m : Int) := by omega
      obtain ⟨r3, hr3⟩ : ∃ r3, decide (x = y) = r3 := ⟨_, rfl⟩
      have f3 : (x.toList == y.toList) = r3 := by
        rw [← hr3]
        by_cases h : x = y
        · subst h; simp
        · rw [decide_eq_false h, beq_eq_false_iff_ne]
          exact fun e => h (bytes_eq e)
      have HR3 := Lib.hid hr3
      clear hr3
      go_wp2_with fail
      go_region_held3 (fun W => W.cell? ⟨b, off + j, none⟩ = some (.string x) ∧ W.cell? ⟨b', off' + j, none⟩ = some (.string y)) (first | assumption | exact ⟨g3, g4⟩ | exact keep2 ‹_› ‹_›) (first | (go_at_call 14; refine (text_out _ _ (by omega)).mono ?_; rintro e w3 ⟨rfl, hb3⟩) | (go_at_call 23; refine (begins_txt x y (by rw [two64]; omega) (by rw [two64]; omega) r3 HR3.out _).mono ?_; rintro e w4 ⟨rfl, rfl⟩))
      go_wp2_with fail
      exact ⟨⟨j + 1, by omega, by omega, by go_num, below_step (below_step hbel (below_undrew ‹Below wr.drew.heap.size wr.drew _›)) hb3⟩, by simp [intOf]; omega⟩
    · have hstop : ¬ j < n ∨ ¬ j < m := by omega
      by_cases hnm : n = m
      · have f2 := F2.out hnm
        have f3 : ((n : Int) != (m : Int)) = false := by rw [bne_eq_false_iff_eq]; omega
        have hjn : ¬ j < n := by omega
        clear hlt hstop hnm
        go_wp2_with (at_builtin; refine wpList_copy_texts rfl _ rfl (some ⟨b, off, none⟩) n c1 ss rfl ?c1 ?c2 ?c3 ?_)
        case c1 => exact S1.out.below (hbel)
        case c2 => omega
        case c3 => exact hp
        intro q1 k1 w3 hs3 hb3
        go_wp2_with fail
        refine (row_src q1 n k1 ss _ hs3 (by omega) g1).mono ?_; rintro e w4 ⟨rfl, hb4⟩
        go_wp2_with (at_builtin; refine wpList_copy_texts rfl _ rfl (some ⟨b', off', none⟩) m c2 ts rfl ?d1 ?d2 ?d3 ?_)
        case d1 => exact S2.out.below (below_step (below_step (hbel) hb3) hb4)
        case d2 => omega
        case d3 => exact hq
        intro q2 k2 w5 hs5 hb5
        go_wp2_with fail
        refine (row_src q2 m k2 ts _ hs5 (by omega) g2).mono ?_; rintro e w6 ⟨rfl, hb6⟩
        go_wp2_with fail
        have hall : Below w.heap.size w w6 := below_step (below_step (below_step (below_step (hbel) hb3) hb4) hb5) hb6
        refine (HS.out _ (S1.out.below hall) (S2.out.below hall)).mono ?_; rintro e w7 ⟨rfl, hb7⟩
        go_wp2_with fail
        refine (alive_any _).mono ?_; rintro e w8 ⟨rfl, hb8⟩
        go_wp2_with fail
        go_ret
        exact ⟨rfl, below_step (below_step hall hb7) hb8⟩
      · have f3 : ((n : Int) != (m : Int)) = true := by rw [bne_iff_ne]; omega
        have hjm2 : j < n → ¬ j < m := by omega
        by_cases hjn : j < n
        all_goals
          first | (have hjm3 := hjm2 hjn; clear hlt hnm hstop hjm2) | clear hlt hnm hstop hjm2
          go_wp2_with fail
          refine (alive_any _).mono ?_; rintro e w3 ⟨rfl, hb3⟩
          go_wp2_with fail
          go_ret
          exact ⟨rfl, below_step hbel hb3⟩
end Go.Proofs.Ytdddmaobmdinbaa.Pl
