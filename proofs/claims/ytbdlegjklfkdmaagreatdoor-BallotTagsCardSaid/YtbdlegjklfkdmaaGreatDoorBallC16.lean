/- What term.nameSize and term.placeAt answer, and what they throw. -/
import Derived.Test.YtbdlegjklfkdmaaGreatDoorBallC7
import Derived.Test.YtbdlegjklfkdmaaGreatDoorBallC2
import Derived.Test.YtbdlegjklfkdmaaGreatDoorBallC15
import Derived.Laws.Tables
import Derived.Laws.Rows
import Derived.Deep.WholeRow
namespace Go.Proofs.YtbdlegjklfkdmaaGreatDoor.Pl
open Go.RowKit

def nameP6 (s : List UInt8) : Nat × Nat := if (rdt s 32).2.2 = 0 ∧ nameOK (rdt s 32).1 = false then (0, 7) else ((rdt s 32).2.1, (rdt s 32).2.2)

set_option maxHeartbeats 1000000 in
set_option maxRecDepth 100000 in
theorem namesize_any (s : ByteArray) (hs : s.size ≤ 281474976710656) (w : World) :
    Calls Tryz.prog 148 #[.string s] w (Size6 (nameP6 (bl s)) w) := by
  have hT := fun V => readtext_any s 32 V hs (by decide) (by decide)
  obtain ⟨r, hr⟩ : ∃ r, r = rdt (bl s) 32 := ⟨_, rfl⟩
  have hbl : s.data.toList = bl s := rfl
  have hlen := rdt_out (bl s) 32
  rw [hbl, ← hr] at hT
  obtain ⟨z, hz⟩ : ∃ z, z = nameP6 (bl s) := ⟨_, rfl⟩
  rw [← hz]
  unfold nameP6 at hz
  rw [← hr] at hz hlen
  obtain ⟨t, k, f⟩ := r
  have HN := Lib.hid (fun V => isname_any ⟨t.toArray⟩ (by show t.toArray.size ≤ _; rw [List.size_toArray]; rw [bl_length] at hlen; simp only at hlen; omega) V)
  rw [bl_mk] at HN
  have HT := Lib.hid hT
  have HZ := Lib.hid hz
  clear hr hs hbl hz hlen hT
  by_cases hf : f = 0
  · subst hf
    cases hn : nameOK t with
    | false =>
      rw [hn] at HN
      have HNN := Lib.hid hn
      clear hn
      go_enter Tryz.func148, Tryz.ntmps148
      go_wp2_with (first | (go_at_call 121; refine (HT.out _).mono ?_; rintro e w1 ⟨rfl, b1⟩) | (go_at_call 159; refine (need_ok _).mono ?_; rintro e w2 ⟨rfl, rfl⟩) | (go_at_call 160; refine (HN.out _).mono ?_; rintro e w3 ⟨rfl, b3⟩))
      have hz := HZ.out
      rw [if_pos (by first | exact ⟨rfl, HNN.out⟩ | exact ⟨trivial, HNN.out⟩)] at hz
      exact ⟨rfl, hz ▸ Size6.bad (f := 7) (by decide) (b1.trans (b3.mono b1.size))⟩
    | true =>
      rw [hn] at HN
      have HNN := Lib.hid hn
      clear hn
      go_enter Tryz.func148, Tryz.ntmps148
      go_wp2_with (first | (go_at_call 121; refine (HT.out _).mono ?_; rintro e w1 ⟨rfl, b1⟩) | (go_at_call 159; refine (need_ok _).mono ?_; rintro e w2 ⟨rfl, rfl⟩) | (go_at_call 160; refine (HN.out _).mono ?_; rintro e w3 ⟨rfl, b3⟩))
      go_ret
      have hz := HZ.out
      rw [if_neg (by rintro ⟨_, h⟩; rw [HNN.out] at h; cases h)] at hz
      exact hz ▸ Size6.ok (b1.trans (b3.mono b1.size))
  · have HF := Lib.hid hf
    clear HN
    go_enter Tryz.func148, Tryz.ntmps148
    go_wp2_with (first | (go_at_call 121; refine (HT.out _).mono ?_; rintro e w1 ⟨rfl, b1⟩) | (go_at_call 159; refine (need_bad f HF.out _).mono ?_; rintro e w2 ⟨rfl, rfl⟩))
    have hz := HZ.out
    rw [if_neg (by rintro ⟨h, _⟩; exact HF.out h)] at hz
    exact ⟨rfl, hz ▸ Size6.bad HF.out b1⟩

/-- A place, as the program has it. -/
def cellsPl (p : Pl6) : Array Value := #[.int .i64 p.at_, .int .i64 p.dep, .int .i64 p.head, .int .i64 p.parts]
def encPl (p : Pl6) : Value := .agg (cellsPl p)
def Place6 (p : Pl6) (e : Nat) (w : World) (x : Ending) (w' : World) : Prop := (if e = 0 then x = .returned (encPl p) else x = boom e) ∧ Below w.heap.size w w'
theorem Place6.ok {p : Pl6} {w w' : World} (h : Below w.heap.size w w') : Place6 p 0 w (.returned (encPl p)) w' := ⟨by rw [if_pos rfl], h⟩
theorem Place6.bad {p : Pl6} {f : Nat} {w w' : World} (hf : f ≠ 0) (h : Below w.heap.size w w') : Place6 p f w (boom f) w' := ⟨by rw [if_neg hf], h⟩
theorem pl_info (p : Pl6) : (Tryz.prog.info? 102).map (·.size) = some (cellsPl p).size := by kernel_rfl
theorem pl_info4 (x y z u : Int) : (Tryz.prog.info? 102).map (·.size) = some (#[Value.int .i64 x, .int .i64 y, .int .i64 z, .int .i64 u].size) := by kernel_rfl
theorem pl_one4 (x y z u : Int) : (#[Value.int .i64 x, .int .i64 y, .int .i64 z, .int .i64 u] : Array Value).all (·.oneCell') = true := by simp [Value.oneCell']
/-- The variable of a place, empty. -/
abbrev noPl : Array Value := #[.int .i64 0, .int .i64 0, .int .i64 0, .int .i64 0]

set_option maxHeartbeats 1000000 in
set_option maxRecDepth 100000 in
theorem placeat_deep (s : ByteArray) (a : Nat) (D : Nat) (hD : 16 < D) (hD2 : D ≤ 1000000) (p : Pl6) (w : World) :
    Calls Tryz.prog 136 #[.string s, .int .i64 a, .int .i64 D] w (Place6 p 60 w) := by
  have q : (16 : Int) < (D : Int) := by omega
  clear hD
  go_enter Tryz.func136, Tryz.ntmps136
  go_wp2_with fail
  exact ⟨rfl, Place6.bad (f := 60) (by decide) ((Below.refl _ _).alloc (Nat.le_refl _) _)⟩

/-- What storing the place leaves. -/
theorem pl_end (w V : World) (p : Pl6) (e : Nat) (he : e = 0) (N : V.heap[w.heap.size]? = some (.cells noPl 102 (0, 0))) (B : Below w.heap.size w V) (c : Array Value) (hc : c = cellsPl p) :
    (V.setRow w.heap.size c).heap[w.heap.size]? = some (.cells c 102 (0, 0)) ∧ (Tryz.prog.info? 102).map (·.size) = some c.size ∧ Place6 p e w (.returned (.agg c)) (V.setRow w.heap.size c) := by
  subst hc he
  exact ⟨setRow_heap _ _ _ _ _ _ N, pl_info p, Place6.ok (below_setRow B (Nat.le_refl _) _)⟩

set_option maxHeartbeats 4000000 in
set_option maxRecDepth 100000 in
theorem placeat_any (s : ByteArray) (a : Nat) (D : Nat) (hD : D ≤ 16) (ha : a ≤ s.size) (hs : s.size ≤ 281474976710656) (w : World) :
    Calls Tryz.prog 136 #[.string s, .int .i64 a, .int .i64 D] w (Place6 ⟨a, D, a + (headP ((bl s).drop a)).1, (headP ((bl s).drop a)).2.1⟩ (headP ((bl s).drop a)).2.2 w) := by
  have q : ¬ (16 : Int) < (D : Int) := by omega
  have N0 := Lib.hid (Go.heap_alloc_new w (.cells noPl 102))
  obtain ⟨z, hz⟩ : ∃ z, z = headP ((bl s).drop a) := ⟨_, rfl⟩
  rw [← hz]
  clear hD
  by_cases he : a = s.size
  · subst he
    rw [List.drop_of_length_le (by rw [bl_length]; exact Nat.le_refl _)] at hz
    have HZ := Lib.hid hz
    clear hz ha
    go_enter Tryz.func136, Tryz.ntmps136
    go_wp2_with fail
    exact ⟨rfl, HZ.out ▸ Place6.bad (f := 6) (by decide) ((Below.refl _ _).alloc (Nat.le_refl _) _)⟩
  · have q0 : ((a : Int) == (s.size : Int)) = false := by rw [beq_eq_false_iff_ne]; omega
    obtain ⟨b, hb⟩ : ∃ b : UInt8, b = (bl s).getD a 0 := ⟨_, rfl⟩
    have hc : (bl s).drop a = b :: (bl s).drop (a + 1) := by
      have hl : a < (bl s).length := by rw [bl_length]; omega
      rw [List.drop_eq_getElem_cons hl, hb]
      simp [List.getD_eq_getElem?_getD, hl]
    have hx : bl (s.extract (a + 1) s.size) = (bl s).drop (a + 1) := bl_from s (a + 1)
    have h1 : s.extract a (a + 1) = ⟨#[b]⟩ := bl_inj (by
      rw [bl_extract, show bl ⟨#[b]⟩ = [b] from rfl]
      rw [List.drop_take, hc]; simp)
    have sl1 : ∀ V : World, (Instr.sliceAt 9 (.string s) (some (.int .i64 (a : Int))) (some (.int .i64 ((a : Int) + 1))) none).run Tryz.prog V = .ok (.string ⟨#[b]⟩) V := fun V => by
      rw [← h1]; exact tslice_mid s a (a + 1) (by omega) (by omega) V
    have sl2 : ∀ V : World, (Instr.sliceAt 9 (.string s) (some (.int .i64 ((a : Int) + 1))) none none).run Tryz.prog V = .ok (.string (s.extract (a + 1) s.size)) V := tslice_from s (a + 1) (by omega)
    have HXS : Hid ((s.extract (a + 1) s.size).size ≤ 281474976710656) := Lib.hid (by rw [size_bl, hx, List.length_drop, bl_length]; omega)
    have hxl : (s.extract (a + 1) s.size).size + a + 1 = s.size := by rw [size_bl, hx, List.length_drop, bl_length]; omega
    rw [hc, ← hx] at hz
    clear hb hc hx h1
    generalize s.extract (a + 1) s.size = x at *
    have HT := Lib.hid (fun V => textsize_any x HXS.out V)
    have HN := Lib.hid (fun V => namesize_any x HXS.out V)
    have HR := Lib.hid (fun V => rowhead_any x HXS.out V)
    have HL := Lib.hid hxl
    simp only [headP] at hz
    have HB1 : Hid (Below w.heap.size w (w.alloc (.cells noPl 102))) := Lib.hid ((Below.refl _ _).alloc (Nat.le_refl _) _)
    by_cases e100 : b = 100
    · rw [if_pos e100] at hz
      subst e100
      have hsz := rdt_size (bl x) 1024
      have hT := HT.out
      have hq : (rdt (bl x) 1024).2.1 ≤ (bl x).length ∧ z = if (rdt (bl x) 1024).2.2 = 0 then (1 + (rdt (bl x) 1024).2.1, 0, 0) else (z.1, z.2.1, (rdt (bl x) 1024).2.2) := by
        refine ⟨hsz, ?_⟩
        rw [hz]
        split
        · rename_i h2; rw [h2]
        · rfl
      obtain ⟨r, hr⟩ : ∃ r : Nat × Nat, r = ((rdt (bl x) 1024).2.1, (rdt (bl x) 1024).2.2) := ⟨_, rfl⟩
      rw [← hr] at hT
      obtain ⟨k, f⟩ := r
      injection hr with hr1 hr2
      rw [← hr1, ← hr2] at hq
      obtain ⟨hk, hz2⟩ := hq
      replace hk : k ≤ 281474976710656 := by rw [bl_length] at hk; have := HXS.out; omega
      have HZ2 := Lib.hid hz2
      have HT2 := Lib.hid hT
      clear HT HN HR hT hz hsz hxl he hz2 hr1 hr2
      by_cases hf : f = 0
      · subst hf
        have HZ : Hid (z = (1 + k, 0, 0)) := Lib.hid (HZ2.out.trans (if_pos rfl))
        have HK := Lib.hid hk
        go_enter Tryz.func136, Tryz.ntmps136
        go_wp2_with fail
        refine (HT2.out _).mono ?_; rintro e w2 ⟨h2, b2⟩
        rw [if_pos rfl] at h2; subst h2
        have B2 := Lib.hid (HB1.out.trans (b2.mono HB1.out.size))
        have N2 := Lib.hid (heap_below b2 N0.out)
        clear b2
        go_wp2_with (refine wpList_store_row rfl 102 _ _ rfl w.heap.size #[.int .i64 (a : Int), .int .i64 (D : Int), .int .i64 ((a : Int) + 1 + (k : Int)), .int .i64 0] rfl rfl 102 noPl N2.out (pl_info4 _ _ _ _) rfl (pl_one4 _ _ _ _) ?_)
        obtain ⟨y1, y2, y3⟩ := pl_end w _ ⟨a, D, a + z.1, z.2.1⟩ z.2.2 (by rw [HZ.out]) N2.out B2.out #[.int .i64 (a : Int), .int .i64 (D : Int), .int .i64 ((a : Int) + 1 + (k : Int)), .int .i64 (0)] (by rw [HZ.out]; simp [cellsPl]; omega)
        refine bodyPost_ret (v := .agg _) ?_ rfl y3
        exact results_cell_row rfl _ _ w.heap.size 102 _ (0, 0) _ rfl y1 Tryz.underlying102 rfl y2
      · have HF := Lib.hid hf
        have HZ : Hid (z = (z.1, z.2.1, f)) := Lib.hid (HZ2.out.trans (if_neg hf))
        go_enter Tryz.func136, Tryz.ntmps136
        go_wp2_with fail
        refine (HT2.out _).mono ?_; rintro e w2 ⟨h2, b2⟩
        rw [if_neg HF.out] at h2; subst h2
        refine ⟨rfl, ?_⟩
        rw [HZ.out]
        exact Place6.bad HF.out (HB1.out.trans (b2.mono HB1.out.size))
    · rw [if_neg e100] at hz
      by_cases e97 : b = 97
      · rw [if_pos e97] at hz
        subst e97
        obtain ⟨n100, m100⟩ := str6_ne (a := ⟨#[97]⟩) (b := ⟨#[100]⟩) (by decide)
        have hsz := rdt_size (bl x) 32
        have hT := HN.out
        have hq : (nameP6 (bl x)).1 ≤ (bl x).length ∧ z = if (nameP6 (bl x)).2 = 0 then (1 + (nameP6 (bl x)).1, 0, 0) else (z.1, z.2.1, (nameP6 (bl x)).2) := by
          unfold nameP6
          split at hz
          · rename_i h; rw [if_pos h, hz]; exact ⟨Nat.zero_le _, rfl⟩
          · rename_i h; rw [if_neg h, hz]
            refine ⟨hsz, ?_⟩
            split
            · rename_i h2; simp only at h2; rw [h2]
            · rfl
        obtain ⟨r, hr⟩ : ∃ r : Nat × Nat, r = nameP6 (bl x) := ⟨_, rfl⟩
        rw [← hr] at hT
        rw [← hr] at hq
        obtain ⟨k, f⟩ := r
        obtain ⟨hk, hz2⟩ := hq
        replace hk : k ≤ 281474976710656 := by rw [bl_length] at hk; have := HXS.out; omega
        have HZ2 := Lib.hid hz2
        have HT2 := Lib.hid hT
        clear HT HN HR hT hz hsz hxl he hz2 hr
        by_cases hf : f = 0
        · subst hf
          have HZ : Hid (z = (1 + k, 0, 0)) := Lib.hid (HZ2.out.trans (if_pos rfl))
          have HK := Lib.hid hk
          go_enter Tryz.func136, Tryz.ntmps136
          go_wp2_with fail
          refine (HT2.out _).mono ?_; rintro e w2 ⟨h2, b2⟩
          rw [if_pos rfl] at h2; subst h2
          have B2 := Lib.hid (HB1.out.trans (b2.mono HB1.out.size))
          have N2 := Lib.hid (heap_below b2 N0.out)
          clear b2
          go_wp2_with (refine wpList_store_row rfl 102 _ _ rfl w.heap.size #[.int .i64 (a : Int), .int .i64 (D : Int), .int .i64 ((a : Int) + 1 + (k : Int)), .int .i64 0] rfl rfl 102 noPl N2.out (pl_info4 _ _ _ _) rfl (pl_one4 _ _ _ _) ?_)
          obtain ⟨y1, y2, y3⟩ := pl_end w _ ⟨a, D, a + z.1, z.2.1⟩ z.2.2 (by rw [HZ.out]) N2.out B2.out #[.int .i64 (a : Int), .int .i64 (D : Int), .int .i64 ((a : Int) + 1 + (k : Int)), .int .i64 (0)] (by rw [HZ.out]; simp [cellsPl]; omega)
          refine bodyPost_ret (v := .agg _) ?_ rfl y3
          exact results_cell_row rfl _ _ w.heap.size 102 _ (0, 0) _ rfl y1 Tryz.underlying102 rfl y2
        · have HF := Lib.hid hf
          have HZ : Hid (z = (z.1, z.2.1, f)) := Lib.hid (HZ2.out.trans (if_neg hf))
          go_enter Tryz.func136, Tryz.ntmps136
          go_wp2_with fail
          refine (HT2.out _).mono ?_; rintro e w2 ⟨h2, b2⟩
          rw [if_neg HF.out] at h2; subst h2
          refine ⟨rfl, ?_⟩
          rw [HZ.out]
          exact Place6.bad HF.out (HB1.out.trans (b2.mono HB1.out.size))
      · rw [if_neg e97] at hz
        by_cases e114 : b = 114
        · rw [if_pos e114] at hz
          subst e114
          obtain ⟨n100, m100⟩ := str6_ne (a := ⟨#[114]⟩) (b := ⟨#[100]⟩) (by decide)
          obtain ⟨n97, m97⟩ := str6_ne (a := ⟨#[114]⟩) (b := ⟨#[97]⟩) (by decide)
          have hsz : (rdn (bl x)).2.2 = 0 → (rdn (bl x)).2.1 ≤ (bl x).length := fun h => (rdn_sound (l := bl x) (v := (rdn (bl x)).1) (n := (rdn (bl x)).2.1) (by rw [← h])).2.1
          have hT := HR.out
          have hq : ((rowP6 (bl x)).2.2 = 0 → (rowP6 (bl x)).2.1 ≤ (bl x).length) ∧ ((rowP6 (bl x)).2.2 = 0 → (rowP6 (bl x)).1 ≤ 32) ∧ z = if (rowP6 (bl x)).2.2 = 0 then (1 + (rowP6 (bl x)).2.1, (rowP6 (bl x)).1, 0) else (z.1, z.2.1, (rowP6 (bl x)).2.2) := by
            unfold rowP6
            split at hz
            · rename_i h; rw [if_pos h, hz]; exact ⟨fun h => absurd h (by decide), fun h => absurd h (by decide), rfl⟩
            · rename_i h; rw [if_neg h, hz]
              refine ⟨hsz, fun h2 => ?_, ?_⟩
              · by_cases h3 : 32 < (rdn (bl x)).1
                · exact absurd ⟨h2, h3⟩ h
                · omega
              split
              · rename_i h2; rw [h2]
              · rfl
          obtain ⟨r, hr⟩ : ∃ r, r = rowP6 (bl x) := ⟨_, rfl⟩
          rw [← hr] at hT hq
          obtain ⟨v, k, f⟩ := r
          obtain ⟨hk, hv, hz2⟩ := hq
          have hx0 := HXS.out
          have HZ2 := Lib.hid hz2
          have HT2 := Lib.hid hT
          clear HT HN HR hT hz hsz hxl he hz2 hr
          by_cases hf : f = 0
          · subst hf
            replace hv : v ≤ 32 := hv rfl
            replace hk : k ≤ 281474976710656 := by have := hk rfl; rw [bl_length] at this; simp only at this; omega
            have HZ : Hid (z = (1 + k, v, 0)) := Lib.hid (HZ2.out.trans (if_pos rfl))
            have HK := Lib.hid hk
            go_enter Tryz.func136, Tryz.ntmps136
            go_wp2_with fail
            refine (HT2.out _).mono ?_; rintro e w2 ⟨h2, b2⟩
            rw [if_pos rfl] at h2; subst h2
            have B2 := Lib.hid (HB1.out.trans (b2.mono HB1.out.size))
            have N2 := Lib.hid (heap_below b2 N0.out)
            clear b2
            go_wp2_with (refine wpList_store_row rfl 102 _ _ rfl w.heap.size #[.int .i64 (a : Int), .int .i64 (D : Int), .int .i64 ((a : Int) + 1 + (k : Int)), .int .i64 (v : Int)] rfl rfl 102 noPl N2.out (pl_info4 _ _ _ _) rfl (pl_one4 _ _ _ _) ?_)
            obtain ⟨y1, y2, y3⟩ := pl_end w _ ⟨a, D, a + z.1, z.2.1⟩ z.2.2 (by rw [HZ.out]) N2.out B2.out #[.int .i64 (a : Int), .int .i64 (D : Int), .int .i64 ((a : Int) + 1 + (k : Int)), .int .i64 ((v : Int))] (by rw [HZ.out]; simp [cellsPl]; omega)
            refine bodyPost_ret (v := .agg _) ?_ rfl y3
            exact results_cell_row rfl _ _ w.heap.size 102 _ (0, 0) _ rfl y1 Tryz.underlying102 rfl y2
          · clear hv hk
            have HF := Lib.hid hf
            have HZ : Hid (z = (z.1, z.2.1, f)) := Lib.hid (HZ2.out.trans (if_neg hf))
            go_enter Tryz.func136, Tryz.ntmps136
            go_wp2_with fail
            refine (HT2.out _).mono ?_; rintro e w2 ⟨h2, b2⟩
            rw [if_neg HF.out] at h2; subst h2
            refine ⟨rfl, ?_⟩
            rw [HZ.out]
            exact Place6.bad HF.out (HB1.out.trans (b2.mono HB1.out.size))
        · rw [if_neg e114] at hz
          by_cases e104 : b = 104
          · rw [if_pos e104] at hz
            subst e104
            obtain ⟨n100, m100⟩ := str6_ne (a := ⟨#[104]⟩) (b := ⟨#[100]⟩) (by decide)
            obtain ⟨n97, m97⟩ := str6_ne (a := ⟨#[104]⟩) (b := ⟨#[97]⟩) (by decide)
            obtain ⟨n114, m114⟩ := str6_ne (a := ⟨#[104]⟩) (b := ⟨#[114]⟩) (by decide)
            clear HT HN HR hxl he
            have HZ : Hid (z = (1, 1, 0)) := Lib.hid hz
            clear hz
            have N2 := N0
            have B2 := HB1
            go_enter Tryz.func136, Tryz.ntmps136
            go_wp2_with (refine wpList_store_row rfl 102 _ _ rfl w.heap.size #[.int .i64 (a : Int), .int .i64 (D : Int), .int .i64 ((a : Int) + 1), .int .i64 1] rfl rfl 102 noPl N2.out (pl_info4 _ _ _ _) rfl (pl_one4 _ _ _ _) ?_)
            obtain ⟨y1, y2, y3⟩ := pl_end w _ ⟨a, D, a + z.1, z.2.1⟩ z.2.2 (by rw [HZ.out]) N2.out B2.out #[.int .i64 (a : Int), .int .i64 (D : Int), .int .i64 ((a : Int) + 1), .int .i64 (1)] (by rw [HZ.out]; simp [cellsPl])
            refine bodyPost_ret (v := .agg _) ?_ rfl y3
            exact results_cell_row rfl _ _ w.heap.size 102 _ (0, 0) _ rfl y1 Tryz.underlying102 rfl y2
          · rw [if_neg e104] at hz
            by_cases e109 : b = 109
            · rw [if_pos e109] at hz
              subst e109
              obtain ⟨n100, m100⟩ := str6_ne (a := ⟨#[109]⟩) (b := ⟨#[100]⟩) (by decide)
              obtain ⟨n97, m97⟩ := str6_ne (a := ⟨#[109]⟩) (b := ⟨#[97]⟩) (by decide)
              obtain ⟨n114, m114⟩ := str6_ne (a := ⟨#[109]⟩) (b := ⟨#[114]⟩) (by decide)
              obtain ⟨n104, m104⟩ := str6_ne (a := ⟨#[109]⟩) (b := ⟨#[104]⟩) (by decide)
              clear HT HN HR hxl he
              have HZ : Hid (z = (1, 2, 0)) := Lib.hid hz
              clear hz
              have N2 := N0
              have B2 := HB1
              go_enter Tryz.func136, Tryz.ntmps136
              go_wp2_with (refine wpList_store_row rfl 102 _ _ rfl w.heap.size #[.int .i64 (a : Int), .int .i64 (D : Int), .int .i64 ((a : Int) + 1), .int .i64 2] rfl rfl 102 noPl N2.out (pl_info4 _ _ _ _) rfl (pl_one4 _ _ _ _) ?_)
              obtain ⟨y1, y2, y3⟩ := pl_end w _ ⟨a, D, a + z.1, z.2.1⟩ z.2.2 (by rw [HZ.out]) N2.out B2.out #[.int .i64 (a : Int), .int .i64 (D : Int), .int .i64 ((a : Int) + 1), .int .i64 (2)] (by rw [HZ.out]; simp [cellsPl])
              refine bodyPost_ret (v := .agg _) ?_ rfl y3
              exact results_cell_row rfl _ _ w.heap.size 102 _ (0, 0) _ rfl y1 Tryz.underlying102 rfl y2
            · rw [if_neg e109] at hz
              by_cases e115 : b = 115
              · rw [if_pos e115] at hz
                subst e115
                obtain ⟨n100, m100⟩ := str6_ne (a := ⟨#[115]⟩) (b := ⟨#[100]⟩) (by decide)
                obtain ⟨n97, m97⟩ := str6_ne (a := ⟨#[115]⟩) (b := ⟨#[97]⟩) (by decide)
                obtain ⟨n114, m114⟩ := str6_ne (a := ⟨#[115]⟩) (b := ⟨#[114]⟩) (by decide)
                obtain ⟨n104, m104⟩ := str6_ne (a := ⟨#[115]⟩) (b := ⟨#[104]⟩) (by decide)
                obtain ⟨n109, m109⟩ := str6_ne (a := ⟨#[115]⟩) (b := ⟨#[109]⟩) (by decide)
                clear HT HN HR hxl he
                have HZ : Hid (z = (1, 3, 0)) := Lib.hid hz
                clear hz
                have N2 := N0
                have B2 := HB1
                go_enter Tryz.func136, Tryz.ntmps136
                go_wp2_with (refine wpList_store_row rfl 102 _ _ rfl w.heap.size #[.int .i64 (a : Int), .int .i64 (D : Int), .int .i64 ((a : Int) + 1), .int .i64 3] rfl rfl 102 noPl N2.out (pl_info4 _ _ _ _) rfl (pl_one4 _ _ _ _) ?_)
                obtain ⟨y1, y2, y3⟩ := pl_end w _ ⟨a, D, a + z.1, z.2.1⟩ z.2.2 (by rw [HZ.out]) N2.out B2.out #[.int .i64 (a : Int), .int .i64 (D : Int), .int .i64 ((a : Int) + 1), .int .i64 (3)] (by rw [HZ.out]; simp [cellsPl])
                refine bodyPost_ret (v := .agg _) ?_ rfl y3
                exact results_cell_row rfl _ _ w.heap.size 102 _ (0, 0) _ rfl y1 Tryz.underlying102 rfl y2
              · rw [if_neg e115] at hz
                obtain ⟨n100, m100⟩ := str6_ne (a := ⟨#[b]⟩) (b := ⟨#[100]⟩) (fun h => e100 (by injection h with h; simpa using h))
                obtain ⟨n97, m97⟩ := str6_ne (a := ⟨#[b]⟩) (b := ⟨#[97]⟩) (fun h => e97 (by injection h with h; simpa using h))
                obtain ⟨n114, m114⟩ := str6_ne (a := ⟨#[b]⟩) (b := ⟨#[114]⟩) (fun h => e114 (by injection h with h; simpa using h))
                obtain ⟨n104, m104⟩ := str6_ne (a := ⟨#[b]⟩) (b := ⟨#[104]⟩) (fun h => e104 (by injection h with h; simpa using h))
                obtain ⟨n109, m109⟩ := str6_ne (a := ⟨#[b]⟩) (b := ⟨#[109]⟩) (fun h => e109 (by injection h with h; simpa using h))
                obtain ⟨n115, m115⟩ := str6_ne (a := ⟨#[b]⟩) (b := ⟨#[115]⟩) (fun h => e115 (by injection h with h; simpa using h))
                have t100 : (⟨#[100]⟩ : ByteArray).toList = [100] := by rw [Lib.toList_data]
                rw [t100] at n100 m100
                have t97 : (⟨#[97]⟩ : ByteArray).toList = [97] := by rw [Lib.toList_data]
                rw [t97] at n97 m97
                have t114 : (⟨#[114]⟩ : ByteArray).toList = [114] := by rw [Lib.toList_data]
                rw [t114] at n114 m114
                have t104 : (⟨#[104]⟩ : ByteArray).toList = [104] := by rw [Lib.toList_data]
                rw [t104] at n104 m104
                have t109 : (⟨#[109]⟩ : ByteArray).toList = [109] := by rw [Lib.toList_data]
                rw [t109] at n109 m109
                have t115 : (⟨#[115]⟩ : ByteArray).toList = [115] := by rw [Lib.toList_data]
                rw [t115] at n115 m115
                generalize (⟨#[b]⟩ : ByteArray) = sb at *
                have HZ : Hid (z = (0, 0, 7)) := Lib.hid hz
                clear hz HT HN HR hxl he
                go_enter Tryz.func136, Tryz.ntmps136
                go_wp2_with fail
                exact ⟨rfl, HZ.out ▸ Place6.bad (f := 7) (by decide) HB1.out⟩
end Go.Proofs.YtbdlegjklfkdmaaGreatDoor.Pl
