/- What cipher's turned answers: a text, each byte xor the key stream's. -/
import Derived.Test.YtogadffbnoinmaaDoorCipherStream
namespace Go.Proofs.YtogadffbnoinmaaDoor.Pl
open Go.RowKit Go.Shelf
attribute [local go_sem] Oper.semAt_some

def TurnedPost (sk nonce l : List Nat) (w : World) (e : Ending) (w' : World) : Prop := e = .returned (.string (bytesOf (hide sk nonce l))) ∧ Below w.heap.size w w'

/-- The world in which the text's bytes are laid. -/
theorem turned_world (p q : Nat) (s : ByteArray) (w W1 W2 : World) (h1 : w.alloc (.cells #[.pointer (some ⟨p, 0, none⟩), .pointer (some ⟨q, 0, none⟩)] 36) = W1) (h2 : Lib.bytesWorld W1 5 s = W2) :
    W1.heap.size = w.heap.size + 1 ∧ W2.heap.size = w.heap.size + 1 + 1 ∧ W2.heap[w.heap.size]? = some (.cells #[.pointer (some ⟨p, 0, none⟩), .pointer (some ⟨q, 0, none⟩)] 36 (0, 0)) ∧ At8 W2 (w.heap.size + 1) (nums s) ∧ Below w.heap.size w W2 := by
  have a1 := Go.heap_alloc_new w (.cells #[.pointer (some ⟨p, 0, none⟩), .pointer (some ⟨q, 0, none⟩)] 36)
  have a2 := size_alloc' w (.cells #[.pointer (some ⟨p, 0, none⟩), .pointer (some ⟨q, 0, none⟩)] 36)
  have a3 : Below w.heap.size w (w.alloc (.cells #[.pointer (some ⟨p, 0, none⟩), .pointer (some ⟨q, 0, none⟩)] 36)) := (Below.refl _ _).alloc (Nat.le_refl _) _
  rw [h1] at a1 a2 a3
  have b1 := at8_bytes W1 s
  have b2 := below_bytes W1 s
  have b3 := Lib.bytesWorld_size W1 5 s
  rw [h2] at b1 b2 b3
  rw [a2] at b1 b3
  exact ⟨a2, b3, heap_below b2 a1, b1, below_step a3 b2⟩

theorem at8_below {w w' : World} {g : Nat} {l : List Nat} (h : At8 w g l) (hb : Below w.heap.size w w') : At8 w' g l := fun j hj =>
  ⟨(hb.cell (p := ⟨g, j, none⟩) (World.block_lt_of_cell? _ _ (h j hj).1)).trans (h j hj).1, (hb.frozen (p := ⟨g, j, none⟩) (World.block_lt_of_cell? _ _ (h j hj).1)).trans (h j hj).2⟩
theorem at8_own {n : Nat} (B g : Nat) (f : List (Fin n × Fin 256) → List Nat) : OwnFrom B (fun pre W => At8 W g (f pre)) := by
  intro pre W W' row h hg hr j hj
  obtain ⟨h1, h2⟩ := h j hj
  have hlt := World.block_lt_of_cell? _ _ h1
  have hb : W'.heap[g]? = W.heap[g]? := by
    refine hg.block g hlt (fun e => ?_)
    obtain ⟨_, o, ho, hc⟩ := hr g e.symm
    unfold World.cell? at h1
    cases o <;> simp_all [Obj.isCells]
  exact ⟨(World.cell?_of_block (a := ⟨g, j, none⟩) hb).trans h1, (World.frozen?_of_block (a := ⟨g, j, none⟩) hb).trans h2⟩
/-- The caller's variables when pre has come. -/
def TurnI (w : World) (s : ByteArray) (cap : Nat) (pre : List (Fin s.size × Fin 256)) (W : World) : Prop :=
  Boxed W (w.heap.size + 1 + 1) 31 (.slice (some ⟨w.heap.size + 1, 0, none⟩) s.size cap) ∧ At8 W (w.heap.size + 1) (app (nums s) pre) ∧ Below w.heap.size w W
theorem turnI_own (w : World) (s : ByteArray) (cap B : Nat) (hB : w.heap.size ≤ B) : OwnFrom B (TurnI w s cap) :=
  OwnFrom.and (Own.from (boxed_own _ _ (fun _ => _)) _) (OwnFrom.and (at8_own _ _ _) (ownFrom_below (Nat.le_refl _) hB))
/-- The frame of a round. -/
def turnAct (p q : Nat) (nonce s : ByteArray) (cap : Nat) (w : World) (i v : Nat) : Act :=
  { tmps := #[.agg #[.pointer (some ⟨p, 0, none⟩), .pointer (some ⟨q, 0, none⟩)], .string nonce, .string s, .pointer (some ⟨w.heap.size, 0, none⟩), undef, undef, .string ⟨#[]⟩, .pointer (some ⟨w.heap.size + 1 + 1, 0, none⟩), .int .i64 (i : Int), .int .u8 (v : Int), .string s, .slice (some ⟨w.heap.size + 1, 0, none⟩) s.size cap, .agg #[.pointer (some ⟨p, 0, none⟩), .pointer (some ⟨q, 0, none⟩)], .string nonce, .slice (some ⟨w.heap.size + 1, 0, none⟩) s.size cap, .int .i64 (s.size : Int),
      .func (.func 28) #[] #[.pointer (some ⟨w.heap.size + 1 + 1 + 1 + 1 + 1, 0, none⟩), .pointer (some ⟨w.heap.size + 1 + 1 + 1, 0, none⟩), .pointer (some ⟨w.heap.size + 1 + 1 + 1 + 1, 0, none⟩)], .int .i64 (i : Int), .int .u8 (v : Int), undef, undef, undef, undef, undef, undef, undef, undef, undef], defers := [] }
theorem turned_boxes (p q : Nat) (nonce : ByteArray) (n cap : Nat) (l : List Nat) (w W2 W0 : World) (z2 : W2.heap.size = w.heap.size + 1 + 1) (a2 : At8 W2 (w.heap.size + 1) l) (b2 : Below w.heap.size w W2)
    (h : (((W2.alloc (.cells #[.slice (some ⟨w.heap.size + 1, 0, none⟩) n cap] 31)).alloc (.cells #[.pointer (some ⟨p, 0, none⟩), .pointer (some ⟨q, 0, none⟩)] 36)).alloc (.cells #[.string nonce] 9)).alloc (.cells #[.int .i64 (n : Int)] 3) = W0) :
    Boxed W0 (w.heap.size + 1 + 1) 31 (.slice (some ⟨w.heap.size + 1, 0, none⟩) n cap) ∧ W0.heap[w.heap.size + 1 + 1 + 1]? = some (.cells #[.pointer (some ⟨p, 0, none⟩), .pointer (some ⟨q, 0, none⟩)] 36 (0, 0)) ∧
    W0.heap[w.heap.size + 1 + 1 + 1 + 1]? = some (.cells #[.string nonce] 9 (0, 0)) ∧ W0.heap[w.heap.size + 1 + 1 + 1 + 1 + 1]? = some (.cells #[.int .i64 (n : Int)] 3 (0, 0)) ∧
    At8 W0 (w.heap.size + 1) l ∧ W0.heap.size = w.heap.size + 1 + 1 + 1 + 1 + 1 + 1 ∧ Below w.heap.size w W0 := by
  have h1 := Go.heap_alloc_new W2 (.cells #[.slice (some ⟨w.heap.size + 1, 0, none⟩) n cap] 31)
  have s1 := size_alloc' W2 (.cells #[.slice (some ⟨w.heap.size + 1, 0, none⟩) n cap] 31)
  have b1 := b2.alloc (by omega) (.cells #[.slice (some ⟨w.heap.size + 1, 0, none⟩) n cap] 31)
  have a1 := at8_below a2 ((Below.refl W2.heap.size W2).alloc (Nat.le_refl _) (.cells #[.slice (some ⟨w.heap.size + 1, 0, none⟩) n cap] 31))
  rw [z2] at h1 s1
  generalize W2.alloc (.cells #[.slice (some ⟨w.heap.size + 1, 0, none⟩) n cap] 31) = V1 at *
  have h2 := Go.heap_alloc_new V1 (.cells #[.pointer (some ⟨p, 0, none⟩), .pointer (some ⟨q, 0, none⟩)] 36)
  have k2 := heap_alloc h1 (.cells #[.pointer (some ⟨p, 0, none⟩), .pointer (some ⟨q, 0, none⟩)] 36)
  have s2 := size_alloc' V1 (.cells #[.pointer (some ⟨p, 0, none⟩), .pointer (some ⟨q, 0, none⟩)] 36)
  have c2 := b1.alloc (by omega) (.cells #[.pointer (some ⟨p, 0, none⟩), .pointer (some ⟨q, 0, none⟩)] 36)
  have d2 := at8_below a1 ((Below.refl V1.heap.size V1).alloc (Nat.le_refl _) (.cells #[.pointer (some ⟨p, 0, none⟩), .pointer (some ⟨q, 0, none⟩)] 36))
  rw [s1] at h2 s2
  generalize V1.alloc (.cells #[.pointer (some ⟨p, 0, none⟩), .pointer (some ⟨q, 0, none⟩)] 36) = V2 at *
  have h3 := Go.heap_alloc_new V2 (.cells #[.string nonce] 9)
  have k3 := heap_alloc k2 (.cells #[.string nonce] 9)
  have l3 := heap_alloc h2 (.cells #[.string nonce] 9)
  have s3 := size_alloc' V2 (.cells #[.string nonce] 9)
  have c3 := c2.alloc (by omega) (.cells #[.string nonce] 9)
  have d3 := at8_below d2 ((Below.refl V2.heap.size V2).alloc (Nat.le_refl _) (.cells #[.string nonce] 9))
  rw [s2] at h3 s3
  generalize V2.alloc (.cells #[.string nonce] 9) = V3 at *
  have h4 := Go.heap_alloc_new V3 (.cells #[.int .i64 (n : Int)] 3)
  have k4 := heap_alloc k3 (.cells #[.int .i64 (n : Int)] 3)
  have l4 := heap_alloc l3 (.cells #[.int .i64 (n : Int)] 3)
  have m4 := heap_alloc h3 (.cells #[.int .i64 (n : Int)] 3)
  have s4 := size_alloc' V3 (.cells #[.int .i64 (n : Int)] 3)
  have c4 := c3.alloc (by omega) (.cells #[.int .i64 (n : Int)] 3)
  have d4 := at8_below d3 ((Below.refl V3.heap.size V3).alloc (Nat.le_refl _) (.cells #[.int .i64 (n : Int)] 3))
  rw [s3] at h4 s4
  rw [h] at h4 k4 l4 m4 s4 c4 d4
  exact ⟨k4, l4, m4, h4, d4, s4, c4⟩

set_option maxRecDepth 100000 in
set_option maxHeartbeats 2000000 in
theorem cturned_any (p q : Nat) (sk : List Nat) (hsk : Bytes sk) (nonce s : ByteArray) (hn : nonce.size ≤ 1000000) (hs : s.size ≤ 1000000) (w : World) (hT : Tab w) (hK : KeyAt w p sk) :
    Calls Tryd.prog 15 #[keysV p q, .string nonce, .string s] w (TurnedPost sk (nums nonce) (nums s) w) := by
  unfold keysV
  refine (callsIn_wide (n := 5)).1 ?_
  refine callsIn_of_wp_marks Tryd.func15 rfl trivial ?_ rfl
  simp only [Tryd.ntmps15, List.size_toArray, List.length_cons, List.length_nil, Nat.reduceAdd, Nat.reduceSub, Array.replicate_succ, Array.replicate_zero, List.push_toArray, List.append_toArray, List.nil_append, List.cons_append]
  obtain ⟨W1, hW1⟩ : ∃ W1, w.alloc (.cells #[.pointer (some ⟨p, 0, none⟩), .pointer (some ⟨q, 0, none⟩)] 36) = W1 := ⟨_, rfl⟩
  have hcv := Lib.run_convert_string_bytes (P := Tryd.prog) W1 9 31 5 s Tryd.underlying9 Tryd.underlying31 Tryd.underlying5
  obtain ⟨W2, hW2⟩ : ∃ W2, Lib.bytesWorld W1 5 s = W2 := ⟨_, rfl⟩
  obtain ⟨z1, z2, k2, a2, b2⟩ := turned_world p q s w W1 W2 hW1 hW2
  rw [hW2] at hcv
  generalize grownCap W1 s.size 0 5 = cap at hcv
  rw [z1] at hcv
  have HW1 := Lib.hid hW1
  have K2 := Lib.hid k2
  have A2 := Lib.hid a2
  have B2 := Lib.hid b2
  have x0 : W2.cell? ⟨w.heap.size, 0, none⟩ = some (.pointer (some ⟨p, 0, none⟩)) := cell_of_row _ _ _ _ _ _ k2
  have x1 : W2.cell? ⟨w.heap.size, 1, none⟩ = some (.pointer (some ⟨q, 0, none⟩)) := cell_of_row _ _ _ _ _ _ k2
  clear hW2 k2 a2 b2 z1
  gi_wp2_with (refine ⟨trivial, ?_⟩; gi_at_call 21; refine (callsIn_wide.2 (streamed_in p q nonce s.size _)).mono ?_; rintro e w1 ⟨rfl, rfl⟩)
  obtain ⟨W0, hW0⟩ : ∃ W0, (((W2.alloc (.cells #[.slice (some ⟨w.heap.size + 1, 0, none⟩) s.size cap] 31)).alloc (.cells #[.pointer (some ⟨p, 0, none⟩), .pointer (some ⟨q, 0, none⟩)] 36)).alloc (.cells #[.string nonce] 9)).alloc (.cells #[.int .i64 (s.size : Int)] 3) = W0 := ⟨_, rfl⟩
  obtain ⟨bb, ck, cn, ci, ca, cz, cb⟩ := turned_boxes p q nonce s.size cap (nums s) w W2 W0 z2 A2.out B2.out hW0
  rw [hW0]
  clear hW0 hcv hW1 x0 x1 z2
  refine wpIn_rangeFunc_ownF (F := Fence.wide) rfl (by decide) (gf := 28) (lb := #[.pointer (some ⟨w.heap.size + 1 + 1 + 1 + 1 + 1, 0, none⟩), .pointer (some ⟨w.heap.size + 1 + 1 + 1, 0, none⟩), .pointer (some ⟨w.heap.size + 1 + 1 + 1 + 1, 0, none⟩)]) rfl trivial (enters_of Tryd.func28 (by kernel_rfl) rfl)
    (stream_stops 4 (by decide) (w.heap.size + 1) (w.heap.size + 1 + 1 + 1 + 1 + 1) (w.heap.size + 1 + 1 + 1) (w.heap.size + 1 + 1 + 1 + 1) p q sk hsk nonce hn s.size hs w W0 hT hK cb (by omega) (by omega) (by omega) (by omega) ci ck cn) (fun h k => KeepG.trans h k)
    (fun W l o o' hl h _ _ => ⟨rfl, rfl, rfl, by simp, fun b hb _ => World.putObj_heap_other (by omega)⟩) (Below.refl _ _) (fun _ => rfl)
    (TurnI w s cap) (fun _ _ _ => False) (turnI_own w s cap _ (by omega)) (fun _ _ _ _ _ h => h.elim)
    ⟨bb, ca, cb⟩ (fun x => turnAct p q nonce s cap w x.1.1 x.2.1) ?assign ?body ?done ?stop
  case assign =>
    rintro l x W K hK
    unfold encK
    unfold turnAct at hK
    gi_wp2
    exact hK
  case body =>
    rintro l pre ⟨⟨i, hi⟩, ⟨v, hv⟩⟩ W ⟨bv, hA, hB⟩ hlt
    have cv := bv.cell
    obtain ⟨z, hz⟩ : ∃ z, (app (nums s) pre).getD i 0 = z := ⟨_, rfl⟩
    have hz2 : z < 256 := by rw [← hz]; exact (app_bytes (nums_bytes s) pre).at i
    obtain ⟨c1, f1⟩ := hA i (by rw [app_length, nums_length]; exact hi)
    rw [hz] at c1
    have b1 : bits .xor .u8 (z : Int) (v : Int) = ((z ^^^ v : Nat) : Int) := u8_xor_nat z v hz2 hv
    have FIN : Hid (TurnI w s cap (pre ++ [(⟨i, hi⟩, ⟨v, hv⟩)]) (W.setCell ⟨w.heap.size + 1, i, none⟩ (.int .u8 ((z ^^^ v : Nat) : Int)))) := by
      refine Lib.hid ⟨?_, ?_, hB.setCell (by simp) _⟩
      · exact (heap_setCell_other _ _ _ _ (show w.heap.size + 1 + 1 ≠ w.heap.size + 1 by omega)).trans bv
      · rw [app_snoc]
        show At8 _ _ ((app (nums s) pre).set i ((app (nums s) pre).getD i 0 ^^^ v))
        rw [hz]
        exact hA.set i (z ^^^ v) (by rw [app_length, nums_length]; exact hi)
    have KP : Hid (KeepG (w.heap.size + 1) W0.heap.size W (W.setCell ⟨w.heap.size + 1, i, none⟩ (.int .u8 ((z ^^^ v : Nat) : Int)))) := Lib.hid ⟨rfl, rfl, rfl, by simp, fun b hb hg => heap_setCell_other _ _ _ _ hg⟩
    have q1 : (0 : Int) ≤ (i : Int) := by omega
    have q2 : (i : Int) < (s.size : Int) := by omega
    generalize z ^^^ v = y at *
    clear hA hB bv hz
    unfold turnAct
    gi_wp2
    exact ⟨KeepsOthers.setCell _ _ _, KP.out, FIN.out⟩
  case done =>
    rintro D xs W hD rfl ⟨bv, hA, hB⟩ hdef
    have cv := bv.cell
    rw [app_all sk (nums nonce) (nums s) s.size (nums_length s)] at hA
    have hcv2 := back_string W (w.heap.size + 1) 0 cap (hide sk (nums nonce) (nums s)) (fun j => (hide_bytes _ _ (nums_bytes s)).at j) (fun j hj => by rw [Nat.zero_add]; exact (hA j hj).1)
    rw [hide_length, nums_length] at hcv2
    have HB := Lib.hid hB
    have HD := Lib.hid hdef
    clear hA hB bv hdef
    gi_wp2
    refine ⟨by simp, .inl ⟨_, _, rfl, run_takeDeferred HD.out, ?_⟩⟩
    refine ⟨.string (bytesOf (hide sk (nums nonce) (nums s))), by simp [results, Tryd.results15, go_sem], rfl, ?_⟩
    exact ownFrom_below (β := Unit) (Nat.le_refl _) (Nat.le_refl _) () W _ (some D) HB.out (grownBy_putObj' W D _) (fun r e => by cases e; exact ⟨by omega, _, HD.out, rfl⟩)
  case stop => rintro D c pre W hD _ h; exact h.elim
end Go.Proofs.YtogadffbnoinmaaDoor.Pl
