/- What the document's Xored and Tag of layer 4 answer. -/
import Derived.Test.YtogadffbnoinmaaDoorCipherSpec
import Derived.Test.YtogadffbnoinmaaDoorHmacRefTag
import Derived.StillTailTactics
namespace Go.Proofs.YtogadffbnoinmaaDoor.Pl
open Go.RowKit

theorem rstream_any (key : ByteArray) (hk : key.size ≤ 800000) (w : World) :
    Calls Tryd.prog 23 #[.string key, .string ⟨#[115, 116, 114, 101, 97, 109]⟩] w fun e w' => e = .returned (.string (bytesOf (skey (nums key)))) ∧ Below w.heap.size w w' :=
  reftag_any key ⟨#[115, 116, 114, 101, 97, 109]⟩ hk (by decide) w
theorem rtag_any (key : ByteArray) (hk : key.size ≤ 800000) (w : World) :
    Calls Tryd.prog 23 #[.string key, .string ⟨#[116, 97, 103]⟩] w fun e w' => e = .returned (.string (bytesOf (tkey (nums key)))) ∧ Below w.heap.size w w' :=
  reftag_any key ⟨#[116, 97, 103]⟩ hk (by decide) w
theorem rsum_list (k : List Nat) (hk : Bytes k) (hl : k.length ≤ 800000) (s : ByteArray) (hs : s.size ≤ 800000) (w : World) :
    Calls Tryd.prog 23 #[.string (bytesOf k), .string s] w fun e w' => e = .returned (.string (bytesOf (tagOf k (nums s)))) ∧ Below w.heap.size w w' := by
  have h := reftag_any (bytesOf k) s (by rw [bytesOf_size]; exact hl) hs w
  rwa [nums_bytesOf hk] at h

def TagPost (key s : ByteArray) (w : World) (e : Ending) (w' : World) : Prop := e = .returned (.string (bytesOf (tagOf (tkey (nums key)) (nums s)))) ∧ Below w.heap.size w w'
set_option maxRecDepth 100000 in
theorem rtagof_any (key s : ByteArray) (hk : key.size ≤ 800000) (hs : s.size ≤ 800000) (w : World) :
    Calls Tryd.prog 18 #[.string key, .string s] w (TagPost key s w) := by
  have HK := Lib.hid hk
  have HS := Lib.hid hs
  clear hk hs
  go_enter Tryd.func18, Tryd.ntmps18
  go_wp2_with fail
  refine (rtag_any key HK.out w).mono ?_; rintro e w1 ⟨rfl, b1⟩
  have B1 := Lib.hid b1
  clear b1
  go_wp2_with fail
  refine (rsum_list (tkey (nums key)) (tkey_bytes _) (by rw [tkey_length]; decide) s HS.out w1).mono ?_; rintro e w2 ⟨rfl, b2⟩
  have B2 := Lib.hid (below_step B1.out b2)
  clear b2
  go_wp2_with fail
  go_ret
  exact ⟨rfl, B2.out⟩

theorem at8_below2 {w w' : World} {g : Nat} {l : List Nat} (h : At8 w g l) (hb : Below w.heap.size w w') : At8 w' g l := fun j hj =>
  ⟨(hb.cell (p := ⟨g, j, none⟩) (World.block_lt_of_cell? _ _ (h j hj).1)).trans (h j hj).1, (hb.frozen (p := ⟨g, j, none⟩) (World.block_lt_of_cell? _ _ (h j hj).1)).trans (h j hj).2⟩
theorem load_u8 (V : World) (g k x : Nat) (h : V.cell? ⟨g, k, none⟩ = some (.int .u8 (x : Int))) : (Instr.loadAt 5 (.pointer (some ⟨g, k, none⟩))).run Tryd.prog V = .ok (.int .u8 (x : Int)) V := by go_simp
def XoredPost (sk nonce l : List Nat) (w : World) (e : Ending) (w' : World) : Prop := e = .returned (.string (bytesOf (hide sk nonce l))) ∧ Below w.heap.size w w'
/-- The first k numbers of l are hidden in m. -/
def Part (sk nonce l m : List Nat) (k : Nat) : Prop := m.length = l.length ∧ ∀ j, j < l.length → m.getD j 0 = if j < k then l.getD j 0 ^^^ ksAt sk nonce j else l.getD j 0
theorem Part.zero (sk nonce l : List Nat) : Part sk nonce l l 0 := ⟨rfl, fun j _ => by rw [if_neg (by omega)]⟩
theorem Part.next {sk nonce l m : List Nat} {k y : Nat} (h : Part sk nonce l m k) (hk : k < l.length) (hy : y = m.getD k 0 ^^^ ksAt sk nonce k) : Part sk nonce l (m.set k y) (k + 1) := by
  refine ⟨by rw [List.length_set]; exact h.1, fun j hj => ?_⟩
  rw [set_getD _ _ _ _ (by rw [h.1]; exact hk), hy]
  by_cases e : j = k
  · rw [if_pos e, e, if_pos (by omega), h.2 k hk, if_neg (by omega)]
  · rw [if_neg e, h.2 j hj]
    by_cases h' : j < k
    · rw [if_pos h', if_pos (by omega)]
    · rw [if_neg h', if_neg (by omega)]
theorem Part.more {sk nonce l m : List Nat} {k k' : Nat} (h : Part sk nonce l m k) (hk : l.length ≤ k) (hk' : l.length ≤ k') : Part sk nonce l m k' :=
  ⟨h.1, fun j hj => by rw [h.2 j hj, if_pos (by omega), if_pos (by omega)]⟩
theorem Part.all {sk nonce l m : List Nat} {k : Nat} (h : Part sk nonce l m k) (hk : l.length ≤ k) : m = hide sk nonce l := by
  apply listD_ext (by rw [h.1, hide_length])
  intro i hi
  rw [h.1] at hi
  rw [h.2 i hi, if_pos (by omega), hide, xorf_at _ _ _ hi]

set_option maxHeartbeats 2000000 in
set_option maxRecDepth 100000 in
theorem rxored_any (key nonce s : ByteArray) (hk : key.size ≤ 800000) (hn : nonce.size ≤ 1000) (hs : s.size ≤ 100000) (w : World) :
    Calls Tryd.prog 17 #[.string key, .string nonce, .string s] w (XoredPost (skey (nums key)) (nums nonce) (nums s) w) := by
  have HK := Lib.hid hk
  have HN := Lib.hid hn
  have SB := Lib.hid (skey_bytes (nums key))
  have SL := Lib.hid (skey_length (nums key))
  have HM := Lib.hid (nums_bytes s)
  have HL := Lib.hid (nums_length s)
  obtain ⟨z, hz⟩ : ∃ z, z = s.size := ⟨_, rfl⟩
  have HR := Lib.hid (rstream_any key hk w)
  obtain ⟨sk, hsk⟩ : ∃ sk, sk = skey (nums key) := ⟨_, rfl⟩
  rw [← hsk] at HR SB SL ⊢
  have HZS : Hid (z ≤ 100000) := Lib.hid (by omega)
  rw [← hz] at HL
  have HZ := Lib.hid hz
  clear hk hn hs hsk hz
  go_enter Tryd.func17, Tryd.ntmps17
  go_wp2_with fail
  refine HR.out.mono ?_; rintro e w1 ⟨rfl, b1⟩
  have hcv := Lib.run_convert_string_bytes (P := Tryd.prog) w1 9 31 5 s Tryd.underlying9 Tryd.underlying31 Tryd.underlying5
  have HO := Lib.hid (at8_bytes w1 s)
  have HB := Lib.hid (below_step b1 (below_bytes w1 s))
  have HG : Hid (w.heap.size ≤ w1.heap.size) := Lib.hid b1.size
  generalize grownCap w1 s.size 0 5 = cap at hcv
  generalize Lib.bytesWorld w1 5 s = W at *
  generalize nums s = l at *
  generalize w1.heap.size = g at *
  rw [← HZ.out] at hcv
  clear b1 HR HK
  go_wp2_with fail
  go_loopw [9] (fun i wr => ∃ (c : Nat) (m : List Nat), i = .int .i64 ((32 * c : Nat) : Int) ∧ 32 * c ≤ z + 31 ∧ Hid (Part sk (nums nonce) l m (32 * c)) ∧ Hid (At8 wr g m) ∧ Hid (Below w.heap.size w wr)) (fun i _ => z + 32 - (intOf i).toNat)
  case atStart => exact ⟨0, l, rfl, by omega, Lib.hid (Part.zero _ _ _), HO, HB⟩
  case round =>
    clear HO HB
    obtain ⟨c, m, rfl, hc, hag, h1, hbw⟩ := hrel
    obtain ⟨a, ha⟩ : ∃ a, a = 32 * c := ⟨_, rfl⟩
    rw [← ha] at hag hc ⊢
    have HA := Lib.hid ha
    by_cases hlt : a < z
    · have q0 : (a : Int) < (z : Int) := by omega
      have qd : (a : Int) / 32 = (c : Int) := by omega
      have hi : c < 4294967296 := by have := HZS.out; omega
      obtain ⟨d0, hd0⟩ : ∃ d, d = c / 16777216 % 256 := ⟨_, rfl⟩
      obtain ⟨d1, hd1⟩ : ∃ d, d = c / 65536 % 256 := ⟨_, rfl⟩
      obtain ⟨d2, hd2⟩ : ∃ d, d = c / 256 % 256 := ⟨_, rfl⟩
      obtain ⟨d3, hd3⟩ : ∃ d, d = c % 256 := ⟨_, rfl⟩
      have EL : Hid (be4 c = [d0, d1, d2, d3]) := Lib.hid (by rw [be4, hd0, hd1, hd2, hd3])
      have e1 : (c : Int) / 16777216 = (d0 : Int) := by omega
      have e2 : (c : Int) / 65536 % 256 = (d1 : Int) := by omega
      have e3 : (c : Int) / 256 % 256 = (d2 : Int) := by omega
      have e4 : (c : Int) % 256 = (d3 : Int) := by omega
      have DB : Hid (Bytes [d0, d1, d2, d3]) := Lib.hid (by rw [← EL.out]; exact be4_bytes c)
      have hst : (convert 31 9 (.slice (some ⟨wr.heap.size, 0, none⟩) 4 4)).run Tryd.prog (wr.alloc (.cells #[.int .u8 (d0 : Int), .int .u8 (d1 : Int), .int .u8 (d2 : Int), .int .u8 (d3 : Int)] 5)) = .ok (.string (bytesOf [d0, d1, d2, d3])) (wr.alloc (.cells #[.int .u8 (d0 : Int), .int .u8 (d1 : Int), .int .u8 (d2 : Int), .int .u8 (d3 : Int)] 5)) :=
        back_string _ wr.heap.size 0 4 [d0, d1, d2, d3] (fun j => DB.out.at j) (fun j hj => by rw [Nat.zero_add]; exact (at_row (k := .u8) (l := [d0, d1, d2, d3]) (Go.heap_alloc_new wr _) j hj).1)
      have BA := Lib.hid ((Below.refl _ wr).alloc (Nat.le_refl _) (.cells #[.int .u8 (d0 : Int), .int .u8 (d1 : Int), .int .u8 (d2 : Int), .int .u8 (d3 : Int)] 5))
      have NE : Hid (nums (nonce ++ bytesOf [d0, d1, d2, d3]) = nums nonce ++ be4 c) := Lib.hid (by rw [nums_append, nums_bytesOf DB.out, EL.out])
      have NS : Hid ((nonce ++ bytesOf [d0, d1, d2, d3]).size ≤ 2000) := Lib.hid (by have := HN.out; rw [ByteArray.size_append, bytesOf_size]; simp only [List.length_cons, List.length_nil]; omega)
      have hcat : nonce.size + (bytesOf [d0, d1, d2, d3]).size ≤ 9223372036854775807 := by have := NS.out; rw [ByteArray.size_append] at this; omega
      have KS := Lib.hid (fun V => rsum_list sk SB.out (by rw [SL.out]; decide) (nonce ++ bytesOf [d0, d1, d2, d3]) (by have := NS.out; omega) V)
      rw [NE.out] at KS
      generalize bytesOf [d0, d1, d2, d3] = N at *
      clear ha hd0 hd1 hd2 hd3
      go_wp2_with fail
      refine (KS.out _).mono ?_; rintro e w2 ⟨rfl, b2⟩
      have h2 := Lib.hid (at8_below2 h1.out (BA.out.trans (b2.mono BA.out.size)))
      have B2 := Lib.hid (below_step hbw.out (BA.out.trans (b2.mono BA.out.size)))
      have PL := Lib.hid (partL_length sk (nums nonce) c)
      have PB := Lib.hid (partL_bytes sk (nums nonce) c)
      have KE : Hid (∀ k, k < 32 → ksAt sk (nums nonce) (a + k) = (partL sk (nums nonce) c).getD k 0) := Lib.hid (fun k hk => by rw [HA.out]; exact ksAt_part _ _ c k hk)
      change Hid (∀ k, k < 32 → ksAt sk (nums nonce) (a + k) = (tagOf sk (nums nonce ++ be4 c)).getD k 0) at KE
      change Hid ((tagOf sk (nums nonce ++ be4 c)).length = 32) at PL
      change Hid (Bytes (tagOf sk (nums nonce ++ be4 c))) at PB
      generalize tagOf sk (nums nonce ++ be4 c) = P at *
      clear b2 BA hst e1 e2 e3 e4 qd hi h1 hbw KS NE NS hcat DB EL
      go_wp2_with fail
      go_loopw [12] (fun i wr => ∃ (t : Nat) (m : List Nat), i = .int .i64 (t : Int) ∧ t ≤ 32 ∧ a + t ≤ z ∧ Hid (Part sk (nums nonce) l m (a + t)) ∧ Hid (At8 wr g m) ∧ Hid (Below w.heap.size w wr)) (fun i _ => 32 - (intOf i).toNat)
      case atStart => exact ⟨0, m, rfl, by omega, by omega, hag, h2, B2⟩
      case round =>
        clear h2 B2 hag
        obtain ⟨t, m, rfl, ht, hat, hag, h1, hbw⟩ := hrel
        by_cases hin : t < 32 ∧ a + t < z
        · obtain ⟨h3, h4⟩ := hin
          have q3 : (t : Int) < 32 := by omega
          have q4 : (a : Int) + (t : Int) < (z : Int) := by omega
          obtain ⟨k, hk⟩ : ∃ k, k = a + t := ⟨_, rfl⟩
          have hw : IntKind.i64.wrap ((a : Int) + (t : Int)) = (k : Int) := by rw [IntWalk.i64_in _ (by have := HZS.out; omega)]; omega
          have q5 : (0 : Int) ≤ (k : Int) := by omega
          have q6 : (k : Int) < (z : Int) := by omega
          rw [← hk] at hag
          obtain ⟨x, hx⟩ : ∃ x, x = m.getD k 0 := ⟨_, rfl⟩
          obtain ⟨c1, f1⟩ := h1.out k (by rw [hag.out.1, HL.out]; omega)
          rw [← hx] at c1
          have hx2 : x < 256 := by rw [hx, hag.out.2 k (by rw [HL.out]; omega), if_neg (by omega)]; exact HM.out.at k
          obtain ⟨v, hv⟩ : ∃ v, v = P.getD t 0 := ⟨_, rfl⟩
          have hv2 : v < 256 := by rw [hv]; exact PB.out.at t
          have hix := str_index (bytesOf P) t v (by rw [bytesOf_size, PL.out]; exact h3) (by rw [nums_bytesOf PB.out]; exact hv)
          have b1 : bits .xor .u8 (x : Int) (v : Int) = ((x ^^^ v : Nat) : Int) := u8_xor_nat x v hx2 hv2
          obtain ⟨y, hy⟩ : ∃ y, y = x ^^^ v := ⟨_, rfl⟩
          rw [← hy] at b1
          have HN1 := Lib.hid (hag.out.next (k := k) (y := y) (by rw [HL.out]; omega) (by rw [hy, hx, hv, ← KE.out t h3, hk]))
          have HA1 := Lib.hid (h1.out.set k y (by rw [hag.out.1, HL.out]; omega))
          have hld := load_u8 wr.drew g k x c1
          have HLD := Lib.hid hld
          have HK := Lib.hid hk
          have C1 : Hid (wr.drew.cell? ⟨g, k, none⟩ = some (.int .u8 (x : Int)) ∧ wr.drew.frozen? ⟨g, k, none⟩ = false) := Lib.hid ⟨c1, f1⟩
          have BW := Lib.hid hbw.out.drew
          clear hk hx hx2 hv hv2 hy hld c1 f1 hbw h1 hag KE PB PL
          go_wp2_with fail
          refine wp_region_any (by kernel_rfl) ?_
          change wpAny _ _ _ _ _ _ _ (World.drew wr)
          refine wpAny_take (i := 0) (oi := { dst := some 54, op := Op.move (Operand.tmp 8), type := 31, pos := "ref.go:17", after := #[], guard := none }) (v := .slice (some ⟨g, 0, none⟩) z cap) rfl (by kernel_rfl) (by kernel_rfl) (by kernel_rfl) (fun _ _ _ h => h) (Or.inl ⟨by rfl, fun w => by go_simp⟩) ?_
          (try simp only [Act.put, List.setIfInBounds_toArray, List.set_cons_zero, List.set_cons_succ])
          refine wpAny_take (i := 1) (oi := { dst := some 55, op := Op.move (Operand.tmp 9), type := 3, pos := "ref.go:17", after := #[], guard := none }) (v := .int .i64 (a : Int)) rfl (by kernel_rfl) (by kernel_rfl) (by kernel_rfl) (fun _ _ _ h => h) (Or.inl ⟨by rfl, fun w => by go_simp⟩) ?_
          (try simp only [Act.put, List.setIfInBounds_toArray, List.set_cons_zero, List.set_cons_succ])
          refine wpAny_take (i := 2) (oi := { dst := some 56, op := Op.move (Operand.tmp 12), type := 3, pos := "ref.go:17", after := #[], guard := none }) (v := .int .i64 (t : Int)) rfl (by kernel_rfl) (by kernel_rfl) (by kernel_rfl) (fun _ _ _ h => h) (Or.inl ⟨by rfl, fun w => by go_simp⟩) ?_
          (try simp only [Act.put, List.setIfInBounds_toArray, List.set_cons_zero, List.set_cons_succ])
          refine wpAny_take (i := 3) (oi := { dst := some 57, op := Op.binOp BinOp.add 3 (Operand.tmp 55) (Operand.tmp 56) 3, type := 3, pos := "ref.go:17", after := #[{ on := 1, ground := Ground.data }, { on := 2, ground := Ground.data }], guard := none }) (v := .int .i64 (k : Int)) rfl (by kernel_rfl) (by kernel_rfl) (by kernel_rfl) (fun _ _ _ h => h) (Or.inl ⟨by rfl, fun w => by go_simp⟩) ?_
          (try simp only [Act.put, List.setIfInBounds_toArray, List.set_cons_zero, List.set_cons_succ])
          refine wpAny_take (i := 4) (oi := { dst := some 58, op := Op.move (Operand.tmp 8), type := 31, pos := "ref.go:17", after := #[], guard := none }) (v := .slice (some ⟨g, 0, none⟩) z cap) rfl (by kernel_rfl) (by kernel_rfl) (by kernel_rfl) (fun _ _ _ h => h) (Or.inl ⟨by rfl, fun w => by go_simp⟩) ?_
          (try simp only [Act.put, List.setIfInBounds_toArray, List.set_cons_zero, List.set_cons_succ])
          refine wpAny_take (i := 5) (oi := { dst := some 59, op := Op.move (Operand.tmp 9), type := 3, pos := "ref.go:17", after := #[], guard := none }) (v := .int .i64 (a : Int)) rfl (by kernel_rfl) (by kernel_rfl) (by kernel_rfl) (fun _ _ _ h => h) (Or.inl ⟨by rfl, fun w => by go_simp⟩) ?_
          (try simp only [Act.put, List.setIfInBounds_toArray, List.set_cons_zero, List.set_cons_succ])
          refine wpAny_take (i := 6) (oi := { dst := some 60, op := Op.move (Operand.tmp 12), type := 3, pos := "ref.go:17", after := #[], guard := none }) (v := .int .i64 (t : Int)) rfl (by kernel_rfl) (by kernel_rfl) (by kernel_rfl) (fun _ _ _ h => h) (Or.inl ⟨by rfl, fun w => by go_simp⟩) ?_
          (try simp only [Act.put, List.setIfInBounds_toArray, List.set_cons_zero, List.set_cons_succ])
          refine wpAny_take (i := 7) (oi := { dst := some 61, op := Op.binOp BinOp.add 3 (Operand.tmp 59) (Operand.tmp 60) 3, type := 3, pos := "ref.go:17", after := #[{ on := 5, ground := Ground.data }, { on := 6, ground := Ground.data }], guard := none }) (v := .int .i64 (k : Int)) rfl (by kernel_rfl) (by kernel_rfl) (by kernel_rfl) (fun _ _ _ h => h) (Or.inl ⟨by rfl, fun w => by go_simp⟩) ?_
          (try simp only [Act.put, List.setIfInBounds_toArray, List.set_cons_zero, List.set_cons_succ])
          refine wpAny_take (i := 8) (oi := { dst := some 62, op := Op.indexAddr 31 (Operand.tmp 58) (Operand.tmp 61), type := 0, pos := "ref.go:17", after := #[{ on := 4, ground := Ground.data }, { on := 7, ground := Ground.data }], guard := none }) (v := .pointer (some ⟨g, k, none⟩)) rfl (by kernel_rfl) (by kernel_rfl) (by kernel_rfl) (fun _ _ _ h => h) (Or.inl ⟨by rfl, fun w => by go_simp⟩) ?_
          (try simp only [Act.put, List.setIfInBounds_toArray, List.set_cons_zero, List.set_cons_succ])
          refine wpAny_take (i := 10) (oi := { dst := some 64, op := Op.move (Operand.tmp 11), type := 9, pos := "ref.go:17", after := #[], guard := none }) (v := .string (bytesOf P)) rfl (by kernel_rfl) (by kernel_rfl) (by kernel_rfl) (fun _ _ _ h => h) (Or.inl ⟨by rfl, fun w => by go_simp⟩) ?_
          (try simp only [Act.put, List.setIfInBounds_toArray, List.set_cons_zero, List.set_cons_succ])
          refine wpAny_take (i := 11) (oi := { dst := some 65, op := Op.move (Operand.tmp 12), type := 3, pos := "ref.go:17", after := #[], guard := none }) (v := .int .i64 (t : Int)) rfl (by kernel_rfl) (by kernel_rfl) (by kernel_rfl) (fun _ _ _ h => h) (Or.inl ⟨by rfl, fun w => by go_simp⟩) ?_
          (try simp only [Act.put, List.setIfInBounds_toArray, List.set_cons_zero, List.set_cons_succ])
          refine wpAny_take (i := 12) (oi := { dst := some 66, op := Op.index 9 (Operand.tmp 64) (Operand.tmp 65), type := 5, pos := "ref.go:17", after := #[{ on := 10, ground := Ground.data }, { on := 11, ground := Ground.data }], guard := none }) (v := .int .u8 (v : Int)) rfl (by kernel_rfl) (by kernel_rfl) (by kernel_rfl) (fun _ _ _ h => h) (Or.inl ⟨by rfl, fun w => by go_simp⟩) ?_
          (try simp only [Act.put, List.setIfInBounds_toArray, List.set_cons_zero, List.set_cons_succ])
          refine wpAny_ready (rs := [9]) (by kernel_rfl) (by simp) ?_
          refine AllReady.cons (o := { dst := some 63, op := Op.load 5 (Operand.tmp 62), type := 5, pos := "ref.go:17", after := #[{ on := 8, ground := Ground.data }], guard := none }) rfl (fun K hK => ?_) AllReady.nil
          refine step_load rfl 5 _ rfl (.pointer (some ⟨g, k, none⟩)) rfl _ HLD.out ?_
          refine hK _ _ ?_
          clear hK K
          (try simp only [Act.put, List.setIfInBounds_toArray, List.set_cons_zero, List.set_cons_succ])
          refine wpAny_take (i := 13) (oi := { dst := some 67, op := Op.binOp BinOp.xor 5 (Operand.tmp 63) (Operand.tmp 66) 5, type := 5, pos := "ref.go:17", after := #[{ on := 9, ground := Ground.data }, { on := 12, ground := Ground.data }], guard := none }) (v := .int .u8 (y : Int)) rfl (by kernel_rfl) (by kernel_rfl) (by kernel_rfl) (fun _ _ _ h => h) (Or.inl ⟨by rfl, fun w => by go_simp⟩) ?_
          (try simp only [Act.put, List.setIfInBounds_toArray, List.set_cons_zero, List.set_cons_succ])
          refine wpAny_take (i := 14) (oi := { dst := some 68, op := Op.indexAddr 31 (Operand.tmp 54) (Operand.tmp 57), type := 0, pos := "ref.go:17", after := #[{ on := 0, ground := Ground.data }, { on := 3, ground := Ground.data }, { on := 0, ground := Ground.phase }, { on := 1, ground := Ground.phase }, { on := 2, ground := Ground.phase }, { on := 3, ground := Ground.phase }, { on := 4, ground := Ground.phase }, { on := 5, ground := Ground.phase }, { on := 6, ground := Ground.phase }, { on := 7, ground := Ground.phase }, { on := 8, ground := Ground.phase }, { on := 9, ground := Ground.phase }, { on := 10, ground := Ground.phase }, { on := 11, ground := Ground.phase }, { on := 12, ground := Ground.phase }, { on := 13, ground := Ground.phase }], guard := none }) (v := .pointer (some ⟨g, k, none⟩)) rfl (by kernel_rfl) (by kernel_rfl) (by kernel_rfl) (fun _ _ _ h => h) (Or.inl ⟨by rfl, fun w => by go_simp⟩) ?_
          (try simp only [Act.put, List.setIfInBounds_toArray, List.set_cons_zero, List.set_cons_succ])
          refine wpAny_ready (rs := [15]) (by kernel_rfl) (by simp) ?_
          refine AllReady.cons (o := { dst := none, op := Op.store 5 (Operand.tmp 68) (Operand.tmp 67), type := 0, pos := "ref.go:17", after := #[{ on := 14, ground := Ground.data }, { on := 13, ground := Ground.data }, { on := 0, ground := Ground.phase }, { on := 1, ground := Ground.phase }, { on := 2, ground := Ground.phase }, { on := 3, ground := Ground.phase }, { on := 4, ground := Ground.phase }, { on := 5, ground := Ground.phase }, { on := 6, ground := Ground.phase }, { on := 7, ground := Ground.phase }, { on := 8, ground := Ground.phase }, { on := 9, ground := Ground.phase }, { on := 10, ground := Ground.phase }, { on := 11, ground := Ground.phase }, { on := 12, ground := Ground.phase }, { on := 13, ground := Ground.phase }], guard := none }) rfl (fun K hK => ?_) AllReady.nil
          obtain ⟨c1, f1⟩ := C1.out
          obtain ⟨U, hU⟩ : ∃ U, U = World.drew wr := ⟨_, rfl⟩
          rw [← hU] at c1 f1 BW ⊢
          have HU := Lib.hid (show World.drew wr = U from hU.symm)
          clear hU
          go_simp
          refine hK _ _ ?_
          clear hK K
          (try simp only [Act.put])
          refine wpAny_done (by kernel_rfl) ?_ _
          have HAU := Lib.hid (show At8 (U.setCell ⟨g, k, none⟩ (.int .u8 (y : Int))) g (m.set k y) from HU.out ▸ HA1.out)
          have BU := Lib.hid (BW.out.setCell (p := ⟨g, k, none⟩) HG.out (.int .u8 (y : Int)))
          clear c1 f1
          go_wp2_with fail
          go_roundw
          case rel => exact ⟨t + 1, m.set k y, by go_num, by omega, by omega, by rw [show a + (t + 1) = k + 1 by rw [HK.out]; omega]; exact HN1, HAU, BU⟩
          case measure => simp [intOf]; omega
        · have qa : (a : Int) ≤ 200000 := by have := HZS.out; omega
          have HE : Hid (t = 32 ∨ a + t = z) := Lib.hid (by omega)
          have FIN : Hid (Part sk (nums nonce) l m (32 * (c + 1))) := Lib.hid (by
            have h := hag.out
            have e := HA.out
            have e2 := HL.out
            rcases HE.out with h5 | h5
            · rw [show 32 * (c + 1) = a + t by omega]; exact h
            · exact h.more (by omega) (by omega))
          have HC : Hid (a + 32 = 32 * (c + 1)) := Lib.hid (by have := HA.out; omega)
          by_cases h3 : t < 32
          · have q3 : (t : Int) < 32 := by omega
            have q4 : decide ((a : Int) + (t : Int) < (z : Int)) = false := by rw [decide_eq_false_iff_not]; omega
            clear hag
            go_wp2_with fail
            go_roundw
            case rel => exact ⟨c + 1, m, by rw [← HC.out]; go_num, by rw [← HC.out]; omega, FIN, h1, hbw⟩
            case measure => simp [intOf]; omega
          · have q3 : ¬ (t : Int) < 32 := by omega
            clear hag
            go_wp2_with fail
            go_roundw
            case rel => exact ⟨c + 1, m, by rw [← HC.out]; go_num, by rw [← HC.out]; omega, FIN, h1, hbw⟩
            case measure => simp [intOf]; omega
    · have q0 : ¬ (a : Int) < (z : Int) := by omega
      have e := hag.out.all (by rw [HL.out]; omega)
      have hcv2 := back_string wr g 0 cap (hide sk (nums nonce) l) (fun j => (hide_bytes _ _ HM.out).at j) (fun j hj => by rw [Nat.zero_add, ← e]; rw [← e] at hj; exact (h1.out j hj).1)
      rw [hide_length, HL.out] at hcv2
      clear e hag h1 ha
      obtain ⟨X, eX⟩ : ∃ X, X = bytesOf (hide sk (nums nonce) l) := ⟨_, rfl⟩
      rw [← eX] at hcv2
      have EX := Lib.hid eX
      clear eX hcv
      go_wp2_with fail
      go_ret
      exact ⟨by rw [← EX.out]; rfl, hbw.out⟩
end Go.Proofs.YtogadffbnoinmaaDoor.Pl
