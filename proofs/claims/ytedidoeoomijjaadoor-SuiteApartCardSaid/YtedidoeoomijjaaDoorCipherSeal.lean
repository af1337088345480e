/- What cipher.Seal answers: the sealed form, or why there is none. -/
import Derived.Test.YtedidoeoomijjaaDoorSuiteD8
namespace Go.Proofs.YtedidoeoomijjaaDoor.Pl
open Go.RowKit

theorem keysum_list (p : Nat) (k : List Nat) (hk : Bytes k) (s : ByteArray) (hl : s.size < 2000000000000000000) (w : World) (hT : Tab w) (hK : KeyAt w p k) :
    Calls Tryd.prog 58 #[.pointer (some ⟨p, 0, none⟩), .string s] w fun e w' => e = .returned (.string (bytesOf (tagOf k (nums s)))) ∧ Below w.heap.size w w' := by
  have hb : nums (bytesOf k) = k := nums_bytesOf hk
  have h := keysum_any p (bytesOf k) s hl w hT (by rw [hb]; exact hK)
  rwa [hb] at h
/-- Keys that lie in block b, and are ready. -/
def KeysIn (w : World) (b : Nat) (k : List Nat) (p q : Nat) : Prop := w.heap[b]? = some (.cells #[.pointer (some ⟨p, 0, none⟩), .pointer (some ⟨q, 0, none⟩)] 109 (0, 0)) ∧ KeysAt w p q k ∧ Tab w
theorem KeysIn.below {w w' : World} {b p q : Nat} {k : List Nat} (h : KeysIn w b k p q) (hb : Below w.heap.size w w') : KeysIn w' b k p q := ⟨heap_below hb h.1, h.2.1.below hb, h.2.2.below hb⟩
theorem KeysIn.cells {w : World} {b p q : Nat} {k : List Nat} (h : KeysIn w b k p q) : w.cell? ⟨b, 0, none⟩ = some (.pointer (some ⟨p, 0, none⟩)) ∧ w.cell? ⟨b, 1, none⟩ = some (.pointer (some ⟨q, 0, none⟩)) :=
  ⟨cell_of_row _ _ _ _ _ _ h.1, cell_of_row _ _ _ _ _ _ h.1⟩
theorem keysIn_new (w : World) (p q : Nat) (k : List Nat) (h : KeysAt w p q k) (hT : Tab w) : KeysIn (w.alloc (.cells #[.pointer (some ⟨p, 0, none⟩), .pointer (some ⟨q, 0, none⟩)] 109)) w.heap.size k p q :=
  have hb : Below w.heap.size w (w.alloc (.cells #[.pointer (some ⟨p, 0, none⟩), .pointer (some ⟨q, 0, none⟩)] 109)) := (Below.refl _ _).alloc (Nat.le_refl _) _
  ⟨Go.heap_alloc_new _ _, h.below hb, hT.below hb⟩

def SealPost (r : List Nat) (w : World) (e : Ending) (w' : World) : Prop := e = .returned (.tuple #[.string (bytesOf r), .int .i64 0]) ∧ Below w.heap.size w w'
theorem keys_info (p q : Nat) : (Tryd.prog.info? 109).map (·.size) = some (#[Value.pointer (some ⟨p, 0, none⟩), .pointer (some ⟨q, 0, none⟩)].size) := by kernel_rfl

theorem seal_arg (key nonce s : ByteArray) (h : nonce.size ≠ 12) (w : World) :
    Calls Tryd.prog 62 #[.string key, .string nonce, .string s] w fun e w' => e = .returned (.tuple #[.string ⟨#[]⟩, .int .i64 2]) ∧ w = w' := by
  have e1 : ((nonce.size : Int) != 12) = true := by rw [bne_iff_ne]; omega
  clear h
  go_enter Tryd.func62, Tryd.ntmps62
  go_wp2_with fail
  go_ret2
  exact ⟨rfl, rfl⟩
theorem seal_long (key nonce s : ByteArray) (h : nonce.size = 12) (h2 : 65536 < s.size) (w : World) :
    Calls Tryd.prog 62 #[.string key, .string nonce, .string s] w fun e w' => e = .returned (.tuple #[.string ⟨#[]⟩, .int .i64 5]) ∧ w = w' := by
  have e1 : ((nonce.size : Int) != 12) = false := by rw [h]; rfl
  clear h
  go_enter Tryd.func62, Tryd.ntmps62
  go_wp2_with fail
  go_ret2
  exact ⟨rfl, rfl⟩

set_option maxHeartbeats 1000000 in
set_option maxRecDepth 100000 in
theorem seal_any (key nonce s : ByteArray) (hk : key.size ≤ 1000000) (h : nonce.size = 12) (h2 : s.size ≤ 65536) (w : World) (hT : Tab w) :
    Calls Tryd.prog 62 #[.string key, .string nonce, .string s] w (SealPost (sealedL (nums key) (nums nonce) (nums s)) w) := by
  have e1 : ((nonce.size : Int) != 12) = false := by rw [h]; rfl
  have hz := zero_keys
  have HT := Lib.hid hT
  have HN := Lib.hid h
  have HS := Lib.hid h2
  have HK := Lib.hid hk
  have HH : Hid (nums nonce ++ nums (bytesOf (hide (skey (nums key)) (nums nonce) (nums s))) = hiddenL (nums key) (nums nonce) (nums s)) := Lib.hid (by rw [nums_bytesOf (hide_bytes _ _ (nums_bytes s))]; rfl)
  have HZ : Hid ((bytesOf (hide (skey (nums key)) (nums nonce) (nums s))).size = s.size) := Lib.hid (by rw [bytesOf_size, hide_length, nums_length])
  have hle : ¬ (65536 : Int) < (s.size : Int) := by omega
  clear h hT hk h2
  go_enter Tryd.func62, Tryd.ntmps62
  go_wp2_with fail
  refine (ready_any key (by have := HK.out; omega) w HT.out).mono ?_; rintro e w1 ⟨p, q, rfl, k1, b1⟩
  have KI := Lib.hid (keysIn_new w1 p q _ k1 (HT.out.below b1))
  have B1 := Lib.hid (b1.alloc b1.size (.cells #[.pointer (some ⟨p, 0, none⟩), .pointer (some ⟨q, 0, none⟩)] 109))
  have N1 := Lib.hid (Go.heap_alloc_new w1 (.cells #[.pointer none, .pointer none] 109))
  have N2 := Lib.hid (setRow_heap _ _ _ #[.pointer (some ⟨p, 0, none⟩), .pointer (some ⟨q, 0, none⟩)] _ _ N1.out)
  clear k1 b1
  unfold keysV
  go_wp2_with (first
    | (refine wpList_load_row rfl 109 _ rfl w1.heap.size rfl 109 _ _ _ N2.out Tryd.underlying109 rfl (keys_info p q) ?_)
    | (refine wpList_store_row rfl 109 _ _ rfl w1.heap.size #[.pointer (some ⟨p, 0, none⟩), .pointer (some ⟨q, 0, none⟩)] rfl rfl 109 #[.pointer none, .pointer none] N1.out (keys_info p q) rfl (keys_one p q) ?_))
  rw [World.setRow_alloc_new]
  generalize w1.alloc (.cells #[.pointer (some ⟨p, 0, none⟩), .pointer (some ⟨q, 0, none⟩)] 109) = W at *
  generalize w1.heap.size = b at *
  refine (cturned_any p q (skey (nums key)) (skey_bytes _) nonce s (by have := HN.out; omega) (by have := HS.out; omega) W KI.out.2.2 KI.out.2.1.1).mono ?_; rintro e w2 ⟨rfl, b2⟩
  have K2 := Lib.hid (KI.out.below b2)
  have B2 := Lib.hid (below_step B1.out b2)
  obtain ⟨X, hX⟩ : ∃ X, X = bytesOf (hide (skey (nums key)) (nums nonce) (nums s)) := ⟨_, rfl⟩
  rw [← hX] at HH HZ ⊢
  have hcat : nonce.size + X.size ≤ 9223372036854775807 := by have := HZ.out; have := HN.out; have := HS.out; omega
  clear b2 hX
  obtain ⟨c0, c1⟩ := K2.out.cells
  go_wp2_with fail
  have HQ : Hid (nums (nonce ++ X) = hiddenL (nums key) (nums nonce) (nums s)) := Lib.hid (by rw [nums_append]; exact HH.out)
  have HY : Hid ((nonce ++ X).size ≤ 1000000) := Lib.hid (by rw [ByteArray.size_append]; have := HZ.out; have := HN.out; have := HS.out; omega)
  generalize nonce ++ X = Y at *
  refine (keysum_list q (tkey (nums key)) (tkey_bytes _) Y (by have := HY.out; omega) w2 K2.out.2.2 K2.out.2.1.2).mono ?_; rintro e w3 ⟨rfl, b3⟩
  have B3 := Lib.hid (below_step B2.out b3)
  have HF : Hid (Y ++ bytesOf (tagOf (tkey (nums key)) (nums Y)) = bytesOf (sealedL (nums key) (nums nonce) (nums s))) := Lib.hid (by rw [sealedL, bytesOf_append, ← HQ.out, bytesOf_nums])
  have HW : Hid ((bytesOf (tagOf (tkey (nums key)) (nums Y))).size = 32) := Lib.hid (by rw [bytesOf_size, tagOf_length])
  generalize bytesOf (tagOf (tkey (nums key)) (nums Y)) = T at *
  have hcat2 : Y.size + T.size ≤ 9223372036854775807 := by have := HW.out; have := HY.out; omega
  clear b3 c0 c1
  go_wp2_with fail
  go_ret2
  exact ⟨by rw [← HF.out]; rfl, B3.out⟩
end Go.Proofs.YtedidoeoomijjaaDoor.Pl
