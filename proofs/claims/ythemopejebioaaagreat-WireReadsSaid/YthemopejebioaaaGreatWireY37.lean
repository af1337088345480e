/- Which message any text is the term of, or that it is none's: the walk. -/
import Derived.Test.YthemopejebioaaaGreatWireY36
import Derived.Test.YthemopejebioaaaGreatWireY17
import Derived.Test.YthemopejebioaaaGreatWireY14
namespace Go.Proofs.YthemopejebioaaaGreat.Pl
open Go.RowKit

theorem dec_len {t : ByteArray} : (msGet (decP t)).mem.length ≤ 1000000 := by
  cases h : decP t with
  | none => exact Nat.zero_le _
  | some m =>
    have hm := (enc_dec h).1
    have hk := may_kind hm
    by_cases h1 : m.kind = 1
    · have := (mayL_iff.1 (may_112 hm h1).2.1).2.1
      show m.mem.length ≤ _
      omega
    · have e : m.mem = [] := by
        have hb := may_bare hm
        obtain ⟨bo, bc, _, _, _⟩ := bare_row m none 0
        have e1 : (bareP m).mem = [] := by
          unfold bareP; rw [if_neg h1]
          by_cases h2 : m.kind = 2
          · rw [if_pos h2]
          · rw [if_neg h2]
            by_cases h3 : m.kind = 3
            · rw [if_pos h3]
            · rw [if_neg h3]
              by_cases h6 : m.kind = 6
              · rw [if_pos h6]
              · rw [if_neg h6]
        rw [hb] at e1; exact e1
      show m.mem.length ≤ _
      rw [e]; exact Nat.zero_le _

set_option maxHeartbeats 8000000 in
set_option maxRecDepth 100000 in
theorem wirereads_any (t : ByteArray) (ht : t.size ≤ 281474976710656) (w : World) :
    Calls Tryz.prog 4 #[.string t] w fun x w' => x = .returned (.bool true) ∧ Below w.heap.size w w' := by
  have HA := Lib.hid alive12_any
  by_cases hts : 20000 < t.size
  · have hts' : (20000 : Int) < (t.size : Int) := by omega
    go_enter Tryz.func4, Tryz.ntmps4
    go_wp2_with fail
    refine (HA.out _).mono ?_; rintro e V ⟨rfl, b1⟩
    go_wp2_with fail
    go_ret
    exact ⟨rfl, b1⟩
  · have hts' : ¬ (20000 : Int) < (t.size : Int) := by omega
    have HD := fun V => dec12_any t ht V
    have HE := fun V => rdecode12_any t ht V
    unfold DecOut at HE
    have hlen := @dec_len t
    generalize msGet (decP t) = M at *
    generalize (if (decP t).isSome then 0 else 7 : Nat) = z at *
    have HS := fun V ao bo c1 c2 h1 h2 => same_any M M ao bo c1 c2 hlen V h1 h2
    rw [eqM_yes rfl] at HS
    obtain ⟨k, c, e, q, aud, mem, body, yes, tag⟩ := M
    dsimp only [msC] at HD HE HS hlen
    have HD := Lib.hid HD
    have HE := Lib.hid HE
    have HS := Lib.hid HS
    obtain ⟨n, hn⟩ : ∃ n, n = mem.length := ⟨_, rfl⟩
    rw [← hn] at HD HE HS hlen
    clear hn
    have heq : ((z : Int) == (z : Int)) = true := by simp
    go_enter Tryz.func4, Tryz.ntmps4
    go_wp2_with fail
    refine (HD.out _).mono ?_; rintro e1 V1 ⟨⟨ao, cap, rfl, hO⟩, b1⟩
    have hr1 : MemRow V1 ao mem := by obtain ⟨mo, mc, me, hr, -, -⟩ := ownM_row hO; cases me; exact hr
    obtain ⟨W1, hW1⟩ : ∃ V, V = V1.alloc (.cells #[.int .u8 k, .int .i64 c, .int .i64 e, .int .i64 q, .int .i64 aud, .slice ao n cap, .string body, .bool yes, .string tag] 26) := ⟨_, rfl⟩
    have G1 := Lib.hid (show GAt W1 V1.heap.size ⟨k, c, e, q, aud, mem, body, yes, tag⟩ (.slice ao n cap) from hW1 ▸ gat_new V1 ⟨k, c, e, q, aud, mem, body, yes, tag⟩ (.slice ao n cap))
    have ba : Below V1.heap.size V1 W1 := by rw [hW1]; exact (Below.refl _ _).alloc (Nat.le_refl _) _
    have BB := Lib.hid (below_step b1 ba)
    have R1 := Lib.hid (hr1.below ba)
    have HW1 := Lib.hid hW1
    clear hO b1 hr1 hW1 ba HD
    go_wp2_with fail
    rw [← HW1.out]
    refine (HE.out _).mono ?_; rintro e2 V2 ⟨⟨bo, bc, rfl, hr2⟩, b2⟩
    obtain ⟨W2, hW2⟩ : ∃ V, V = V2.alloc (.cells #[.int .u8 k, .int .i64 c, .int .i64 e, .int .i64 q, .int .i64 aud, .slice bo n bc, .string body, .bool yes, .string tag] 26) := ⟨_, rfl⟩
    have ba : Below V2.heap.size V2 W2 := by rw [hW2]; exact (Below.refl _ _).alloc (Nat.le_refl _) _
    have BB := Lib.hid (below_step (below_step BB.out b2) ba)
    have R1 := Lib.hid ((R1.out.below b2).below ba)
    have R2 := Lib.hid (hr2.below ba)
    obtain ⟨z0, z1, z2, z3, z4, z5, z6, z7, z8⟩ := ((G1.out.below b2).below ba).cells
    dsimp only at z0 z1 z2 z3 z4 z5 z6 z7 z8
    rw [hW2] at z0 z1 z2 z3 z4 z5 z6 z7 z8
    have HW2 := Lib.hid hW2
    clear b2 hr2 hW2 ba HE G1 HW1
    go_wp2_with fail
    rw [← HW2.out]
    clear z0 z1 z2 z3 z4 z5 z6 z7 z8
    refine (HS.out _ _ _ _ _ R1.out R2.out).mono ?_; rintro e3 V3 ⟨rfl, b3⟩
    have BB := Lib.hid (below_step BB.out b3)
    clear b3
    go_wp2_with fail
    refine (HA.out _).mono ?_; rintro e4 V4 ⟨rfl, b4⟩
    go_wp2_with fail
    go_ret
    exact ⟨rfl, below_step BB.out b4⟩
end Go.Proofs.YthemopejebioaaaGreat.Pl
