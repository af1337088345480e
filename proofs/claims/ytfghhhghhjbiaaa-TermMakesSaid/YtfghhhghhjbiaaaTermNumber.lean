/- What the document's ReadNum of layer 6 answers: the number in a datum. -/
import Derived.Test.YtfghhhghhjbiaaaTermMakes
namespace Go.Proofs.Ytfghhhghhjbiaaa.Pl
open Go.RowKit

noncomputable def readnumP (s : List UInt8) : Nat × Bool :=
  if (textP s).2 = true ∧ kindP s = 1 ∧ (rdn (textP s).1).2.2 = 0 ∧ (rdn (textP s).1).2.1 = (textP s).1.length ∧ (rdn (textP s).1).1 ≤ 2147483647 then ((rdn (textP s).1).1, true) else (0, false)
theorem rdt_out (l : List UInt8) (m : Int) : (rdt l m).1.length ≤ l.length := by
  unfold rdt
  by_cases h1 : (rdn l).2.2 ≠ 0
  · rw [if_pos h1]; simp
  · rw [if_neg h1]
    by_cases h2 : max m 0 < ((rdn l).1 : Int)
    · rw [if_pos h2]; simp
    · rw [if_neg h2]
      by_cases h3 : l.length - (rdn l).2.1 < (rdn l).1
      · rw [if_pos h3]; simp
      · rw [if_neg h3]; simp; omega
theorem textP_len (s : List UInt8) : (textP s).1.length ≤ s.length := by
  unfold textP
  by_cases h : checkP s = 0 ∧ (s.head? = some 100 ∨ s.head? = some 97)
  · rw [if_pos h]
    have h1 := rdt_out (s.drop 1) 1024
    rw [List.length_drop] at h1
    simp only
    omega
  · rw [if_neg h]; simp
theorem kindP_le (s : List UInt8) : kindP s ≤ 6 := by
  unfold kindP
  split
  · split
    · omega
    · repeat (split; omega)
      omega
  · omega
def nb2 (h : Nat × Bool) : Value := .tuple #[.int .i64 h.1, .bool h.2]
set_option maxHeartbeats 1000000 in
set_option maxRecDepth 100000 in
theorem rreadnum6_any (s : ByteArray) (hs : s.size ≤ 281474976710656) (w : World) :
    Calls Try.prog 17 #[.string s] w fun e w' => e = .returned (nb2 (readnumP (bl s))) ∧ Below w.heap.size w w' := by
  have HT := Lib.hid (rtext6_any s hs w)
  have HK := Lib.hid (fun V => rkind_any s hs V)
  obtain ⟨z, hz⟩ : ∃ z, z = readnumP (bl s) := ⟨_, rfl⟩
  rw [← hz]
  unfold readnumP at hz
  have hk6 := kindP_le (bl s)
  have hx1 : (textP (bl s)).1.length ≤ 281474976710656 := by have := textP_len (bl s); rw [bl_length] at this; omega
  generalize textP (bl s) = q at *
  obtain ⟨x, is⟩ := q
  simp only at hz hx1
  generalize kindP (bl s) = kd at *
  have HR := Lib.hid (fun V => refreadnum_any ⟨x.toArray⟩ (by rw [size_lit]; omega) V)
  have hxe : (⟨x.toArray⟩ : ByteArray).data.toList = x := rfl
  rw [hxe] at HR
  have hsz : (⟨x.toArray⟩ : ByteArray).size = x.length := size_lit x
  clear hxe
  rw [show tb2 (x, is) = .tuple #[.string ⟨x.toArray⟩, .bool is] from rfl] at HT
  generalize (⟨x.toArray⟩ : ByteArray) = X at *
  obtain ⟨v, m, er, hr⟩ : ∃ v m er, rdn x = (v, m, er) := ⟨_, _, _, rfl⟩
  have hmx : m ≤ 281474976710656 := by
    rcases rdn_err hr with h | ⟨_, h, _⟩
    · subst h
      have h1 := (rdn_sound hr).2.1
      omega
    · omega
  generalize x.length = xl at *
  rw [hr] at HR hz
  simp only at HR hz
  have HRX := Lib.hid (show (X.size : Int) = xl by rw [hsz])
  clear hr hs hx1
  cases is with
  | false =>
    have HZ : Hid (z = (0, false)) := Lib.hid (by rw [hz, if_neg]; rintro ⟨h, _⟩; cases h)
    clear hz
    go_enter Try.func17, Try.ntmps17
    go_wp2_with fail
    refine HT.out.mono ?_; rintro e w1 ⟨rfl, b1⟩
    have B1 := Lib.hid b1
    clear b1
    go_wp2_with fail
    go_ret2
    exact ⟨by rw [HZ.out]; rfl, B1.out⟩
  | true =>
    by_cases hk : kd = 1
    · subst hk
      by_cases he : er = 0
      · subst he
        by_cases hm : m = xl
        · by_cases hvm : v ≤ 2147483647
          · have HZ : Hid (z = (v, true)) := Lib.hid (by rw [hz, if_pos ⟨rfl, rfl, rfl, hm, hvm⟩])
            have hcv : ∀ V : World, (convert 64 3 (.int .u64 (v : Int))).run Try.prog V = .ok (.int .i64 (v : Int)) V := fun V => by
              have hw : IntKind.i64.wrap (v : Int) = (v : Int) := IntWalk.i64_in _ (by omega)
              go_simp
            subst hm
            clear hz
            go_enter Try.func17, Try.ntmps17
            go_wp2_with fail
            refine HT.out.mono ?_; rintro e w1 ⟨rfl, b1⟩
            have B1 := Lib.hid b1
            clear b1
            go_wp2_with fail
            refine (HK.out w1).mono ?_; rintro e w2 ⟨rfl, b2⟩
            have B2 := Lib.hid (below_step B1.out b2)
            clear b2
            go_wp2_with fail
            refine (HR.out w2).mono ?_; rintro e w3 ⟨rfl, b3⟩
            have B3 := Lib.hid (below_step B2.out b3)
            clear b3
            go_wp2_with fail
            go_ret2
            exact ⟨by rw [HZ.out]; rfl, B3.out⟩
          · have HZ : Hid (z = (0, false)) := Lib.hid (by rw [hz, if_neg]; rintro ⟨_, _, _, _, h⟩; exact hvm h)
            subst hm
            clear hz
            go_enter Try.func17, Try.ntmps17
            go_wp2_with fail
            refine HT.out.mono ?_; rintro e w1 ⟨rfl, b1⟩
            have B1 := Lib.hid b1
            clear b1
            go_wp2_with fail
            refine (HK.out w1).mono ?_; rintro e w2 ⟨rfl, b2⟩
            have B2 := Lib.hid (below_step B1.out b2)
            clear b2
            go_wp2_with fail
            refine (HR.out w2).mono ?_; rintro e w3 ⟨rfl, b3⟩
            have B3 := Lib.hid (below_step B2.out b3)
            clear b3
            go_wp2_with fail
            go_ret2
            exact ⟨by rw [HZ.out]; rfl, B3.out⟩
        · have HZ : Hid (z = (0, false)) := Lib.hid (by rw [hz, if_neg]; rintro ⟨_, _, _, h, _⟩; exact hm h)
          have q1 : ((m : Int) != (xl : Int)) = true := by rw [bne_iff_ne]; omega
          clear hz
          go_enter Try.func17, Try.ntmps17
          go_wp2_with fail
          refine HT.out.mono ?_; rintro e w1 ⟨rfl, b1⟩
          have B1 := Lib.hid b1
          clear b1
          go_wp2_with fail
          refine (HK.out w1).mono ?_; rintro e w2 ⟨rfl, b2⟩
          have B2 := Lib.hid (below_step B1.out b2)
          clear b2
          go_wp2_with fail
          refine (HR.out w2).mono ?_; rintro e w3 ⟨rfl, b3⟩
          have B3 := Lib.hid (below_step B2.out b3)
          clear b3
          go_wp2_with fail
          go_ret2
          exact ⟨by rw [HZ.out]; rfl, B3.out⟩
      · have HZ : Hid (z = (0, false)) := Lib.hid (by rw [hz, if_neg]; rintro ⟨_, _, h, _, _⟩; exact he h)
        have q1 : ((er : Int) != 0) = true := by rw [bne_iff_ne]; omega
        clear hz
        go_enter Try.func17, Try.ntmps17
        go_wp2_with fail
        refine HT.out.mono ?_; rintro e w1 ⟨rfl, b1⟩
        have B1 := Lib.hid b1
        clear b1
        go_wp2_with fail
        refine (HK.out w1).mono ?_; rintro e w2 ⟨rfl, b2⟩
        have B2 := Lib.hid (below_step B1.out b2)
        clear b2
        go_wp2_with fail
        refine (HR.out w2).mono ?_; rintro e w3 ⟨rfl, b3⟩
        have B3 := Lib.hid (below_step B2.out b3)
        clear b3
        go_wp2_with fail
        go_ret2
        exact ⟨by rw [HZ.out]; rfl, B3.out⟩
    · have HZ : Hid (z = (0, false)) := Lib.hid (by rw [hz, if_neg]; rintro ⟨_, h, _⟩; exact hk h)
      have q1 : ((kd : Int) != 1) = true := by rw [bne_iff_ne]; omega
      clear hz
      go_enter Try.func17, Try.ntmps17
      go_wp2_with fail
      refine HT.out.mono ?_; rintro e w1 ⟨rfl, b1⟩
      have B1 := Lib.hid b1
      clear b1
      go_wp2_with fail
      refine (HK.out w1).mono ?_; rintro e w2 ⟨rfl, b2⟩
      have B2 := Lib.hid (below_step B1.out b2)
      clear b2
      go_wp2_with fail
      go_ret2
      exact ⟨by rw [HZ.out]; rfl, B2.out⟩
end Go.Proofs.Ytfghhhghhjbiaaa.Pl
