/- The document's Place, num and May of layer 13. The document's Body of layer 13. What the methods of a suite answer, of either kind: the call through its interface. What suite.New answers. How a ballot that came in reads. -/
import Derived.Test.YtbdlegjklfkdmaaGreatDoorBallC34
import Derived.Test.YtbdlegjklfkdmaaGreatDoorBallC38
import Derived.Test.YtbdlegjklfkdmaaGreatDoorBallC36
import Derived.Test.YtbdlegjklfkdmaaGreatDoorBallC39
import Derived.Test.YtbdlegjklfkdmaaGreatDoorBallC4
import Derived.Deep.RegionHeld3
import Derived.Handy
import Derived.Test.YtbdlegjklfkdmaaGreatDoorBallC35
namespace Go.Proofs.YtbdlegjklfkdmaaGreatDoor.Pl
open Go.RowKit

/-- A ballot's cells, its members at v. -/
abbrev btC (b : Bt) (v : Value) : Array Value := #[.int .i64 b.c, .int .i64 b.e, .int .i64 b.q, .int .i64 b.aud, v, .int .i64 b.org]
def BAt (w : World) (g : Nat) (b : Bt) (v : Value) : Prop := w.heap[g]? = some (.cells (btC b v) 26 (0, 0))
theorem BAt.lt {w : World} {g : Nat} {b : Bt} {v : Value} (h : BAt w g b v) : g < w.heap.size := (Array.getElem?_eq_some_iff.1 h).1
theorem BAt.below {w w' : World} {g : Nat} {b : Bt} {v : Value} (h : BAt w g b v) (hb : Below w.heap.size w w') : BAt w' g b v := (hb.block g h.lt).trans h
theorem BAt.cells {w : World} {g : Nat} {b : Bt} {v : Value} (h : BAt w g b v) : w.cell? ⟨g, 0, none⟩ = some (.int .i64 b.c) ∧ w.cell? ⟨g, 1, none⟩ = some (.int .i64 b.e) ∧ w.cell? ⟨g, 2, none⟩ = some (.int .i64 b.q) ∧ w.cell? ⟨g, 3, none⟩ = some (.int .i64 b.aud) ∧ w.cell? ⟨g, 4, none⟩ = some (v) ∧ w.cell? ⟨g, 5, none⟩ = some (.int .i64 b.org) := by
  unfold BAt btC at h
  exact ⟨cell_of_row _ _ _ _ _ _ h, cell_of_row _ _ _ _ _ _ h, cell_of_row _ _ _ _ _ _ h, cell_of_row _ _ _ _ _ _ h, cell_of_row _ _ _ _ _ _ h, cell_of_row _ _ _ _ _ _ h⟩
theorem bat_new (w : World) (b : Bt) (v : Value) : BAt (w.alloc (.cells (btC b v) 26)) w.heap.size b v := Go.heap_alloc_new _ _
def placeI (o : Int) (l : List Mb) : Int := match placeP o l with | some i => (i : Int) | none => -1
theorem place_step {o : Int} {l : List Mb} {j : Nat} (hj : j < l.length) (h : placeP o l = (placeP o (l.drop j)).map (· + j)) : (l[j].1 = o → placeI o l = j) ∧ (l[j].1 ≠ o → placeP o l = (placeP o (l.drop (j + 1))).map (· + (j + 1))) := by
  rw [List.drop_eq_getElem_cons hj, show placeP o (l[j] :: l.drop (j + 1)) = if l[j].1 = o then some 0 else (placeP o (l.drop (j + 1))).map (· + 1) from rfl] at h
  refine ⟨fun e => ?_, fun e => ?_⟩
  · rw [if_pos e] at h
    unfold placeI
    rw [h]; simp
  · rw [if_neg e] at h
    rw [h, Option.map_map]
    congr 1
    funext x
    show x + 1 + j = x + (j + 1)
    omega

set_option maxHeartbeats 8000000 in
set_option maxRecDepth 100000 in
theorem rplace_any (l : List Mb) (og : Int) (ao : Option Addr) (cap : Nat) (hl : l.length ≤ 9223372036854775807) (w : World) (hrow : MemRow w ao l) :
    Calls Tryz.prog 36 #[.slice ao l.length cap, .int .i64 og] w fun x w' => x = .returned (.int .i64 (placeI og l)) ∧ w' = w := by
  obtain ⟨n, hn⟩ : ∃ n, n = l.length := ⟨_, rfl⟩
  obtain ⟨z, hz⟩ : ∃ z, z = placeI og l := ⟨_, rfl⟩
  rw [← hn, ← hz]
  have HZ := Lib.hid hz
  have HN := Lib.hid hn
  have HROW := Lib.hid hrow
  rw [← hn] at hl
  clear hrow hz hn
  go_enter Tryz.func36, Tryz.ntmps36
  go_wp2_with fail
  go_loopw [5] (fun iv wr => ∃ j : Nat, iv = .int .i64 j ∧ j ≤ n ∧ wr = w ∧ Hid (placeP og l = (placeP og (l.drop j)).map (· + j))) (fun iv _ => n - (intOf iv).toNat)
  case atStart => exact ⟨0, rfl, Nat.zero_le _, rfl, Lib.hid (by rw [List.drop_zero]; cases placeP og l <;> rfl)⟩
  case round =>
    obtain ⟨j, rfl, hjn, rfl, hst⟩ := hrel
    by_cases hj : j < n
    · have hj' : (j : Int) < (n : Int) := by omega
      have hj1 : j < l.length := by rw [← HN.out]; exact hj
      rcases HROW.out with e | ⟨b, off, rfl, hlt, hcs⟩
      · exfalso; rw [e] at hj1; exact absurd hj1 (Nat.not_lt_zero _)
      obtain ⟨x0, x1⟩ := hcs j hj1
      obtain ⟨s1, s2⟩ := place_step hj1 hst.out
      generalize l[j] = m1 at *
      obtain ⟨o1, d1⟩ := m1
      dsimp only at *
      clear hcs hlt hj1 hst
      by_cases he : o1 = og
      · have hzz : Hid (z = (j : Int)) := Lib.hid (by rw [HZ.out]; exact s1 he)
        have he2 : (o1 == og) = true := by rw [beq_iff_eq]; exact he
        clear s1 s2 he
        go_wp2_with fail
        go_ret
        exact ⟨by rw [hzz.out]; rfl, rfl⟩
      · have hnx := Lib.hid (s2 he)
        have he2 : (o1 == og) = false := beq_eq_false_iff_ne.2 he
        clear s1 s2 he
        go_wp2_with fail
        go_roundw
        case rel => exact ⟨j + 1, by go_num, by omega, by first | trivial | rfl, hnx⟩
        case measure => simp [intOf] <;> omega
    · obtain rfl : j = n := by omega
      have hzz : Hid (z = -1) := Lib.hid (by
        have h := hst.out
        rw [HN.out, List.drop_length] at h
        rw [HZ.out]; unfold placeI
        rw [h]; rfl)
      clear hst
      go_wp2_with fail
      go_ret
      exact ⟨by rw [hzz.out]; rfl, rfl⟩
theorem rnum13_any (v : Int) (h0 : -9223372036854775808 ≤ v) (h1 : v ≤ 9223372036854775807) (w : World) : Calls Tryz.prog 33 #[.int .i64 v] w fun x w' => x = .returned (.string (numT v)) ∧ Below w.heap.size w w' := by
  have HN := rnum6_any v h0 h1 w
  rw [show st2 (numP v) = .tuple #[.string (numT v), .int .i64 (numP v).2] from rfl] at HN
  have HN := Lib.hid HN
  generalize numT v = nt at *
  generalize (numP v).2 = ne at *
  go_enter Tryz.func33, Tryz.ntmps33
  go_wp2_with (first | (go_at_call 79; refine HN.out.mono ?_; rintro e w1 ⟨rfl, b1⟩) | fail)
  go_ret
  exact ⟨rfl, b1⟩
theorem place_some {o : Int} {l : List Mb} : decide (0 ≤ placeI o l) = (placeP o l).isSome := by
  unfold placeI
  cases placeP o l with
  | none => rfl
  | some i => simp
set_option maxHeartbeats 8000000 in
set_option maxRecDepth 100000 in
theorem rmay13_any (b : Bt) (ao : Option Addr) (cap : Nat) (hms : ∀ x ∈ b.mem, x.2.size ≤ 281474976710656) (hml : b.mem.length ≤ 1000000) (w : World) (hrow : MemRow w ao b.mem) :
    Calls Tryz.prog 13 #[.agg (btC b (.slice ao b.mem.length cap))] w fun x w' => x = .returned (.bool (mayBt b)) ∧ Below w.heap.size w w' := by
  have HX := fun V => rmaytxn_any b.c b.e b.q V
  have HO := fun V => rorg_any b.aud V
  have HL := fun V (hV : Below w.heap.size w V) => rmaymems_any b.c b.e b.q b.mem ao cap hms (by omega) V (hrow.below hV)
  have HP := fun V (hV : Below w.heap.size w V) => rplace_any b.mem b.org ao cap (by omega) V (hrow.below hV)
  obtain ⟨W0, hW0⟩ : ∃ V, V = w.alloc (.cells (btC b (.slice ao b.mem.length cap)) 26) := ⟨_, rfl⟩
  have g0 : BAt W0 w.heap.size b (.slice ao b.mem.length cap) := by rw [hW0]; exact bat_new _ _ _
  have b0 : Below w.heap.size w W0 := by rw [hW0]; exact (Below.refl _ _).alloc (Nat.le_refl _) _
  have hz : mayBt b = (mayX b.c b.e b.q && (orgP b.aud && (mayL b.c b.mem && (placeP b.org b.mem).isSome))) := rfl
  rw [← place_some] at hz
  generalize mayBt b = z at *
  obtain ⟨c, e, q, aud, mem, org⟩ := b
  dsimp only [btC] at *
  obtain ⟨n, hn⟩ : ∃ n, n = mem.length := ⟨_, rfl⟩
  rw [← hn] at HL HP hW0 g0
  rw [← hn]
  generalize mayX c e q = mx at *
  generalize orgP aud = oc at *
  generalize mayL c mem = ml at *
  generalize placeI org mem = pl at *
  have HZ := Lib.hid hz
  have GG := Lib.hid g0
  have BB := Lib.hid b0
  have HX := Lib.hid HX
  have HO := Lib.hid HO
  have HL := Lib.hid HL
  have HP := Lib.hid HP
  have HCE : Hid (∀ V, BAt V w.heap.size ⟨c, e, q, aud, mem, org⟩ (.slice ao n cap) → V.cell? ⟨w.heap.size, 0, none⟩ = some (.int .i64 c) ∧ V.cell? ⟨w.heap.size, 1, none⟩ = some (.int .i64 e) ∧ V.cell? ⟨w.heap.size, 2, none⟩ = some (.int .i64 q) ∧ V.cell? ⟨w.heap.size, 3, none⟩ = some (.int .i64 aud) ∧ V.cell? ⟨w.heap.size, 4, none⟩ = some (.slice ao n cap) ∧ V.cell? ⟨w.heap.size, 5, none⟩ = some (.int .i64 org)) := Lib.hid (fun V h => h.cells)
  obtain ⟨z0, z1, z2, z3, z4, z5⟩ := HCE.out _ GG.out
  rw [hW0] at z0 z1 z2 z3 z4 z5
  have HW0 := Lib.hid hW0
  clear hW0 g0 b0 hz hn hrow hms hml
  go_enter Tryz.func13, Tryz.ntmps13
  go_wp2_with fail
  rw [← HW0.out]
  clear z0 z1 z2 z3 z4 z5
  refine (HX.out _).mono ?_; rintro e1 w1 ⟨rfl, b1⟩
  have GG := Lib.hid (GG.out.below b1)
  have BB := Lib.hid (below_step BB.out b1)
  clear b1
  obtain ⟨z0, z1, z2, z3, z4, z5⟩ := HCE.out _ GG.out
  cases mx with
  | false =>
    go_wp2_with fail
    go_ret
    exact ⟨by rw [HZ.out]; rfl, BB.out⟩
  | true =>
    go_wp2_with fail
    refine (HO.out _).mono ?_; rintro e2 w2 ⟨rfl, hw⟩; rw [hw]; clear hw w2
    cases oc with
    | false =>
      go_wp2_with fail
      go_ret
      exact ⟨by rw [HZ.out]; rfl, BB.out⟩
    | true =>
      go_wp2_with fail
      refine (HL.out _ BB.out).mono ?_; rintro e3 w3 ⟨rfl, b3⟩
      have GG := Lib.hid (GG.out.below b3)
      have BB := Lib.hid (below_step BB.out b3)
      clear b3 z0 z1 z2 z3 z4 z5
      obtain ⟨z0, z1, z2, z3, z4, z5⟩ := HCE.out _ GG.out
      cases ml with
      | false =>
        go_wp2_with fail
        go_ret
        exact ⟨by rw [HZ.out]; rfl, BB.out⟩
      | true =>
        go_wp2_with fail
        refine (HP.out _ BB.out).mono ?_; rintro e4 w4 ⟨rfl, hw⟩; rw [hw]; clear hw w4
        go_wp2_with fail
        go_ret
        exact ⟨by rw [HZ.out]; rfl, BB.out⟩
end Go.Proofs.YtbdlegjklfkdmaaGreatDoor.Pl

namespace Go.Proofs.YtbdlegjklfkdmaaGreatDoor.Pl
open Go.RowKit

theorem txt_five12 (V : World) (x y z u v : ByteArray) : TxtRow (V.alloc (.cells #[.string x, .string y, .string z, .string u, .string v] 9)) (some ⟨V.heap.size, 0, none⟩) [x, y, z, u, v] := by
  have h := Go.heap_alloc_new V (.cells #[.string x, .string y, .string z, .string u, .string v] 9)
  refine .inr ⟨V.heap.size, 0, rfl, by simp, fun j hj => ?_⟩
  have : j = 0 ∨ j = 1 ∨ j = 2 ∨ j = 3 ∨ j = 4 := by simp at hj; omega
  rcases this with rfl | rfl | rfl | rfl | rfl <;> exact cell_of_row _ _ _ _ _ _ h

set_option maxHeartbeats 8000000 in
set_option maxRecDepth 100000 in
theorem rbody13_any (b : Bt) (ao : Option Addr) (cap : Nat) (hms : ∀ x ∈ b.mem, x.2.size ≤ 30000) (hml : b.mem.length ≤ 1000000) (w : World) (hrow : MemRow w ao b.mem) :
    Calls Tryz.prog 9 #[.agg (btC b (.slice ao b.mem.length cap))] w fun x w' => x = .returned (st2 (bodyP b)) ∧ Below w.heap.size w w' := by
  have HM := fun V (hV : Below w.heap.size w V) => rmay13_any b ao cap (fun x hx => by have := hms x hx; omega) hml V (hrow.below hV)
  have HT := fun V => rtxn12_any b.c b.e b.q V
  have HL := fun V (hV : Below w.heap.size w V) => rmembers12_any b.c b.e b.q b.mem ao cap hms (by omega) V (hrow.below hV)
  have HD := fun V => rdata_any (tb ballotW) (by decide) V
  rw [bl_tb, (data_read (x := ballotW) (by decide)).1, show st2 (100 :: txt ballotW, 0) = .tuple #[.string (tb (100 :: txt ballotW)), .int .i64 0] from rfl, show tb ballotW = ⟨#[98, 97, 108, 108, 111, 116]⟩ from rfl] at HD
  obtain ⟨W0, hW0⟩ : ∃ V, V = w.alloc (.cells (btC b (.slice ao b.mem.length cap)) 26) := ⟨_, rfl⟩
  have g0 : BAt W0 w.heap.size b (.slice ao b.mem.length cap) := by rw [hW0]; exact bat_new _ _ _
  have b0 : Below w.heap.size w W0 := by rw [hW0]; exact (Below.refl _ _).alloc (Nat.le_refl _) _
  have hz : bodyP b = if mayBt b = false then ([], 2) else if (membersT b.mem).2 ≠ 0 then ([], 5) else rowP (bodyL b) := rfl
  have hsz : (100 :: txt ballotW).length ≤ 100 := by decide
  obtain ⟨rs, hrs⟩ : ∃ x, x = tb (bodyP b).1 := ⟨_, rfl⟩
  obtain ⟨re, hre⟩ : ∃ x, x = (bodyP b).2 := ⟨_, rfl⟩
  rw [show st2 (bodyP b) = .tuple #[.string (tb (bodyP b).1), .int .i64 ((bodyP b).2 : Nat)] from rfl, ← hrs, ← hre]
  have HCE : Hid (∀ V, BAt V w.heap.size b (.slice ao b.mem.length cap) → V.cell? ⟨w.heap.size, 0, none⟩ = some (.int .i64 b.c) ∧ V.cell? ⟨w.heap.size, 1, none⟩ = some (.int .i64 b.e) ∧ V.cell? ⟨w.heap.size, 2, none⟩ = some (.int .i64 b.q) ∧ V.cell? ⟨w.heap.size, 3, none⟩ = some (.int .i64 b.aud) ∧ V.cell? ⟨w.heap.size, 4, none⟩ = some (.slice ao b.mem.length cap) ∧ V.cell? ⟨w.heap.size, 5, none⟩ = some (.int .i64 b.org)) := Lib.hid (fun V h => h.cells)
  have GG := Lib.hid g0
  have BB := Lib.hid b0
  obtain ⟨z0, z1, z2, z3, z4, z5⟩ := HCE.out _ GG.out
  rw [hW0] at z0 z1 z2 z3 z4 z5
  have HW0 := Lib.hid hW0
  clear hW0 g0 b0
  cases hm : mayBt b with
  | false =>
    rw [hm] at HM
    rw [hm, if_pos rfl] at hz
    rw [hz] at hrs hre
    subst hrs; subst hre
    have HM := Lib.hid HM
    clear HL HT HD hz hm hrow hms hml hsz
    obtain ⟨c, e, q, aud, mem, org⟩ := b
    dsimp only [btC] at *
    generalize mem.length = n at *
    go_enter Tryz.func9, Tryz.ntmps9
    go_wp2_with fail
    rw [← HW0.out]
    refine (HM.out _ BB.out).mono ?_; rintro e1 w1 ⟨rfl, b1⟩
    go_wp2_with fail
    go_ret2
    exact ⟨rfl, below_step BB.out b1⟩
  | true =>
    rw [hm] at HM
    rw [hm, if_neg (by simp)] at hz
    obtain ⟨hx, ho, hl, -⟩ := mayBt_iff.1 hm
    have hio := orgP_iff.1 ho
    have hig := orgP_iff.1 (mayBt_org hm)
    rw [show txP b.c b.e b.q = (txnT b.c b.e b.q, 0) from if_pos hx, show st2 (txnT b.c b.e b.q, 0) = .tuple #[.string (tb (txnT b.c b.e b.q)), .int .i64 0] from rfl] at HT
    rw [show mtP b.c b.mem = if (membersT b.mem).2 = 0 then ((membersT b.mem).1, 0) else ([], 5) by unfold mtP; rw [if_pos hl]] at HL
    have HN1 := fun V => rnum13_any b.aud (by omega) (by omega) V
    have HN2 := fun V => rnum13_any b.org (by omega) (by omega) V
    have hns1 := numT_size (v := b.aud) hio.1 (by omega)
    have hns2 := numT_size (v := b.org) hig.1 (by omega)
    have hxs : (tb (txnT b.c b.e b.q)).size ≤ 16384 := by have := rowP_size (txnL b.c b.e b.q); unfold tb; rw [size_lit]; exact this
    by_cases h5 : (membersT b.mem).2 = 0
    · rw [if_pos h5, show st2 ((membersT b.mem).1, 0) = .tuple #[.string (tb (membersT b.mem).1), .int .i64 0] from rfl] at HL
      rw [if_neg (by simp [h5])] at hz
      have hmz : (tb (membersT b.mem).1).size ≤ 16384 := by
        have h := rowP_size (b.mem.map fun m => (memT m).1)
        rw [(membersT_is h5).2] at h
        unfold tb; rw [size_lit]; exact h
      have HR : ∀ oo V, TxtRow V oo [tb (100 :: txt ballotW), tb (txnT b.c b.e b.q), numT b.aud, tb (membersT b.mem).1, numT b.org] → Calls Tryz.prog 32 #[.slice oo 5 5] V fun x w2 => x = .returned (.tuple #[.string rs, .int .i64 (re : Nat)]) ∧ Below V.heap.size V w2 := fun oo V hV => by
        have h := rrow6_any [tb (100 :: txt ballotW), tb (txnT b.c b.e b.q), numT b.aud, tb (membersT b.mem).1, numT b.org] oo 5 (by simp) (fun x hx => by
          simp only [List.mem_cons, List.not_mem_nil, or_false] at hx
          rcases hx with rfl | rfl | rfl | rfl | rfl
          · unfold tb; rw [size_lit]; omega
          · omega
          · omega
          · omega
          · omega) V hV
        rw [show ([tb (100 :: txt ballotW), tb (txnT b.c b.e b.q), numT b.aud, tb (membersT b.mem).1, numT b.org] : List ByteArray).map bl = bodyL b from by unfold bodyL; rw [(data_read (x := ballotW) (by decide)).1]; rfl, ← hz, show st2 (bodyP b) = .tuple #[.string (tb (bodyP b).1), .int .i64 ((bodyP b).2 : Nat)] from rfl, ← hrs, ← hre] at h
        exact h
      clear hz hrs hre hm hx ho hl hio hig hns1 hns2 hxs hmz h5 hrow hms hml hsz
      obtain ⟨c, e, q, aud, mem, org⟩ := b
      dsimp only [btC] at *
      generalize tb (100 :: txt ballotW) = wT at *
      generalize tb (txnT c e q) = tx at *
      generalize tb (membersT mem).1 = mt at *
      generalize numT aud = na at *
      generalize numT org = no at *
      generalize mem.length = n at *
      have HM := Lib.hid HM
      have HT := Lib.hid HT
      have HL := Lib.hid HL
      have HD := Lib.hid HD
      have HN1 := Lib.hid HN1
      have HN2 := Lib.hid HN2
      have HR := Lib.hid HR
      go_enter Tryz.func9, Tryz.ntmps9
      go_wp2_with fail
      rw [← HW0.out]
      refine (HM.out _ BB.out).mono ?_; rintro e1 w1 ⟨rfl, b1⟩
      have GG := Lib.hid (GG.out.below b1)
      have BB := Lib.hid (below_step BB.out b1)
      clear b1 z0 z1 z2 z3 z4 z5
      go_wp2_with fail
      refine (HD.out _).mono ?_; rintro e2 w2 ⟨rfl, b2⟩
      have GG := Lib.hid (GG.out.below b2)
      have BB := Lib.hid (below_step BB.out b2)
      clear b2
      obtain ⟨z0, z1, z2, z3, z4, z5⟩ := HCE.out _ GG.out
      go_wp2_with fail
      refine (HT.out _).mono ?_; rintro e3 w3 ⟨rfl, b3⟩
      have GG := Lib.hid (GG.out.below b3)
      have BB := Lib.hid (below_step BB.out b3)
      clear b3 z0 z1 z2 z3 z4 z5
      obtain ⟨z0, z1, z2, z3, z4, z5⟩ := HCE.out _ GG.out
      go_wp2_with fail
      refine (HL.out _ BB.out).mono ?_; rintro e4 w4 ⟨rfl, b4⟩
      have GG := Lib.hid (GG.out.below b4)
      have BB := Lib.hid (below_step BB.out b4)
      clear b4 z0 z1 z2 z3 z4 z5
      go_wp2_with fail
      have GG := Lib.hid (GG.out.below (drew12 w4))
      have BB := Lib.hid (below_step BB.out (drew12 w4))
      have HC2 : Hid (∀ V, BAt V w.heap.size ⟨c, e, q, aud, mem, org⟩ (.slice ao n cap) → V.cell? ⟨w.heap.size, 3, none⟩ = some (.int .i64 aud) ∧ V.cell? ⟨w.heap.size, 5, none⟩ = some (.int .i64 org)) := Lib.hid (fun V h => ⟨h.cells.2.2.2.1, h.cells.2.2.2.2.2⟩)
      have KS := HC2.out _ GG.out
      refine wp_region_held_drew (S := fun W => W.cell? ⟨w.heap.size, 3, none⟩ = some (.int .i64 aud) ∧ W.cell? ⟨w.heap.size, 5, none⟩ = some (.int .i64 org)) (by kernel_rfl) (by first | assumption | exact KS) (fun hHeld => ?_)
      generalize w4.drew = wz at *
      refine wpAnyH_take (i := 0) (oi := { dst := some 33, op := Op.move (Operand.tmp 4), type := 9, pos := "ref.go:44", after := #[], guard := none }) (v := ?_) rfl (by kernel_rfl) (by kernel_rfl) (by kernel_rfl) (fun _ _ _ h => h) (Or.inl ⟨by rfl, ?_⟩) (by assumption) ?_
      rotate_left 1
      · (intro w hSw; (try dsimp only at hSw); go_simp; try with_reducible rfl)
      (try simp only [Act.put, List.setIfInBounds_toArray, List.set_cons_zero, List.set_cons_succ])
      refine wpAnyH_take (i := 1) (oi := { dst := some 34, op := Op.move (Operand.tmp 6), type := 9, pos := "ref.go:44", after := #[], guard := none }) (v := ?_) rfl (by kernel_rfl) (by kernel_rfl) (by kernel_rfl) (fun _ _ _ h => h) (Or.inl ⟨by rfl, ?_⟩) (by assumption) ?_
      rotate_left 1
      · (intro w hSw; (try dsimp only at hSw); go_simp; try with_reducible rfl)
      (try simp only [Act.put, List.setIfInBounds_toArray, List.set_cons_zero, List.set_cons_succ])
      refine wpAnyH_take (i := 2) (oi := { dst := some 35, op := Op.fieldAddr 26 (Operand.tmp 1) 1, type := 0, pos := "ref.go:44", after := #[], guard := none }) (v := ?_) rfl (by kernel_rfl) (by kernel_rfl) (by kernel_rfl) (fun _ _ _ h => h) (Or.inl ⟨by rfl, ?_⟩) (by assumption) ?_
      rotate_left 1
      · (intro w hSw; (try dsimp only at hSw); go_simp; try with_reducible rfl)
      (try simp only [Act.put, List.setIfInBounds_toArray, List.set_cons_zero, List.set_cons_succ])
      refine wpAnyH_take (i := 3) (oi := { dst := some 36, op := Op.load 3 (Operand.tmp 35), type := 3, pos := "ref.go:44", after := #[{ on := 2, ground := Ground.data }], guard := none }) (v := ?_) rfl (by kernel_rfl) (by kernel_rfl) (by kernel_rfl) (fun _ _ _ h => h) (Or.inl ⟨by rfl, ?_⟩) (by assumption) ?_
      rotate_left 1
      · (intro w hSw; (try dsimp only at hSw); go_simp; try with_reducible rfl)
      (try simp only [Act.put, List.setIfInBounds_toArray, List.set_cons_zero, List.set_cons_succ])
      refine wpAnyH_take (i := 5) (oi := { dst := some 38, op := Op.move (Operand.tmp 8), type := 9, pos := "ref.go:44", after := #[], guard := none }) (v := ?_) rfl (by kernel_rfl) (by kernel_rfl) (by kernel_rfl) (fun _ _ _ h => h) (Or.inl ⟨by rfl, ?_⟩) (by assumption) ?_
      rotate_left 1
      · (intro w hSw; (try dsimp only at hSw); go_simp; try with_reducible rfl)
      (try simp only [Act.put, List.setIfInBounds_toArray, List.set_cons_zero, List.set_cons_succ])
      refine wpAnyH_take (i := 6) (oi := { dst := some 39, op := Op.fieldAddr 26 (Operand.tmp 1) 3, type := 0, pos := "ref.go:44", after := #[], guard := none }) (v := ?_) rfl (by kernel_rfl) (by kernel_rfl) (by kernel_rfl) (fun _ _ _ h => h) (Or.inl ⟨by rfl, ?_⟩) (by assumption) ?_
      rotate_left 1
      · (intro w hSw; (try dsimp only at hSw); go_simp; try with_reducible rfl)
      (try simp only [Act.put, List.setIfInBounds_toArray, List.set_cons_zero, List.set_cons_succ])
      refine wpAnyH_take (i := 7) (oi := { dst := some 40, op := Op.load 3 (Operand.tmp 39), type := 3, pos := "ref.go:44", after := #[{ on := 6, ground := Ground.data }], guard := none }) (v := ?_) rfl (by kernel_rfl) (by kernel_rfl) (by kernel_rfl) (fun _ _ _ h => h) (Or.inl ⟨by rfl, ?_⟩) (by assumption) ?_
      rotate_left 1
      · (intro w hSw; (try dsimp only at hSw); go_simp; try with_reducible rfl)
      (try simp only [Act.put, List.setIfInBounds_toArray, List.set_cons_zero, List.set_cons_succ])
      refine wpAnyH_ready (rs := [4]) (by kernel_rfl) (by simp) ?_
      refine AllReadyH.cons (o := { dst := some 37, op := Op.call { callee := Callee.value (Operand.func 33), args := #[Operand.tmp 36], argTypes := #[3] }, type := 9, pos := "ref.go:44", after := #[{ on := 3, ground := Ground.data }], guard := none }) rfl (fun K hK => ?_) AllReadyH.nil
      go_simp
      refine (HN1.out _).mono ?_; rintro e5 w5 ⟨rfl, b5⟩
      have GG := Lib.hid (GG.out.below b5)
      have BB := Lib.hid (below_step BB.out b5)
      clear b5
      refine hK.out _ _ (HC2.out _ GG.out) (fun hHeld => ?_)
      clear hK K
      (try simp only [Act.put, List.setIfInBounds_toArray, List.set_cons_zero, List.set_cons_succ])
      refine wpAnyH_ready (rs := [8]) (by kernel_rfl) (by simp) ?_
      refine AllReadyH.cons (o := { dst := some 41, op := Op.call { callee := Callee.value (Operand.func 33), args := #[Operand.tmp 40], argTypes := #[3] }, type := 9, pos := "ref.go:44", after := #[{ on := 7, ground := Ground.data }, { on := 4, ground := Ground.chain }], guard := none }) rfl (fun K hK => ?_) AllReadyH.nil
      go_simp
      refine (HN2.out _).mono ?_; rintro e6 w6 ⟨rfl, b6⟩
      have GG := Lib.hid (GG.out.below b6)
      have BB := Lib.hid (below_step BB.out b6)
      clear b6
      refine hK.out _ _ (HC2.out _ GG.out) (fun hHeld => ?_)
      clear hK K
      (try simp only [Act.put, List.setIfInBounds_toArray, List.set_cons_zero, List.set_cons_succ])
      refine wpAnyH_ready (rs := [9]) (by kernel_rfl) (by simp) ?_
      refine AllReadyH.cons (o := { dst := some 42, op := Op.buildSlice 53 5 #[(0, Operand.tmp 33), (1, Operand.tmp 34), (2, Operand.tmp 37), (3, Operand.tmp 38), (4, Operand.tmp 41)], type := 53, pos := "ref.go:44", after := #[{ on := 0, ground := Ground.data }, { on := 1, ground := Ground.data }, { on := 4, ground := Ground.data }, { on := 5, ground := Ground.data }, { on := 8, ground := Ground.data }], guard := none }) rfl (fun K hK => ?_) AllReadyH.nil
      go_simp
      obtain ⟨W7, hW7⟩ : ∃ V, V = w6.alloc (.cells #[.string wT, .string tx, .string na, .string mt, .string no] 9) := ⟨_, rfl⟩
      have ba : Below w6.heap.size w6 W7 := by rw [hW7]; exact (Below.refl _ _).alloc (Nat.le_refl _) _
      have T5 := Lib.hid (show TxtRow W7 (some ⟨w6.heap.size, 0, none⟩) [wT, tx, na, mt, no] from hW7 ▸ txt_five12 w6 wT tx na mt no)
      have GG := Lib.hid (GG.out.below ba)
      have BB := Lib.hid (below_step BB.out ba)
      rw [← hW7]
      clear ba hW7
      refine hK.out _ _ (HC2.out _ GG.out) (fun hHeld => ?_)
      clear hK K
      (try simp only [Act.put, List.setIfInBounds_toArray, List.set_cons_zero, List.set_cons_succ])
      refine wpAnyH_ready (rs := [10]) (by kernel_rfl) (by simp) ?_
      refine AllReadyH.cons (o := { dst := some 43, op := Op.call { callee := Callee.value (Operand.func 32), args := #[Operand.tmp 42], argTypes := #[53] }, type := 30, pos := "ref.go:44", after := #[{ on := 9, ground := Ground.data }, { on := 8, ground := Ground.chain }], guard := none }) rfl (fun K hK => ?_) AllReadyH.nil
      go_simp
      refine (HR.out _ _ T5.out).mono ?_; rintro e8 w8 ⟨rfl, b8⟩
      have GG := Lib.hid (GG.out.below b8)
      have BB := Lib.hid (below_step BB.out b8)
      clear b8
      refine hK.out _ _ (HC2.out _ GG.out) (fun hHeld => ?_)
      clear hK K
      (try simp only [Act.put, List.setIfInBounds_toArray, List.set_cons_zero, List.set_cons_succ])
      refine wpAnyH_take (i := 11) (oi := { dst := some 44, op := Op.extract (Operand.tmp 43) 0, type := 9, pos := "ref.go:44", after := #[{ on := 10, ground := Ground.data }], guard := none }) (v := ?_) rfl (by kernel_rfl) (by kernel_rfl) (by kernel_rfl) (fun _ _ _ h => h) (Or.inl ⟨by rfl, ?_⟩) (by assumption) ?_
      rotate_left 1
      · (intro w hSw; (try dsimp only at hSw); go_simp; try with_reducible rfl)
      (try simp only [Act.put, List.setIfInBounds_toArray, List.set_cons_zero, List.set_cons_succ])
      refine wpAnyH_take (i := 12) (oi := { dst := some 45, op := Op.extract (Operand.tmp 43) 1, type := 29, pos := "ref.go:44", after := #[{ on := 10, ground := Ground.data }], guard := none }) (v := ?_) rfl (by kernel_rfl) (by kernel_rfl) (by kernel_rfl) (fun _ _ _ h => h) (Or.inl ⟨by rfl, ?_⟩) (by assumption) ?_
      rotate_left 1
      · (intro w hSw; (try dsimp only at hSw); go_simp; try with_reducible rfl)
      (try simp only [Act.put, List.setIfInBounds_toArray, List.set_cons_zero, List.set_cons_succ])
      refine wpAnyH_take (i := 13) (oi := { dst := some 2, op := Op.assign (Operand.tmp 44), type := 9, pos := "ref.go:44", after := #[{ on := 11, ground := Ground.data }, { on := 10, ground := Ground.chain }, { on := 0, ground := Ground.phase }, { on := 1, ground := Ground.phase }, { on := 2, ground := Ground.phase }, { on := 3, ground := Ground.phase }, { on := 4, ground := Ground.phase }, { on := 5, ground := Ground.phase }, { on := 6, ground := Ground.phase }, { on := 7, ground := Ground.phase }, { on := 8, ground := Ground.phase }, { on := 9, ground := Ground.phase }, { on := 10, ground := Ground.phase }, { on := 11, ground := Ground.phase }, { on := 12, ground := Ground.phase }], guard := none }) (v := ?_) rfl (by kernel_rfl) (by kernel_rfl) (by kernel_rfl) (fun _ _ _ h => h) (Or.inl ⟨by rfl, ?_⟩) (by assumption) ?_
      rotate_left 1
      · (intro w hSw; (try dsimp only at hSw); go_simp; try with_reducible rfl)
      (try simp only [Act.put, List.setIfInBounds_toArray, List.set_cons_zero, List.set_cons_succ])
      refine wpAnyH_take (i := 14) (oi := { dst := some 3, op := Op.assign (Operand.tmp 45), type := 29, pos := "ref.go:44", after := #[{ on := 12, ground := Ground.data }, { on := 13, ground := Ground.chain }, { on := 0, ground := Ground.phase }, { on := 1, ground := Ground.phase }, { on := 2, ground := Ground.phase }, { on := 3, ground := Ground.phase }, { on := 4, ground := Ground.phase }, { on := 5, ground := Ground.phase }, { on := 6, ground := Ground.phase }, { on := 7, ground := Ground.phase }, { on := 8, ground := Ground.phase }, { on := 9, ground := Ground.phase }, { on := 10, ground := Ground.phase }, { on := 11, ground := Ground.phase }, { on := 12, ground := Ground.phase }, { on := 13, ground := Ground.phase }], guard := none }) (v := ?_) rfl (by kernel_rfl) (by kernel_rfl) (by kernel_rfl) (fun _ _ _ h => h) (Or.inl ⟨by rfl, ?_⟩) (by assumption) ?_
      rotate_left 1
      · (intro w hSw; (try dsimp only at hSw); go_simp; try with_reducible rfl)
      (try simp only [Act.put, List.setIfInBounds_toArray, List.set_cons_zero, List.set_cons_succ])
      refine wpAnyH_done (by kernel_rfl) ?_ _
      go_wp2_with fail
      go_ret2
      exact ⟨rfl, BB.out⟩
    · rw [if_neg h5, show st2 (([] : List UInt8), 5) = .tuple #[.string ⟨#[]⟩, .int .i64 5] from rfl] at HL
      rw [if_pos h5] at hz
      rw [hz] at hrs hre
      subst hrs; subst hre
      clear hz hm hx ho hl hio hig hns1 hns2 hxs h5 hrow hms hml hsz HN1 HN2
      obtain ⟨c, e, q, aud, mem, org⟩ := b
      dsimp only [btC] at *
      generalize tb (100 :: txt ballotW) = wT at *
      generalize tb (txnT c e q) = tx at *
      generalize mem.length = n at *
      have HM := Lib.hid HM
      have HT := Lib.hid HT
      have HL := Lib.hid HL
      have HD := Lib.hid HD
      go_enter Tryz.func9, Tryz.ntmps9
      go_wp2_with fail
      rw [← HW0.out]
      refine (HM.out _ BB.out).mono ?_; rintro e1 w1 ⟨rfl, b1⟩
      have GG := Lib.hid (GG.out.below b1)
      have BB := Lib.hid (below_step BB.out b1)
      clear b1 z0 z1 z2 z3 z4 z5
      go_wp2_with fail
      refine (HD.out _).mono ?_; rintro e2 w2 ⟨rfl, b2⟩
      have GG := Lib.hid (GG.out.below b2)
      have BB := Lib.hid (below_step BB.out b2)
      clear b2
      obtain ⟨z0, z1, z2, z3, z4, z5⟩ := HCE.out _ GG.out
      go_wp2_with fail
      refine (HT.out _).mono ?_; rintro e3 w3 ⟨rfl, b3⟩
      have GG := Lib.hid (GG.out.below b3)
      have BB := Lib.hid (below_step BB.out b3)
      clear b3 z0 z1 z2 z3 z4 z5
      obtain ⟨z0, z1, z2, z3, z4, z5⟩ := HCE.out _ GG.out
      go_wp2_with fail
      refine (HL.out _ BB.out).mono ?_; rintro e4 w4 ⟨rfl, b4⟩
      clear z0 z1 z2 z3 z4 z5
      go_wp2_with fail
      go_ret2
      exact ⟨rfl, below_step BB.out b4⟩
end Go.Proofs.YtbdlegjklfkdmaaGreatDoor.Pl

namespace Go.Proofs.YtbdlegjklfkdmaaGreatDoor.Pl
open Go.RowKit

/-- Block p is a suite: of terms (b), or of bytes under the master m. -/
def SuiteAt (w : World) (p : Nat) (b : Bool) (m : ByteArray) : Prop :=
  Tab w ∧ ((b = true ∧ w.heap[p]? = some (.cells #[.iface 84 (.agg #[])] 88 (0, 0))) ∨
    (b = false ∧ ∃ q, w.heap[p]? = some (.cells #[.iface 92 (.agg #[.pointer (some ⟨q, 0, none⟩)])] 88 (0, 0)) ∧ KeyAt w q (nums m)))
theorem SuiteAt.below {w w' : World} {p : Nat} {b : Bool} {m : ByteArray} (h : SuiteAt w p b m) (hb : Below w.heap.size w w') : SuiteAt w' p b m :=
  ⟨h.1.below hb, h.2.elim (fun k => .inl ⟨k.1, heap_below hb k.2⟩) (fun ⟨k, q, h1, h2⟩ => .inr ⟨k, q, heap_below hb h1, h2.below hb⟩)⟩

set_option maxHeartbeats 1000000 in
set_option maxRecDepth 100000 in
theorem key8_any (b : Bool) (m : ByteArray) (n : ByteArray) (hn : n.size ≤ 20000) (p : Nat) (w : World) (hS : SuiteAt w p b m) :
    Calls Tryz.prog 57 #[.pointer (some ⟨p, 0, none⟩), .string n] w fun e w' => e = .returned (st2 (keyP cryP b (bl m) (bl n))) ∧ Below w.heap.size w w' := by
  obtain ⟨hT, ⟨rfl, hc⟩ | ⟨rfl, q, hc, hkk⟩⟩ := hS
  · have H := Lib.hid (skey8_any cryP (bl m) n hn w)
    generalize keyP cryP true (bl m) (bl n) = Z at *
    obtain ⟨r, x⟩ := Z
    unfold st2 symV at H
    unfold st2
    dsimp only at H ⊢
    have c0 : w.cell? ⟨p, 0, none⟩ = some (.iface 84 (.agg #[])) := cell_of_row _ _ _ _ _ _ hc
    clear hc hT hn
    go_enter Tryz.func57, Tryz.ntmps57
    go_wp2_with fail
    refine H.out.mono ?_; rintro e w1 ⟨rfl, b1⟩
    have B1 := Lib.hid b1
    clear b1
    go_wp2_with fail
    go_ret2
    exact ⟨rfl, B1.out⟩
  · have H := Lib.hid (ckey8_any q m n hn w ⟨hT, hkk⟩)
    generalize keyP cryP false (bl m) (bl n) = Z at *
    obtain ⟨r, x⟩ := Z
    unfold st2 conV at H
    unfold st2
    dsimp only at H ⊢
    have c0 : w.cell? ⟨p, 0, none⟩ = some (.iface 92 (.agg #[.pointer (some ⟨q, 0, none⟩)])) := cell_of_row _ _ _ _ _ _ hc
    clear hc hT hkk hn
    go_enter Tryz.func57, Tryz.ntmps57
    go_wp2_with fail
    refine H.out.mono ?_; rintro e w1 ⟨rfl, b1⟩
    have B1 := Lib.hid b1
    clear b1
    go_wp2_with fail
    go_ret2
    exact ⟨rfl, B1.out⟩

set_option maxHeartbeats 1000000 in
set_option maxRecDepth 100000 in
theorem mac8_any (b : Bool) (m : ByteArray) (k : ByteArray) (hk : k.size ≤ 20000) (t : ByteArray) (ht : t.size ≤ 20000) (p : Nat) (w : World) (hS : SuiteAt w p b m) :
    Calls Tryz.prog 59 #[.pointer (some ⟨p, 0, none⟩), .string k, .string t] w fun e w' => e = .returned (st2 (mac8P cryP b (bl k) (bl t))) ∧ Below w.heap.size w w' := by
  obtain ⟨hT, ⟨rfl, hc⟩ | ⟨rfl, q, hc, hkk⟩⟩ := hS
  · have H := Lib.hid (smac8_any cryP k t hk ht w)
    generalize mac8P cryP true (bl k) (bl t) = Z at *
    obtain ⟨r, x⟩ := Z
    unfold st2 symV at H
    unfold st2
    dsimp only at H ⊢
    have c0 : w.cell? ⟨p, 0, none⟩ = some (.iface 84 (.agg #[])) := cell_of_row _ _ _ _ _ _ hc
    clear hc hT hk ht
    go_enter Tryz.func59, Tryz.ntmps59
    go_wp2_with fail
    refine H.out.mono ?_; rintro e w1 ⟨rfl, b1⟩
    have B1 := Lib.hid b1
    clear b1
    go_wp2_with fail
    go_ret2
    exact ⟨rfl, B1.out⟩
  · have H := Lib.hid (cmac8_any q m k t hk ht w ⟨hT, hkk⟩)
    generalize mac8P cryP false (bl k) (bl t) = Z at *
    obtain ⟨r, x⟩ := Z
    unfold st2 conV at H
    unfold st2
    dsimp only at H ⊢
    have c0 : w.cell? ⟨p, 0, none⟩ = some (.iface 92 (.agg #[.pointer (some ⟨q, 0, none⟩)])) := cell_of_row _ _ _ _ _ _ hc
    clear hc hT hkk hk ht
    go_enter Tryz.func59, Tryz.ntmps59
    go_wp2_with fail
    refine H.out.mono ?_; rintro e w1 ⟨rfl, b1⟩
    have B1 := Lib.hid b1
    clear b1
    go_wp2_with fail
    go_ret2
    exact ⟨rfl, B1.out⟩

end Go.Proofs.YtbdlegjklfkdmaaGreatDoor.Pl

namespace Go.Proofs.YtbdlegjklfkdmaaGreatDoor.Pl
open Go.RowKit

set_option maxRecDepth 100000 in
theorem new_terms (m : ByteArray) (w : World) (hT : Tab w) :
    Calls Tryz.prog 17 #[.int .u8 1, .string m] w fun e w' => (∃ p, e = .returned (.tuple #[.pointer (some ⟨p, 0, none⟩), .int .i64 0]) ∧ SuiteAt w' p true m) ∧ Below w.heap.size w w' := by
  have HT := Lib.hid hT
  clear hT
  go_enter Tryz.func17, Tryz.ntmps17
  go_wp2_with fail
  go_ret2
  have A0 := (Below.refl w.heap.size w).alloc (Nat.le_refl _) (.cells #[.iface 84 (.agg #[])] 88)
  exact ⟨⟨_, rfl, HT.out.below A0, .inl ⟨rfl, Go.heap_alloc_new w _⟩⟩, A0⟩
set_option maxRecDepth 100000 in
theorem new_bytes (m : ByteArray) (h1 : 1 ≤ m.size) (h2 : m.size ≤ 64) (w : World) (hT : Tab w) :
    Calls Tryz.prog 17 #[.int .u8 2, .string m] w fun e w' => (∃ p, e = .returned (.tuple #[.pointer (some ⟨p, 0, none⟩), .int .i64 0]) ∧ SuiteAt w' p false m) ∧ Below w.heap.size w w' := by
  have HT := Lib.hid hT
  have HN := Lib.hid (hnew_any m (by omega) w hT)
  have q1 : (0 : Int) < (m.size : Int) := by omega
  have q2 : (m.size : Int) ≤ 64 := by omega
  clear hT h1 h2
  go_enter Tryz.func17, Tryz.ntmps17
  go_wp2_with fail
  refine HN.out.mono ?_; rintro e w1 ⟨g, rfl, hk, hg, b1⟩
  have HK := Lib.hid hk
  have B1 := Lib.hid b1
  clear hk hg b1
  go_wp2_with fail
  go_ret2
  have A0 := (Below.refl w1.heap.size w1).alloc (Nat.le_refl _) (.cells #[.iface 92 (.agg #[.pointer (some ⟨g, 0, none⟩)])] 88)
  exact ⟨⟨_, rfl, (HT.out.below B1.out).below A0, .inr ⟨rfl, g, Go.heap_alloc_new w1 _, HK.out.below A0⟩⟩, below_step B1.out A0⟩
set_option maxRecDepth 100000 in
theorem new_none (k : Nat) (m : ByteArray) (h1 : k ≠ 1) (h2 : ¬ (k = 2 ∧ 1 ≤ m.size ∧ m.size ≤ 64)) (w : World) :
    Calls Tryz.prog 17 #[.int .u8 k, .string m] w fun e w' => e = .returned (.tuple #[.pointer none, .int .i64 2]) ∧ w = w' := by
  have q1 : ((k : Int) == 1) = false := by rw [beq_eq_false_iff_ne]; omega
  by_cases hk : k = 2
  · subst hk
    by_cases h3 : 1 ≤ m.size
    · have q2 : (0 : Int) < (m.size : Int) := by omega
      have q3 : ¬ (m.size : Int) ≤ 64 := by omega
      clear h1 h2 h3 q1
      go_enter Tryz.func17, Tryz.ntmps17
      go_wp2_with fail
      go_ret2
      exact ⟨rfl, rfl⟩
    · have q2 : ¬ (0 : Int) < (m.size : Int) := by omega
      clear h1 h2 h3 q1
      go_enter Tryz.func17, Tryz.ntmps17
      go_wp2_with fail
      go_ret2
      exact ⟨rfl, rfl⟩
  · have q2 : ((k : Int) == 2) = false := by rw [beq_eq_false_iff_ne]; omega
    clear h1 h2 hk
    go_enter Tryz.func17, Tryz.ntmps17
    go_wp2_with fail
    go_ret2
    exact ⟨rfl, rfl⟩
end Go.Proofs.YtbdlegjklfkdmaaGreatDoor.Pl

namespace Go.Proofs.YtbdlegjklfkdmaaGreatDoor.Pl
open Go.RowKit Go.ChangeShapes Go.WideShapes

theorem cells_bt : Tryz.prog.cellsOf 26 = 6 := by kernel_rfl
set_option maxRecDepth 100000 in
theorem open_ballot {H : Type} {enc : TypeId × Value → H} {w : World} {r : Reach} {b0 base : Nat} {v : Value} {d : DataW H} {ps : List MemPlace}
    (hval : Value.okWide Tryz.prog w r b0 26 v) (hd : DataW.Trod enc Tryz.prog w base (fun _ => true) true 26 v d ps) :
    ∃ (b : Bt) (ao : Option Addr) (cap : Nat), v = .agg (btC b (.slice ao b.mem.length cap)) ∧ MemRow w ao b.mem ∧ (ao = none → cap = 0) ∧ b.mem.length ≤ 9223372036854775807 := by
  obtain ⟨cs, rfl, -⟩ := okWide_struct Tryz.underlying26 hval
  obtain ⟨fuel, hf0⟩ := hd
  have hf0' : DataW.trod enc Tryz.prog w base (fun _ => true) true fuel 26 cs.toList = some (d, ps) := hf0
  obtain ⟨xs, n, _, _, hl, hlen, hf⟩ := DataW.trod_struct Tryz.underlying26 hf0'
  rw [cells_bt] at hl
  obtain ⟨L, hL⟩ : ∃ L, L = cs.toList := ⟨_, rfl⟩
  rw [← hL] at hl hf
  match L, hl with
  | [c0, c1, c2, c3, c4, c5], _ =>
    match xs, hlen with
    | [x0, x1, x2, x3], _ =>
      have f0 : DataW.trod enc Tryz.prog w base (fun _ => true) true n 23 [c0, c1, c2] = some x0 := by
        have h := hf 0 ⟨_, _, _, _, _, _, _⟩ rfl
        simp only [cells_txn, List.drop_zero, List.take_succ_cons, List.take_zero] at h
        exact h
      have f1 : DataW.trod enc Tryz.prog w base (fun _ => true) true n 3 [c3] = some x1 := by
        have h := hf 1 ⟨_, _, _, _, _, _, _⟩ rfl
        simp only [cells_int12, List.drop_zero, List.drop_succ_cons, List.take_succ_cons, List.take_zero] at h
        exact h
      have f2 : DataW.trod enc Tryz.prog w base (fun _ => true) true n 24 [c4] = some x2 := by
        have h := hf 2 ⟨_, _, _, _, _, _, _⟩ rfl
        simp only [cells_mems, List.drop_zero, List.drop_succ_cons, List.take_succ_cons, List.take_zero] at h
        exact h
      have f3 : DataW.trod enc Tryz.prog w base (fun _ => true) true n 3 [c5] = some x3 := by
        have h := hf 3 ⟨_, _, _, _, _, _, _⟩ rfl
        simp only [cells_int12, List.drop_zero, List.drop_succ_cons, List.take_succ_cons, List.take_zero] at h
        exact h
      obtain ⟨c, e, q, e0, _⟩ := open_txnC f0
      obtain ⟨n1, e1, _, w1⟩ := DataW.trod_int Tryz.underlying3 f1
      obtain ⟨ao, l, cap, e2, hr, _, hm, hz⟩ := open_memsC f2
      obtain ⟨n3, e3, _, w3⟩ := DataW.trod_int Tryz.underlying3 f3
      injection e0 with e0a e0
      injection e0 with e0b e0
      injection e0 with e0c _
      injection e1 with e1 _
      injection e3 with e3 _
      subst e0a e0b e0c e1 e2 e3
      refine ⟨⟨c, e, q, n1, l, n3⟩, ao, cap, ?_, hr, hz, hm⟩
      rw [show cs = btC ⟨c, e, q, n1, l, n3⟩ (.slice ao l.length cap) from Array.ext' (by rw [← hL])]
end Go.Proofs.YtbdlegjklfkdmaaGreatDoor.Pl
