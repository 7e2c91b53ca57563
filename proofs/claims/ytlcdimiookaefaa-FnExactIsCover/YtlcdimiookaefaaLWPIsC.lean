/- The law FnExactIsCover answers true, whatever the arguments, by contracts of the two functions. -/
import Derived.Test.YtlcdimiookaefaaRows
import Derived.Test.YtlcdimiookaefaaM5
import Derived.Test.YtlcdimiookaefaaMCur
import Derived.Test.YtlcdimiookaefaaCPairLaw
import Derived.Test.YtlcdimiookaefaaCToIntO
import Derived.Test.YtlcdimiookaefaaCEqIntS
import Derived.WalkKit
import Derived.WalkSpells
import Derived.WalkLawsBesides
import Derived.Outline
import Derived.Deep.RegionWith
import Derived.Deep.RegionHeld3
namespace Go.Proofs.Ytlcdimiookaefaa
open Go.RowKit
set_option linter.unusedSimpArgs false in
set_option maxHeartbeats 3200000 in
set_option maxRecDepth 100000 in
theorem lawIsCover_any (l0 r0_ : Int) (a0 : Option Addr) (cap0 : Nat) (xs0 : List (List Int)) (a1 : Option Addr) (cap1 : Nat) (xs1 : List Int) (a2 : Option Addr) (cap2 : Nat) (xs2 : List Int) (r0 : Bool) (r1 : Bool)
    (SG0 : xs0.length ≤ 1048576 → NR.tot xs0 ≤ 1048576 → xs1.length ≤ 1048576 → xs2.length ≤ 1048576 → ∀ (g0 g1 g2 : Nat) (W : World), NR.RowsAt W (some ⟨g0, 0, none⟩) xs0 → M4.IntsAt W (some ⟨g1, 0, none⟩) xs1 → M4.IntsAt W (some ⟨g2, 0, none⟩) xs2 → Calls Try.prog 27 #[PG.pv l0 r0_ (.slice (some ⟨g0, 0, none⟩) xs0.length xs0.length), .slice (some ⟨g1, 0, none⟩) xs1.length xs1.length, .slice (some ⟨g2, 0, none⟩) xs2.length xs2.length] W fun e w' => e = .returned (.tuple #[.bool r0, .bool r1]) ∧ Below W.heap.size W w')
    (IG0 : xs0.length ≤ 1048576 → NR.tot xs0 ≤ 1048576 → xs1.length ≤ 1048576 → xs2.length ≤ 1048576 → ∀ (g0 g1 g2 : Nat) (W : World), NR.RowsAt W (some ⟨g0, 0, none⟩) xs0 → M4.IntsAt W (some ⟨g1, 0, none⟩) xs1 → M4.IntsAt W (some ⟨g2, 0, none⟩) xs2 → Calls Try.prog 28 #[PG.pv l0 r0_ (.slice (some ⟨g0, 0, none⟩) xs0.length xs0.length), .slice (some ⟨g1, 0, none⟩) xs1.length xs1.length, .slice (some ⟨g2, 0, none⟩) xs2.length xs2.length] W fun e w' => e = .returned (.tuple #[.bool r0, .bool r1]) ∧ Below W.heap.size W w')
    (w : World) (hl0 : xs0.length ≤ maxLen) (hl1 : xs1.length ≤ maxLen) (hl2 : xs2.length ≤ maxLen) (hi0 : NR.RowsAt w a0 xs0) (hi1 : M4.IntsAt w a1 xs1) (hi2 : M4.IntsAt w a2 xs2) :
    Calls Try.prog 8 #[PG.pv l0 r0_ (.slice a0 xs0.length cap0), .slice a1 xs1.length cap1, .slice a2 xs2.length cap2] w fun e w' => e = .returned (.bool true) ∧ Below w.heap.size w w' := by
  have H0 : Hid (NR.RowsAt w a0 xs0) := hi0
  have H1 : Hid (M4.IntsAt w a1 xs1) := hi1
  have H2 : Hid (M4.IntsAt w a2 xs2) := hi2
  have SG1 : Hid _ := SG0
  have IG1 : Hid _ := IG0
  clear SG0 IG0
  have SZ0 : Hid (∀ W : World, Below w.heap.size w W → _) := fun W hb => szPairing_any l0 r0_ a0 cap0 xs0 W 1048576 (by omega) (by omega) hl0 (hi0.below hb)
  clear hl0 hi0 hi1 hi2
  unfold maxLen at hl1
  by_cases hz1 : xs1.length ≤ 1048576
  · clear hl1
    unfold maxLen at hl2
    by_cases hz2 : xs2.length ≤ 1048576
    · clear hl2
      go_enter Try.func8, Try.ntmps8
      go_wp2_with fail
      have B : Below w.heap.size w _ := (Below.refl _ w).alloc (Nat.le_refl _) (Obj.cells #[.int .i64 l0, .int .i64 r0_, .slice a0 xs0.length cap0] 24)
      have HBX : (w.alloc (Obj.cells #[.int .i64 l0, .int .i64 r0_, .slice a0 xs0.length cap0] 24)).cell? ⟨w.heap.size, 0, none⟩ = some (.int .i64 l0) ∧ (w.alloc (Obj.cells #[.int .i64 l0, .int .i64 r0_, .slice a0 xs0.length cap0] 24)).cell? ⟨w.heap.size, 1, none⟩ = some (.int .i64 r0_) ∧ (w.alloc (Obj.cells #[.int .i64 l0, .int .i64 r0_, .slice a0 xs0.length cap0] 24)).cell? ⟨w.heap.size, 2, none⟩ = some (.slice a0 xs0.length cap0) := by simp
      have HSZ : w.heap.size < (w.alloc (Obj.cells #[.int .i64 l0, .int .i64 r0_, .slice a0 xs0.length cap0] 24)).heap.size := by simp
      have SZ := SZ0.out _ B
      clear SZ0
      generalize w.alloc (Obj.cells #[.int .i64 l0, .int .i64 r0_, .slice a0 xs0.length cap0] 24) = w0 at *
      refine SZ.mono ?_
      rintro e w1 ⟨q0, rfl, hr0, hb⟩
      clear SZ
      replace B := B.trans (hb.mono B.size)
      have BX0 : Hid (w1.cell? ⟨w.heap.size, 0, none⟩ = some (.int .i64 l0) ∧ w1.cell? ⟨w.heap.size, 1, none⟩ = some (.int .i64 r0_) ∧ w1.cell? ⟨w.heap.size, 2, none⟩ = some (.slice a0 xs0.length cap0)) := ⟨(hb.cell (p := ⟨w.heap.size, 0, none⟩) HSZ).trans HBX.1, (hb.cell (p := ⟨w.heap.size, 1, none⟩) HSZ).trans HBX.2.1, (hb.cell (p := ⟨w.heap.size, 2, none⟩) HSZ).trans HBX.2.2⟩
      have hs0 : w.heap.size < w1.heap.size := Nat.lt_of_lt_of_le HSZ hb.size
      clear HBX hb HSZ
      by_cases h0 : q0 < 0
      · clear hr0 BX0
        go_wp2
        go_ret
        exact ⟨rfl, B⟩
      · have hz0 : xs0.length ≤ 1048576 := by omega
        have ht0 : NR.tot xs0 ≤ 1048576 := by omega
        have hq00 : 0 ≤ q0 := by omega
        have hq01 : q0 ≤ 1048576 := by omega
        clear hr0
        have SG : Hid _ := SG1.out hz0 ht0 hz1 hz2
        have IG : Hid _ := IG1.out hz0 ht0 hz1 hz2
        clear SG1 IG1
        have TP0 : Hid _ := fun W h => toPairing_own l0 r0_ a0 cap0 xs0 W hz0 ht0 h
        have EQ0 : Hid _ := fun g g2 W h1 h2 => eqPairing_any l0 r0_ (some ⟨g, 0, none⟩) (some ⟨g2, 0, none⟩) xs0.length xs0.length xs0 W hz0 ht0 h1 h2
        have TP1 : Hid _ := fun W h => toIntS_own a1 cap1 xs1 W hz1 h
        have EQ1 : Hid _ := fun g g2 W h1 h2 => eqIntS_any (some ⟨g, 0, none⟩) (some ⟨g2, 0, none⟩) xs1.length xs1.length xs1 xs1 W (by omega) (by omega) h1 h2
        have TP2 : Hid _ := fun W h => toIntS_own a2 cap2 xs2 W hz2 h
        have EQ2 : Hid _ := fun g g2 W h1 h2 => eqIntS_any (some ⟨g, 0, none⟩) (some ⟨g2, 0, none⟩) xs2.length xs2.length xs2 xs2 W (by omega) (by omega) h1 h2
        obtain ⟨x00, x01, x02⟩ := BX0.out
        go_wp2_with fail
        clear x00 x01 x02
        refine (TP0.out _ (NR.RowsAt.below H0.out B)).mono ?_
        rintro e w2 ⟨g0s, AY, CY, rfl, ho, hb⟩
        replace B := B.trans (hb.mono B.size)
        replace BX0 : Hid (w2.cell? ⟨w.heap.size, 0, none⟩ = some (.int .i64 l0) ∧ w2.cell? ⟨w.heap.size, 1, none⟩ = some (.int .i64 r0_) ∧ w2.cell? ⟨w.heap.size, 2, none⟩ = some (.slice a0 xs0.length cap0)) := ⟨(hb.cell (p := ⟨w.heap.size, 0, none⟩) hs0).trans BX0.out.1, (hb.cell (p := ⟨w.heap.size, 1, none⟩) hs0).trans BX0.out.2.1, (hb.cell (p := ⟨w.heap.size, 2, none⟩) hs0).trans BX0.out.2.2⟩
        replace hs0 : w.heap.size < w2.heap.size := Nat.lt_of_lt_of_le hs0 hb.size
        clear hb
        have X0s : Hid (NR.RowsAt w2 (some ⟨g0s, 0, none⟩) xs0) := ho.rows
        clear ho
        go_wp2_with fail
        refine (TP1.out _ (M4.IntsAt.below H1.out B)).mono ?_
        rintro e w3 ⟨g1s, rfl, ho, hb⟩
        replace B := B.trans (hb.mono B.size)
        replace BX0 : Hid (w3.cell? ⟨w.heap.size, 0, none⟩ = some (.int .i64 l0) ∧ w3.cell? ⟨w.heap.size, 1, none⟩ = some (.int .i64 r0_) ∧ w3.cell? ⟨w.heap.size, 2, none⟩ = some (.slice a0 xs0.length cap0)) := ⟨(hb.cell (p := ⟨w.heap.size, 0, none⟩) hs0).trans BX0.out.1, (hb.cell (p := ⟨w.heap.size, 1, none⟩) hs0).trans BX0.out.2.1, (hb.cell (p := ⟨w.heap.size, 2, none⟩) hs0).trans BX0.out.2.2⟩
        replace hs0 : w.heap.size < w3.heap.size := Nat.lt_of_lt_of_le hs0 hb.size
        replace X0s : Hid (NR.RowsAt w3 (some ⟨g0s, 0, none⟩) xs0) := NR.RowsAt.below X0s.out hb
        clear hb
        have X1s : Hid (M4.IntsAt w3 (some ⟨g1s, 0, none⟩) xs1) := M4.IntsAt.of_own ho
        clear ho
        go_wp2_with fail
        refine (TP2.out _ (M4.IntsAt.below H2.out B)).mono ?_
        rintro e w4 ⟨g2s, rfl, ho, hb⟩
        replace B := B.trans (hb.mono B.size)
        replace BX0 : Hid (w4.cell? ⟨w.heap.size, 0, none⟩ = some (.int .i64 l0) ∧ w4.cell? ⟨w.heap.size, 1, none⟩ = some (.int .i64 r0_) ∧ w4.cell? ⟨w.heap.size, 2, none⟩ = some (.slice a0 xs0.length cap0)) := ⟨(hb.cell (p := ⟨w.heap.size, 0, none⟩) hs0).trans BX0.out.1, (hb.cell (p := ⟨w.heap.size, 1, none⟩) hs0).trans BX0.out.2.1, (hb.cell (p := ⟨w.heap.size, 2, none⟩) hs0).trans BX0.out.2.2⟩
        replace hs0 : w.heap.size < w4.heap.size := Nat.lt_of_lt_of_le hs0 hb.size
        replace X0s : Hid (NR.RowsAt w4 (some ⟨g0s, 0, none⟩) xs0) := NR.RowsAt.below X0s.out hb
        replace X1s : Hid (M4.IntsAt w4 (some ⟨g1s, 0, none⟩) xs1) := M4.IntsAt.below X1s.out hb
        clear hb
        have X2s : Hid (M4.IntsAt w4 (some ⟨g2s, 0, none⟩) xs2) := M4.IntsAt.of_own ho
        clear ho
        go_wp2_with fail
        refine (SG.out g0s g1s g2s _ X0s.out X1s.out X2s.out).mono ?_
        rintro e w5 ⟨rfl, hb⟩
        replace B := B.trans (hb.mono B.size)
        replace BX0 : Hid (w5.cell? ⟨w.heap.size, 0, none⟩ = some (.int .i64 l0) ∧ w5.cell? ⟨w.heap.size, 1, none⟩ = some (.int .i64 r0_) ∧ w5.cell? ⟨w.heap.size, 2, none⟩ = some (.slice a0 xs0.length cap0)) := ⟨(hb.cell (p := ⟨w.heap.size, 0, none⟩) hs0).trans BX0.out.1, (hb.cell (p := ⟨w.heap.size, 1, none⟩) hs0).trans BX0.out.2.1, (hb.cell (p := ⟨w.heap.size, 2, none⟩) hs0).trans BX0.out.2.2⟩
        replace hs0 : w.heap.size < w5.heap.size := Nat.lt_of_lt_of_le hs0 hb.size
        clear hb
        clear X0s X1s X2s SG
        obtain ⟨x00, x01, x02⟩ := BX0.out
        go_wp2_with fail
        clear x00 x01 x02
        refine (TP0.out _ (NR.RowsAt.below H0.out B)).mono ?_
        rintro e w6 ⟨g0x, AX, CX, rfl, ho, hb⟩
        have hTop : ∀ j, j < xs0.length → NR.rw_ xs0 j ≠ [] → ∀ g, AX j = some ⟨g, 0, none⟩ → g < w6.heap.size := fun j hj hne g hg => by have r := ho.row j hj; rw [hg] at r; exact (r.lt hne).2
        have HTop : Hid _ := hTop
        clear hTop
        have hLo : w.heap.size < w5.heap.size := hs0
        replace B := B.trans (hb.mono B.size)
        replace BX0 : Hid (w6.cell? ⟨w.heap.size, 0, none⟩ = some (.int .i64 l0) ∧ w6.cell? ⟨w.heap.size, 1, none⟩ = some (.int .i64 r0_) ∧ w6.cell? ⟨w.heap.size, 2, none⟩ = some (.slice a0 xs0.length cap0)) := ⟨(hb.cell (p := ⟨w.heap.size, 0, none⟩) hs0).trans BX0.out.1, (hb.cell (p := ⟨w.heap.size, 1, none⟩) hs0).trans BX0.out.2.1, (hb.cell (p := ⟨w.heap.size, 2, none⟩) hs0).trans BX0.out.2.2⟩
        replace hs0 : w.heap.size < w6.heap.size := Nat.lt_of_lt_of_le hs0 hb.size
        clear hb
        have X0x : Hid (NR.Own 31 w6 w5.heap.size (.slice (some ⟨g0x, 0, none⟩) xs0.length xs0.length) xs0 AX CX) := ho
        clear ho
        go_wp2_with fail
        have hb : Below w6.heap.size w6 (w6.alloc (Obj.cells #[.int .i64 l0, .int .i64 r0_, .slice (some ⟨g0x, 0, none⟩) xs0.length xs0.length] 27)) := (Below.refl _ _).alloc (Nat.le_refl _) _
        have hcx : (w6.alloc (Obj.cells #[.int .i64 l0, .int .i64 r0_, .slice (some ⟨g0x, 0, none⟩) xs0.length xs0.length] 27)).cell? ⟨w6.heap.size, 0, none⟩ = some (.int .i64 l0) ∧ (w6.alloc (Obj.cells #[.int .i64 l0, .int .i64 r0_, .slice (some ⟨g0x, 0, none⟩) xs0.length xs0.length] 27)).cell? ⟨w6.heap.size, 1, none⟩ = some (.int .i64 r0_) ∧ (w6.alloc (Obj.cells #[.int .i64 l0, .int .i64 r0_, .slice (some ⟨g0x, 0, none⟩) xs0.length xs0.length] 27)).cell? ⟨w6.heap.size, 2, none⟩ = some (.slice (some ⟨g0x, 0, none⟩) xs0.length xs0.length) := by simp
        have hsx : w6.heap.size < (w6.alloc (Obj.cells #[.int .i64 l0, .int .i64 r0_, .slice (some ⟨g0x, 0, none⟩) xs0.length xs0.length] 27)).heap.size := by simp
        generalize w6.alloc (Obj.cells #[.int .i64 l0, .int .i64 r0_, .slice (some ⟨g0x, 0, none⟩) xs0.length xs0.length] 27) = w7 at *
        replace B := B.trans (hb.mono B.size)
        replace BX0 : Hid (w7.cell? ⟨w.heap.size, 0, none⟩ = some (.int .i64 l0) ∧ w7.cell? ⟨w.heap.size, 1, none⟩ = some (.int .i64 r0_) ∧ w7.cell? ⟨w.heap.size, 2, none⟩ = some (.slice a0 xs0.length cap0)) := ⟨(hb.cell (p := ⟨w.heap.size, 0, none⟩) hs0).trans BX0.out.1, (hb.cell (p := ⟨w.heap.size, 1, none⟩) hs0).trans BX0.out.2.1, (hb.cell (p := ⟨w.heap.size, 2, none⟩) hs0).trans BX0.out.2.2⟩
        replace hs0 : w.heap.size < w7.heap.size := Nat.lt_of_lt_of_le hs0 hb.size
        replace X0x : Hid (NR.Own 31 w7 w5.heap.size (.slice (some ⟨g0x, 0, none⟩) xs0.length xs0.length) xs0 AX CX) := NR.Own.below X0x.out hb
        clear hb
        have BXx : Hid (w7.cell? ⟨w6.heap.size, 0, none⟩ = some (.int .i64 l0) ∧ w7.cell? ⟨w6.heap.size, 1, none⟩ = some (.int .i64 r0_) ∧ w7.cell? ⟨w6.heap.size, 2, none⟩ = some (.slice (some ⟨g0x, 0, none⟩) xs0.length xs0.length)) := hcx
        clear hcx
        refine (TP1.out _ (M4.IntsAt.below H1.out B)).mono ?_
        rintro e w8 ⟨g1x, rfl, ho, hb⟩
        have hG1 : w7.heap.size ≤ g1x ∧ g1x < w8.heap.size := ho.lt g1x rfl
        have hT1 : w6.heap.size < w7.heap.size := hsx
        replace B := B.trans (hb.mono B.size)
        replace BX0 : Hid (w8.cell? ⟨w.heap.size, 0, none⟩ = some (.int .i64 l0) ∧ w8.cell? ⟨w.heap.size, 1, none⟩ = some (.int .i64 r0_) ∧ w8.cell? ⟨w.heap.size, 2, none⟩ = some (.slice a0 xs0.length cap0)) := ⟨(hb.cell (p := ⟨w.heap.size, 0, none⟩) hs0).trans BX0.out.1, (hb.cell (p := ⟨w.heap.size, 1, none⟩) hs0).trans BX0.out.2.1, (hb.cell (p := ⟨w.heap.size, 2, none⟩) hs0).trans BX0.out.2.2⟩
        replace hs0 : w.heap.size < w8.heap.size := Nat.lt_of_lt_of_le hs0 hb.size
        replace BXx : Hid (w8.cell? ⟨w6.heap.size, 0, none⟩ = some (.int .i64 l0) ∧ w8.cell? ⟨w6.heap.size, 1, none⟩ = some (.int .i64 r0_) ∧ w8.cell? ⟨w6.heap.size, 2, none⟩ = some (.slice (some ⟨g0x, 0, none⟩) xs0.length xs0.length)) := ⟨(hb.cell (p := ⟨w6.heap.size, 0, none⟩) hsx).trans BXx.out.1, (hb.cell (p := ⟨w6.heap.size, 1, none⟩) hsx).trans BXx.out.2.1, (hb.cell (p := ⟨w6.heap.size, 2, none⟩) hsx).trans BXx.out.2.2⟩
        replace hsx : w6.heap.size < w8.heap.size := Nat.lt_of_lt_of_le hsx hb.size
        replace X0x : Hid (NR.Own 31 w8 w5.heap.size (.slice (some ⟨g0x, 0, none⟩) xs0.length xs0.length) xs0 AX CX) := NR.Own.below X0x.out hb
        clear hb
        have X1x : Hid (World.ownsRow w8 w7.heap.size 3 1 (.slice (some ⟨g1x, 0, none⟩) xs1.length xs1.length) xs1.length (M4.iv xs1)) := ho
        clear ho
        go_wp2_with fail
        refine (TP2.out _ (M4.IntsAt.below H2.out B)).mono ?_
        rintro e w9 ⟨g2x, rfl, ho, hb⟩
        have hG2 : w8.heap.size ≤ g2x ∧ g2x < w9.heap.size := ho.lt g2x rfl
        have hT2 : w6.heap.size < w8.heap.size := hsx
        replace B := B.trans (hb.mono B.size)
        replace BX0 : Hid (w9.cell? ⟨w.heap.size, 0, none⟩ = some (.int .i64 l0) ∧ w9.cell? ⟨w.heap.size, 1, none⟩ = some (.int .i64 r0_) ∧ w9.cell? ⟨w.heap.size, 2, none⟩ = some (.slice a0 xs0.length cap0)) := ⟨(hb.cell (p := ⟨w.heap.size, 0, none⟩) hs0).trans BX0.out.1, (hb.cell (p := ⟨w.heap.size, 1, none⟩) hs0).trans BX0.out.2.1, (hb.cell (p := ⟨w.heap.size, 2, none⟩) hs0).trans BX0.out.2.2⟩
        replace hs0 : w.heap.size < w9.heap.size := Nat.lt_of_lt_of_le hs0 hb.size
        replace BXx : Hid (w9.cell? ⟨w6.heap.size, 0, none⟩ = some (.int .i64 l0) ∧ w9.cell? ⟨w6.heap.size, 1, none⟩ = some (.int .i64 r0_) ∧ w9.cell? ⟨w6.heap.size, 2, none⟩ = some (.slice (some ⟨g0x, 0, none⟩) xs0.length xs0.length)) := ⟨(hb.cell (p := ⟨w6.heap.size, 0, none⟩) hsx).trans BXx.out.1, (hb.cell (p := ⟨w6.heap.size, 1, none⟩) hsx).trans BXx.out.2.1, (hb.cell (p := ⟨w6.heap.size, 2, none⟩) hsx).trans BXx.out.2.2⟩
        replace hsx : w6.heap.size < w9.heap.size := Nat.lt_of_lt_of_le hsx hb.size
        replace X0x : Hid (NR.Own 31 w9 w5.heap.size (.slice (some ⟨g0x, 0, none⟩) xs0.length xs0.length) xs0 AX CX) := NR.Own.below X0x.out hb
        replace X1x : Hid (World.ownsRow w9 w7.heap.size 3 1 (.slice (some ⟨g1x, 0, none⟩) xs1.length xs1.length) xs1.length (M4.iv xs1)) := M5.own_below X1x.out hb
        clear hb
        have X2x : Hid (World.ownsRow w9 w8.heap.size 3 1 (.slice (some ⟨g2x, 0, none⟩) xs2.length xs2.length) xs2.length (M4.iv xs2)) := ho
        clear ho
        obtain ⟨xx0, xx1, xx2⟩ := BXx.out
        go_wp2_with fail
        clear xx0 xx1 xx2
        refine (IG.out g0x g1x g2x _ X0x.out.rows (M4.IntsAt.of_own X1x.out) (M4.IntsAt.of_own X2x.out)).mono ?_
        rintro e w10 ⟨rfl, hb⟩
        replace B := B.trans (hb.mono B.size)
        replace BX0 : Hid (w10.cell? ⟨w.heap.size, 0, none⟩ = some (.int .i64 l0) ∧ w10.cell? ⟨w.heap.size, 1, none⟩ = some (.int .i64 r0_) ∧ w10.cell? ⟨w.heap.size, 2, none⟩ = some (.slice a0 xs0.length cap0)) := ⟨(hb.cell (p := ⟨w.heap.size, 0, none⟩) hs0).trans BX0.out.1, (hb.cell (p := ⟨w.heap.size, 1, none⟩) hs0).trans BX0.out.2.1, (hb.cell (p := ⟨w.heap.size, 2, none⟩) hs0).trans BX0.out.2.2⟩
        replace hs0 : w.heap.size < w10.heap.size := Nat.lt_of_lt_of_le hs0 hb.size
        replace BXx : Hid (w10.cell? ⟨w6.heap.size, 0, none⟩ = some (.int .i64 l0) ∧ w10.cell? ⟨w6.heap.size, 1, none⟩ = some (.int .i64 r0_) ∧ w10.cell? ⟨w6.heap.size, 2, none⟩ = some (.slice (some ⟨g0x, 0, none⟩) xs0.length xs0.length)) := ⟨(hb.cell (p := ⟨w6.heap.size, 0, none⟩) hsx).trans BXx.out.1, (hb.cell (p := ⟨w6.heap.size, 1, none⟩) hsx).trans BXx.out.2.1, (hb.cell (p := ⟨w6.heap.size, 2, none⟩) hsx).trans BXx.out.2.2⟩
        replace hsx : w6.heap.size < w10.heap.size := Nat.lt_of_lt_of_le hsx hb.size
        replace X0x : Hid (NR.Own 31 w10 w5.heap.size (.slice (some ⟨g0x, 0, none⟩) xs0.length xs0.length) xs0 AX CX) := NR.Own.below X0x.out hb
        replace X1x : Hid (World.ownsRow w10 w7.heap.size 3 1 (.slice (some ⟨g1x, 0, none⟩) xs1.length xs1.length) xs1.length (M4.iv xs1)) := M5.own_below X1x.out hb
        replace X2x : Hid (World.ownsRow w10 w8.heap.size 3 1 (.slice (some ⟨g2x, 0, none⟩) xs2.length xs2.length) xs2.length (M4.iv xs2)) := M5.own_below X2x.out hb
        clear hb
        have KP : ∀ w1 w2 : World, (Below w10.heap.size w10 w1 ∧ w1.cell? ⟨w.heap.size, 0, none⟩ = some (.int .i64 l0) ∧ w1.cell? ⟨w.heap.size, 1, none⟩ = some (.int .i64 r0_) ∧ w1.cell? ⟨w.heap.size, 2, none⟩ = some (.slice a0 xs0.length cap0) ∧ w1.cell? ⟨w6.heap.size, 0, none⟩ = some (.int .i64 l0) ∧ w1.cell? ⟨w6.heap.size, 1, none⟩ = some (.int .i64 r0_) ∧ w1.cell? ⟨w6.heap.size, 2, none⟩ = some (.slice (some ⟨g0x, 0, none⟩) xs0.length xs0.length)) → Below w1.heap.size w1 w2 → (Below w10.heap.size w10 w2 ∧ w2.cell? ⟨w.heap.size, 0, none⟩ = some (.int .i64 l0) ∧ w2.cell? ⟨w.heap.size, 1, none⟩ = some (.int .i64 r0_) ∧ w2.cell? ⟨w.heap.size, 2, none⟩ = some (.slice a0 xs0.length cap0) ∧ w2.cell? ⟨w6.heap.size, 0, none⟩ = some (.int .i64 l0) ∧ w2.cell? ⟨w6.heap.size, 1, none⟩ = some (.int .i64 r0_) ∧ w2.cell? ⟨w6.heap.size, 2, none⟩ = some (.slice (some ⟨g0x, 0, none⟩) xs0.length xs0.length)) := fun w1 w2 h hb => PG.keep2 hs0 hsx h hb
        have TQ : Hid (∀ W' : World, (Below w10.heap.size w10 W' ∧ W'.cell? ⟨w.heap.size, 0, none⟩ = some (.int .i64 l0) ∧ W'.cell? ⟨w.heap.size, 1, none⟩ = some (.int .i64 r0_) ∧ W'.cell? ⟨w.heap.size, 2, none⟩ = some (.slice a0 xs0.length cap0) ∧ W'.cell? ⟨w6.heap.size, 0, none⟩ = some (.int .i64 l0) ∧ W'.cell? ⟨w6.heap.size, 1, none⟩ = some (.int .i64 r0_) ∧ W'.cell? ⟨w6.heap.size, 2, none⟩ = some (.slice (some ⟨g0x, 0, none⟩) xs0.length xs0.length)) → Calls Try.prog 11 #[PG.pv l0 r0_ (.slice a0 xs0.length cap0)] W' fun e w' => ∃ g : Nat, e = .returned (PG.pv l0 r0_ (.slice (some ⟨g, 0, none⟩) xs0.length xs0.length)) ∧ NR.RowsAt w' (some ⟨g, 0, none⟩) xs0 ∧ (Below w10.heap.size w10 w' ∧ w'.cell? ⟨w.heap.size, 0, none⟩ = some (.int .i64 l0) ∧ w'.cell? ⟨w.heap.size, 1, none⟩ = some (.int .i64 r0_) ∧ w'.cell? ⟨w.heap.size, 2, none⟩ = some (.slice a0 xs0.length cap0) ∧ w'.cell? ⟨w6.heap.size, 0, none⟩ = some (.int .i64 l0) ∧ w'.cell? ⟨w6.heap.size, 1, none⟩ = some (.int .i64 r0_) ∧ w'.cell? ⟨w6.heap.size, 2, none⟩ = some (.slice (some ⟨g0x, 0, none⟩) xs0.length xs0.length))) := fun W' h => (TP0.out W' (NR.RowsAt.below H0.out (B.trans (h.1.mono B.size)))).mono fun e w' ⟨g, _, _, e1, ho, hb⟩ => ⟨g, e1, ho.rows, KP _ _ h hb⟩
        have XR : Hid _ := X0x.out.rows
        have EQQ : Hid (∀ (g : Nat) (W' : World), (Below w10.heap.size w10 W' ∧ W'.cell? ⟨w.heap.size, 0, none⟩ = some (.int .i64 l0) ∧ W'.cell? ⟨w.heap.size, 1, none⟩ = some (.int .i64 r0_) ∧ W'.cell? ⟨w.heap.size, 2, none⟩ = some (.slice a0 xs0.length cap0) ∧ W'.cell? ⟨w6.heap.size, 0, none⟩ = some (.int .i64 l0) ∧ W'.cell? ⟨w6.heap.size, 1, none⟩ = some (.int .i64 r0_) ∧ W'.cell? ⟨w6.heap.size, 2, none⟩ = some (.slice (some ⟨g0x, 0, none⟩) xs0.length xs0.length)) → NR.RowsAt W' (some ⟨g, 0, none⟩) xs0 → Calls Try.prog 13 #[PG.pv l0 r0_ (.slice (some ⟨g0x, 0, none⟩) xs0.length xs0.length), PG.pv l0 r0_ (.slice (some ⟨g, 0, none⟩) xs0.length xs0.length)] W' fun e w' => e = .returned (.bool true) ∧ (Below w10.heap.size w10 w' ∧ w'.cell? ⟨w.heap.size, 0, none⟩ = some (.int .i64 l0) ∧ w'.cell? ⟨w.heap.size, 1, none⟩ = some (.int .i64 r0_) ∧ w'.cell? ⟨w.heap.size, 2, none⟩ = some (.slice a0 xs0.length cap0) ∧ w'.cell? ⟨w6.heap.size, 0, none⟩ = some (.int .i64 l0) ∧ w'.cell? ⟨w6.heap.size, 1, none⟩ = some (.int .i64 r0_) ∧ w'.cell? ⟨w6.heap.size, 2, none⟩ = some (.slice (some ⟨g0x, 0, none⟩) xs0.length xs0.length))) := fun g W' h h2 => (EQ0.out g0x g W' (NR.RowsAt.below XR.out h.1) h2).mono fun e w' ⟨e1, hb⟩ => ⟨e1, KP _ _ h hb⟩
        obtain ⟨x00, x01, x02⟩ := BX0.out
        obtain ⟨xx0, xx1, xx2⟩ := BXx.out
        have hSd : Below w10.heap.size w10 w10.drew ∧ w10.drew.cell? ⟨w.heap.size, 0, none⟩ = some (.int .i64 l0) ∧ w10.drew.cell? ⟨w.heap.size, 1, none⟩ = some (.int .i64 r0_) ∧ w10.drew.cell? ⟨w.heap.size, 2, none⟩ = some (.slice a0 xs0.length cap0) ∧ w10.drew.cell? ⟨w6.heap.size, 0, none⟩ = some (.int .i64 l0) ∧ w10.drew.cell? ⟨w6.heap.size, 1, none⟩ = some (.int .i64 r0_) ∧ w10.drew.cell? ⟨w6.heap.size, 2, none⟩ = some (.slice (some ⟨g0x, 0, none⟩) xs0.length xs0.length) := ⟨(Below.refl _ _).drew, x00, x01, x02, xx0, xx1, xx2⟩
        clear KP XR
        go_wp2
        go_region_held3 (fun w' => Below w10.heap.size w10 w' ∧ w'.cell? ⟨w.heap.size, 0, none⟩ = some (.int .i64 l0) ∧ w'.cell? ⟨w.heap.size, 1, none⟩ = some (.int .i64 r0_) ∧ w'.cell? ⟨w.heap.size, 2, none⟩ = some (.slice a0 xs0.length cap0) ∧ w'.cell? ⟨w6.heap.size, 0, none⟩ = some (.int .i64 l0) ∧ w'.cell? ⟨w6.heap.size, 1, none⟩ = some (.int .i64 r0_) ∧ w'.cell? ⟨w6.heap.size, 2, none⟩ = some (.slice (some ⟨g0x, 0, none⟩) xs0.length xs0.length)) (first | assumption | (show _ ∧ _; assumption)) (first | (go_at_call 11; refine Calls.mono (TQ.out _ (by assumption)) ?_; (rintro e wq ⟨gq, rfl, hrq, hSq⟩)) | (go_at_call 13; refine Calls.mono (EQQ.out _ _ (by assumption) (by assumption)) ?_; (rintro e w11 ⟨rfl, hSr⟩)))
        have hb := hSr.1
        clear hSd hSq hSr hrq TQ EQQ x00 x01 x02 xx0 xx1 xx2
        replace B := B.trans (hb.mono B.size)
        replace BX0 : Hid (w11.cell? ⟨w.heap.size, 0, none⟩ = some (.int .i64 l0) ∧ w11.cell? ⟨w.heap.size, 1, none⟩ = some (.int .i64 r0_) ∧ w11.cell? ⟨w.heap.size, 2, none⟩ = some (.slice a0 xs0.length cap0)) := ⟨(hb.cell (p := ⟨w.heap.size, 0, none⟩) hs0).trans BX0.out.1, (hb.cell (p := ⟨w.heap.size, 1, none⟩) hs0).trans BX0.out.2.1, (hb.cell (p := ⟨w.heap.size, 2, none⟩) hs0).trans BX0.out.2.2⟩
        replace hs0 : w.heap.size < w11.heap.size := Nat.lt_of_lt_of_le hs0 hb.size
        replace BXx : Hid (w11.cell? ⟨w6.heap.size, 0, none⟩ = some (.int .i64 l0) ∧ w11.cell? ⟨w6.heap.size, 1, none⟩ = some (.int .i64 r0_) ∧ w11.cell? ⟨w6.heap.size, 2, none⟩ = some (.slice (some ⟨g0x, 0, none⟩) xs0.length xs0.length)) := ⟨(hb.cell (p := ⟨w6.heap.size, 0, none⟩) hsx).trans BXx.out.1, (hb.cell (p := ⟨w6.heap.size, 1, none⟩) hsx).trans BXx.out.2.1, (hb.cell (p := ⟨w6.heap.size, 2, none⟩) hsx).trans BXx.out.2.2⟩
        replace hsx : w6.heap.size < w11.heap.size := Nat.lt_of_lt_of_le hsx hb.size
        replace X0x : Hid (NR.Own 31 w11 w5.heap.size (.slice (some ⟨g0x, 0, none⟩) xs0.length xs0.length) xs0 AX CX) := NR.Own.below X0x.out hb
        replace X1x : Hid (World.ownsRow w11 w7.heap.size 3 1 (.slice (some ⟨g1x, 0, none⟩) xs1.length xs1.length) xs1.length (M4.iv xs1)) := M5.own_below X1x.out hb
        replace X2x : Hid (World.ownsRow w11 w8.heap.size 3 1 (.slice (some ⟨g2x, 0, none⟩) xs2.length xs2.length) xs2.length (M4.iv xs2)) := M5.own_below X2x.out hb
        clear hb
        go_wp2_with fail
        refine (TP1.out _ (M4.IntsAt.below H1.out B)).mono ?_
        rintro e w12 ⟨gq1, rfl, ho, hb⟩
        replace B := B.trans (hb.mono B.size)
        replace BX0 : Hid (w12.cell? ⟨w.heap.size, 0, none⟩ = some (.int .i64 l0) ∧ w12.cell? ⟨w.heap.size, 1, none⟩ = some (.int .i64 r0_) ∧ w12.cell? ⟨w.heap.size, 2, none⟩ = some (.slice a0 xs0.length cap0)) := ⟨(hb.cell (p := ⟨w.heap.size, 0, none⟩) hs0).trans BX0.out.1, (hb.cell (p := ⟨w.heap.size, 1, none⟩) hs0).trans BX0.out.2.1, (hb.cell (p := ⟨w.heap.size, 2, none⟩) hs0).trans BX0.out.2.2⟩
        replace hs0 : w.heap.size < w12.heap.size := Nat.lt_of_lt_of_le hs0 hb.size
        replace BXx : Hid (w12.cell? ⟨w6.heap.size, 0, none⟩ = some (.int .i64 l0) ∧ w12.cell? ⟨w6.heap.size, 1, none⟩ = some (.int .i64 r0_) ∧ w12.cell? ⟨w6.heap.size, 2, none⟩ = some (.slice (some ⟨g0x, 0, none⟩) xs0.length xs0.length)) := ⟨(hb.cell (p := ⟨w6.heap.size, 0, none⟩) hsx).trans BXx.out.1, (hb.cell (p := ⟨w6.heap.size, 1, none⟩) hsx).trans BXx.out.2.1, (hb.cell (p := ⟨w6.heap.size, 2, none⟩) hsx).trans BXx.out.2.2⟩
        replace hsx : w6.heap.size < w12.heap.size := Nat.lt_of_lt_of_le hsx hb.size
        replace X0x : Hid (NR.Own 31 w12 w5.heap.size (.slice (some ⟨g0x, 0, none⟩) xs0.length xs0.length) xs0 AX CX) := NR.Own.below X0x.out hb
        replace X1x : Hid (World.ownsRow w12 w7.heap.size 3 1 (.slice (some ⟨g1x, 0, none⟩) xs1.length xs1.length) xs1.length (M4.iv xs1)) := M5.own_below X1x.out hb
        replace X2x : Hid (World.ownsRow w12 w8.heap.size 3 1 (.slice (some ⟨g2x, 0, none⟩) xs2.length xs2.length) xs2.length (M4.iv xs2)) := M5.own_below X2x.out hb
        clear hb
        have XQ : Hid (M4.IntsAt w12 (some ⟨gq1, 0, none⟩) xs1) := M4.IntsAt.of_own ho
        clear ho
        go_wp2_with fail
        refine (EQ1.out g1x gq1 _ (M4.IntsAt.of_own X1x.out) XQ.out).mono ?_
        rintro e w13 ⟨rfl, hb⟩
        replace B := B.trans (hb.mono B.size)
        replace BX0 : Hid (w13.cell? ⟨w.heap.size, 0, none⟩ = some (.int .i64 l0) ∧ w13.cell? ⟨w.heap.size, 1, none⟩ = some (.int .i64 r0_) ∧ w13.cell? ⟨w.heap.size, 2, none⟩ = some (.slice a0 xs0.length cap0)) := ⟨(hb.cell (p := ⟨w.heap.size, 0, none⟩) hs0).trans BX0.out.1, (hb.cell (p := ⟨w.heap.size, 1, none⟩) hs0).trans BX0.out.2.1, (hb.cell (p := ⟨w.heap.size, 2, none⟩) hs0).trans BX0.out.2.2⟩
        replace hs0 : w.heap.size < w13.heap.size := Nat.lt_of_lt_of_le hs0 hb.size
        replace BXx : Hid (w13.cell? ⟨w6.heap.size, 0, none⟩ = some (.int .i64 l0) ∧ w13.cell? ⟨w6.heap.size, 1, none⟩ = some (.int .i64 r0_) ∧ w13.cell? ⟨w6.heap.size, 2, none⟩ = some (.slice (some ⟨g0x, 0, none⟩) xs0.length xs0.length)) := ⟨(hb.cell (p := ⟨w6.heap.size, 0, none⟩) hsx).trans BXx.out.1, (hb.cell (p := ⟨w6.heap.size, 1, none⟩) hsx).trans BXx.out.2.1, (hb.cell (p := ⟨w6.heap.size, 2, none⟩) hsx).trans BXx.out.2.2⟩
        replace hsx : w6.heap.size < w13.heap.size := Nat.lt_of_lt_of_le hsx hb.size
        replace X0x : Hid (NR.Own 31 w13 w5.heap.size (.slice (some ⟨g0x, 0, none⟩) xs0.length xs0.length) xs0 AX CX) := NR.Own.below X0x.out hb
        replace X1x : Hid (World.ownsRow w13 w7.heap.size 3 1 (.slice (some ⟨g1x, 0, none⟩) xs1.length xs1.length) xs1.length (M4.iv xs1)) := M5.own_below X1x.out hb
        replace X2x : Hid (World.ownsRow w13 w8.heap.size 3 1 (.slice (some ⟨g2x, 0, none⟩) xs2.length xs2.length) xs2.length (M4.iv xs2)) := M5.own_below X2x.out hb
        clear hb
        clear XQ
        go_wp2_with fail
        refine (TP2.out _ (M4.IntsAt.below H2.out B)).mono ?_
        rintro e w14 ⟨gq2, rfl, ho, hb⟩
        replace B := B.trans (hb.mono B.size)
        replace BX0 : Hid (w14.cell? ⟨w.heap.size, 0, none⟩ = some (.int .i64 l0) ∧ w14.cell? ⟨w.heap.size, 1, none⟩ = some (.int .i64 r0_) ∧ w14.cell? ⟨w.heap.size, 2, none⟩ = some (.slice a0 xs0.length cap0)) := ⟨(hb.cell (p := ⟨w.heap.size, 0, none⟩) hs0).trans BX0.out.1, (hb.cell (p := ⟨w.heap.size, 1, none⟩) hs0).trans BX0.out.2.1, (hb.cell (p := ⟨w.heap.size, 2, none⟩) hs0).trans BX0.out.2.2⟩
        replace hs0 : w.heap.size < w14.heap.size := Nat.lt_of_lt_of_le hs0 hb.size
        replace BXx : Hid (w14.cell? ⟨w6.heap.size, 0, none⟩ = some (.int .i64 l0) ∧ w14.cell? ⟨w6.heap.size, 1, none⟩ = some (.int .i64 r0_) ∧ w14.cell? ⟨w6.heap.size, 2, none⟩ = some (.slice (some ⟨g0x, 0, none⟩) xs0.length xs0.length)) := ⟨(hb.cell (p := ⟨w6.heap.size, 0, none⟩) hsx).trans BXx.out.1, (hb.cell (p := ⟨w6.heap.size, 1, none⟩) hsx).trans BXx.out.2.1, (hb.cell (p := ⟨w6.heap.size, 2, none⟩) hsx).trans BXx.out.2.2⟩
        replace hsx : w6.heap.size < w14.heap.size := Nat.lt_of_lt_of_le hsx hb.size
        replace X0x : Hid (NR.Own 31 w14 w5.heap.size (.slice (some ⟨g0x, 0, none⟩) xs0.length xs0.length) xs0 AX CX) := NR.Own.below X0x.out hb
        replace X1x : Hid (World.ownsRow w14 w7.heap.size 3 1 (.slice (some ⟨g1x, 0, none⟩) xs1.length xs1.length) xs1.length (M4.iv xs1)) := M5.own_below X1x.out hb
        replace X2x : Hid (World.ownsRow w14 w8.heap.size 3 1 (.slice (some ⟨g2x, 0, none⟩) xs2.length xs2.length) xs2.length (M4.iv xs2)) := M5.own_below X2x.out hb
        clear hb
        have XQ : Hid (M4.IntsAt w14 (some ⟨gq2, 0, none⟩) xs2) := M4.IntsAt.of_own ho
        clear ho
        go_wp2_with fail
        refine (EQ2.out g2x gq2 _ (M4.IntsAt.of_own X2x.out) XQ.out).mono ?_
        rintro e w15 ⟨rfl, hb⟩
        replace B := B.trans (hb.mono B.size)
        replace BX0 : Hid (w15.cell? ⟨w.heap.size, 0, none⟩ = some (.int .i64 l0) ∧ w15.cell? ⟨w.heap.size, 1, none⟩ = some (.int .i64 r0_) ∧ w15.cell? ⟨w.heap.size, 2, none⟩ = some (.slice a0 xs0.length cap0)) := ⟨(hb.cell (p := ⟨w.heap.size, 0, none⟩) hs0).trans BX0.out.1, (hb.cell (p := ⟨w.heap.size, 1, none⟩) hs0).trans BX0.out.2.1, (hb.cell (p := ⟨w.heap.size, 2, none⟩) hs0).trans BX0.out.2.2⟩
        replace hs0 : w.heap.size < w15.heap.size := Nat.lt_of_lt_of_le hs0 hb.size
        replace BXx : Hid (w15.cell? ⟨w6.heap.size, 0, none⟩ = some (.int .i64 l0) ∧ w15.cell? ⟨w6.heap.size, 1, none⟩ = some (.int .i64 r0_) ∧ w15.cell? ⟨w6.heap.size, 2, none⟩ = some (.slice (some ⟨g0x, 0, none⟩) xs0.length xs0.length)) := ⟨(hb.cell (p := ⟨w6.heap.size, 0, none⟩) hsx).trans BXx.out.1, (hb.cell (p := ⟨w6.heap.size, 1, none⟩) hsx).trans BXx.out.2.1, (hb.cell (p := ⟨w6.heap.size, 2, none⟩) hsx).trans BXx.out.2.2⟩
        replace hsx : w6.heap.size < w15.heap.size := Nat.lt_of_lt_of_le hsx hb.size
        replace X0x : Hid (NR.Own 31 w15 w5.heap.size (.slice (some ⟨g0x, 0, none⟩) xs0.length xs0.length) xs0 AX CX) := NR.Own.below X0x.out hb
        replace X1x : Hid (World.ownsRow w15 w7.heap.size 3 1 (.slice (some ⟨g1x, 0, none⟩) xs1.length xs1.length) xs1.length (M4.iv xs1)) := M5.own_below X1x.out hb
        replace X2x : Hid (World.ownsRow w15 w8.heap.size 3 1 (.slice (some ⟨g2x, 0, none⟩) xs2.length xs2.length) xs2.length (M4.iv xs2)) := M5.own_below X2x.out hb
        clear hb
        clear XQ
        clear H0 TP0 EQ0 H1 TP1 EQ1 H2 TP2 EQ2
        go_wp2
        go_ret
        exact ⟨rfl, B⟩
    · clear SG1 IG1 SZ0
      go_enter Try.func8, Try.ntmps8
      go_wp2
      go_ret
      exact ⟨rfl, (Below.refl _ w).alloc (Nat.le_refl _) _⟩
  · clear SG1 IG1 SZ0
    go_enter Try.func8, Try.ntmps8
    go_wp2
    go_ret
    exact ⟨rfl, (Below.refl _ w).alloc (Nat.le_refl _) _⟩
end Go.Proofs.Ytlcdimiookaefaa
