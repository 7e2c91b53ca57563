/- The law FnExactIsJobOrder answers true, whatever the arguments, by contracts of the two functions. -/
import Derived.Test.YthpgkbdoajedeaaRows
import Derived.Test.YthpgkbdoajedeaaM5
import Derived.Test.YthpgkbdoajedeaaMCur
import Derived.Test.YthpgkbdoajedeaaCToIntO
import Derived.Test.YthpgkbdoajedeaaCEqIntS
import Derived.Test.YthpgkbdoajedeaaCToJob
import Derived.Test.YthpgkbdoajedeaaCEqJob
import Derived.WalkKit
import Derived.WalkSpells
import Derived.WalkLawsBesides
import Derived.Outline
import Derived.Deep.RegionWith
namespace Go.Proofs.Ythpgkbdoajedeaa
open Go.RowKit
set_option linter.unusedSimpArgs false in
set_option maxHeartbeats 3200000 in
set_option maxRecDepth 100000 in
theorem lawIsJobOrder_any (a0 : Option Addr) (cap0 : Nat) (xs0 : List I2) (a1 : Option Addr) (cap1 : Nat) (xs1 : List Int) (r0 : Bool)
    (SG0 : xs0.length ≤ 1048576 → xs1.length ≤ 1048576 → ∀ (g0 g1 : Nat) (W : World), MI2.RowAt W (some ⟨g0, 0, none⟩) xs0 → M4.IntsAt W (some ⟨g1, 0, none⟩) xs1 → Calls Try.prog 18 #[.slice (some ⟨g0, 0, none⟩) xs0.length xs0.length, .slice (some ⟨g1, 0, none⟩) xs1.length xs1.length] W fun e w' => e = .returned (.bool r0) ∧ Below W.heap.size W w')
    (IG0 : xs0.length ≤ 1048576 → xs1.length ≤ 1048576 → ∀ (g0 g1 : Nat) (W : World), MI2.RowAt W (some ⟨g0, 0, none⟩) xs0 → M4.IntsAt W (some ⟨g1, 0, none⟩) xs1 → Calls Try.prog 19 #[.slice (some ⟨g0, 0, none⟩) xs0.length xs0.length, .slice (some ⟨g1, 0, none⟩) xs1.length xs1.length] W fun e w' => e = .returned (.bool r0) ∧ Below W.heap.size W w')
    (w : World) (hl0 : xs0.length ≤ maxLen) (hl1 : xs1.length ≤ maxLen) (hi0 : MI2.RowAt w a0 xs0) (hi1 : M4.IntsAt w a1 xs1) :
    Calls Try.prog 6 #[.slice a0 xs0.length cap0, .slice a1 xs1.length cap1] w fun e w' => e = .returned (.bool true) ∧ Below w.heap.size w w' := by
  have H0 : Hid (MI2.RowAt w a0 xs0) := hi0
  have H1 : Hid (M4.IntsAt w a1 xs1) := hi1
  clear hi0 hi1
  unfold maxLen at hl1
  by_cases hz1 : xs1.length ≤ 1048576
  · clear hl1
    have SG1 : Hid _ := SG0
    have IG1 : Hid _ := IG0
    clear SG0 IG0
    have SZ0 : Hid _ := fun (left : Int) (h0 : 0 ≤ left) (h1 : left ≤ 1048576) W => szJobS_any a0 cap0 xs0.length W left h0 h1 hl0
    clear hl0
    go_enter Try.func6, Try.ntmps6
    go_wp2_with fail
    refine (SZ0.out 1048576 (by omega) (by omega) _).mono ?_
    rintro e w1 ⟨l0, rfl, hr0, rfl⟩
    clear SZ0
    by_cases h0 : l0 < 0
    · clear hr0
      go_wp2
      go_ret
      exact ⟨rfl, Below.refl _ _⟩
    · have hz0 : xs0.length ≤ 1048576 := by omega
      have hl00 : 0 ≤ l0 := by omega
      have hl01 : l0 ≤ 1048576 := by omega
      clear hr0
      have SG : Hid _ := SG1.out hz0 hz1
      have IG : Hid _ := IG1.out hz0 hz1
      clear SG1 IG1
      have TP0 : Hid _ := fun W h => toJobS_any a0 cap0 xs0 W hz0 h
      have EQ0 : Hid _ := fun g g2 W h1 h2 => eqJobS_any (some ⟨g, 0, none⟩) (some ⟨g2, 0, none⟩) xs0.length xs0.length xs0 xs0 W hz0 hz0 h1 h2
      have TP1 : Hid _ := fun W h => toIntS_own a1 cap1 xs1 W hz1 h
      have EQ1 : Hid _ := fun g g2 W h1 h2 => eqIntS_any (some ⟨g, 0, none⟩) (some ⟨g2, 0, none⟩) xs1.length xs1.length xs1 xs1 W (by omega) (by omega) h1 h2
      have B : Below w.heap.size w w := Below.refl _ _
      go_wp2_with fail
      refine (TP0.out _ (MI2.RowAt.below H0.out B)).mono ?_
      rintro e w2 ⟨g0s, rfl, ho, hb⟩
      replace B := B.trans (hb.mono B.size)
      clear hb
      have X0s : Hid (MI2.RowAt w2 (some ⟨g0s, 0, none⟩) xs0) := MI2.RowAt.of_own ho
      clear ho
      go_wp2_with fail
      refine (TP1.out _ (M4.IntsAt.below H1.out B)).mono ?_
      rintro e w3 ⟨g1s, rfl, ho, hb⟩
      replace B := B.trans (hb.mono B.size)
      replace X0s : Hid (MI2.RowAt w3 (some ⟨g0s, 0, none⟩) xs0) := MI2.RowAt.below X0s.out hb
      clear hb
      have X1s : Hid (M4.IntsAt w3 (some ⟨g1s, 0, none⟩) xs1) := M4.IntsAt.of_own ho
      clear ho
      go_wp2_with fail
      refine (SG.out g0s g1s _ X0s.out X1s.out).mono ?_
      rintro e w4 ⟨rfl, hb⟩
      replace B := B.trans (hb.mono B.size)
      clear hb
      clear X0s X1s SG
      go_wp2_with fail
      refine (TP0.out _ (MI2.RowAt.below H0.out B)).mono ?_
      rintro e w5 ⟨g0x, rfl, ho, hb⟩
      have hG0 : w4.heap.size ≤ g0x ∧ g0x < w5.heap.size := ho.lt g0x rfl
      replace B := B.trans (hb.mono B.size)
      clear hb
      have X0x : Hid (World.ownsRow w5 w4.heap.size 37 2 (.slice (some ⟨g0x, 0, none⟩) xs0.length xs0.length) xs0.length (MI2.flat xs0)) := ho
      clear ho
      go_wp2_with fail
      refine (TP1.out _ (M4.IntsAt.below H1.out B)).mono ?_
      rintro e w6 ⟨g1x, rfl, ho, hb⟩
      have hG1 : w5.heap.size ≤ g1x ∧ g1x < w6.heap.size := ho.lt g1x rfl
      replace B := B.trans (hb.mono B.size)
      replace X0x : Hid (World.ownsRow w6 w4.heap.size 37 2 (.slice (some ⟨g0x, 0, none⟩) xs0.length xs0.length) xs0.length (MI2.flat xs0)) := M5.own_below X0x.out hb
      clear hb
      have X1x : Hid (World.ownsRow w6 w5.heap.size 3 1 (.slice (some ⟨g1x, 0, none⟩) xs1.length xs1.length) xs1.length (M4.iv xs1)) := ho
      clear ho
      go_wp2_with fail
      refine (IG.out g0x g1x _ (MI2.RowAt.of_own X0x.out) (M4.IntsAt.of_own X1x.out)).mono ?_
      rintro e w7 ⟨rfl, hb⟩
      replace B := B.trans (hb.mono B.size)
      replace X0x : Hid (World.ownsRow w7 w4.heap.size 37 2 (.slice (some ⟨g0x, 0, none⟩) xs0.length xs0.length) xs0.length (MI2.flat xs0)) := M5.own_below X0x.out hb
      replace X1x : Hid (World.ownsRow w7 w5.heap.size 3 1 (.slice (some ⟨g1x, 0, none⟩) xs1.length xs1.length) xs1.length (M4.iv xs1)) := M5.own_below X1x.out hb
      clear hb
      go_wp2_with fail
      refine (TP0.out _ (MI2.RowAt.below H0.out B)).mono ?_
      rintro e w8 ⟨gq0, rfl, ho, hb⟩
      replace B := B.trans (hb.mono B.size)
      replace X0x : Hid (World.ownsRow w8 w4.heap.size 37 2 (.slice (some ⟨g0x, 0, none⟩) xs0.length xs0.length) xs0.length (MI2.flat xs0)) := M5.own_below X0x.out hb
      replace X1x : Hid (World.ownsRow w8 w5.heap.size 3 1 (.slice (some ⟨g1x, 0, none⟩) xs1.length xs1.length) xs1.length (M4.iv xs1)) := M5.own_below X1x.out hb
      clear hb
      have XQ : Hid (MI2.RowAt w8 (some ⟨gq0, 0, none⟩) xs0) := MI2.RowAt.of_own ho
      clear ho
      go_wp2_with fail
      refine (EQ0.out g0x gq0 _ (MI2.RowAt.of_own X0x.out) XQ.out).mono ?_
      rintro e w9 ⟨rfl, hb⟩
      replace B := B.trans (hb.mono B.size)
      replace X0x : Hid (World.ownsRow w9 w4.heap.size 37 2 (.slice (some ⟨g0x, 0, none⟩) xs0.length xs0.length) xs0.length (MI2.flat xs0)) := M5.own_below X0x.out hb
      replace X1x : Hid (World.ownsRow w9 w5.heap.size 3 1 (.slice (some ⟨g1x, 0, none⟩) xs1.length xs1.length) xs1.length (M4.iv xs1)) := M5.own_below X1x.out hb
      clear hb
      clear XQ
      go_wp2_with fail
      refine (TP1.out _ (M4.IntsAt.below H1.out B)).mono ?_
      rintro e w10 ⟨gq1, rfl, ho, hb⟩
      replace B := B.trans (hb.mono B.size)
      replace X0x : Hid (World.ownsRow w10 w4.heap.size 37 2 (.slice (some ⟨g0x, 0, none⟩) xs0.length xs0.length) xs0.length (MI2.flat xs0)) := M5.own_below X0x.out hb
      replace X1x : Hid (World.ownsRow w10 w5.heap.size 3 1 (.slice (some ⟨g1x, 0, none⟩) xs1.length xs1.length) xs1.length (M4.iv xs1)) := M5.own_below X1x.out hb
      clear hb
      have XQ : Hid (M4.IntsAt w10 (some ⟨gq1, 0, none⟩) xs1) := M4.IntsAt.of_own ho
      clear ho
      go_wp2_with fail
      refine (EQ1.out g1x gq1 _ (M4.IntsAt.of_own X1x.out) XQ.out).mono ?_
      rintro e w11 ⟨rfl, hb⟩
      replace B := B.trans (hb.mono B.size)
      replace X0x : Hid (World.ownsRow w11 w4.heap.size 37 2 (.slice (some ⟨g0x, 0, none⟩) xs0.length xs0.length) xs0.length (MI2.flat xs0)) := M5.own_below X0x.out hb
      replace X1x : Hid (World.ownsRow w11 w5.heap.size 3 1 (.slice (some ⟨g1x, 0, none⟩) xs1.length xs1.length) xs1.length (M4.iv xs1)) := M5.own_below X1x.out hb
      clear hb
      clear XQ
      clear H0 TP0 EQ0 H1 TP1 EQ1
      go_wp2
      go_ret
      exact ⟨rfl, B⟩
  · clear SG0 IG0
    go_enter Try.func6, Try.ntmps6
    go_wp2
    go_ret
    exact ⟨rfl, Below.refl _ _⟩
end Go.Proofs.Ythpgkbdoajedeaa
