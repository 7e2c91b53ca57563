/- The law FnExactGoodJobs answers true, whatever the arguments, by contracts of the two functions. -/
import Derived.Test.YthpgkbdoajedeaaRows
import Derived.Test.YthpgkbdoajedeaaM5
import Derived.Test.YthpgkbdoajedeaaMCur
import Derived.Test.YthpgkbdoajedeaaCToJob
import Derived.Test.YthpgkbdoajedeaaCEqJob
import Derived.WalkKit
import Derived.WalkSpells
import Derived.WalkLawsBesides
import Derived.Outline
import Derived.Deep.RegionWith
namespace Go.Proofs.Ythpgkbdoajedeaa
open Go.RowKit
set_option linter.unusedSimpArgs false in
set_option maxHeartbeats 3200000 in
set_option maxRecDepth 100000 in
theorem lawGoodJobs_any (a0 : Option Addr) (cap0 : Nat) (xs0 : List I2) (r0 : Bool)
    (SG0 : xs0.length ≤ 1048576 → ∀ (g0 : Nat) (W : World), MI2.RowAt W (some ⟨g0, 0, none⟩) xs0 → Calls Try.prog 8 #[.slice (some ⟨g0, 0, none⟩) xs0.length xs0.length] W fun e w' => e = .returned (.bool r0) ∧ Below W.heap.size W w')
    (IG0 : xs0.length ≤ 1048576 → ∀ (g0 : Nat) (W : World), MI2.RowAt W (some ⟨g0, 0, none⟩) xs0 → Calls Try.prog 10 #[.slice (some ⟨g0, 0, none⟩) xs0.length xs0.length] W fun e w' => e = .returned (.bool r0) ∧ Below W.heap.size W w')
    (w : World) (hl0 : xs0.length ≤ maxLen) (hi0 : MI2.RowAt w a0 xs0) :
    Calls Try.prog 3 #[.slice a0 xs0.length cap0] w fun e w' => e = .returned (.bool true) ∧ Below w.heap.size w w' := by
  have H0 : Hid (MI2.RowAt w a0 xs0) := hi0
  clear hi0
  have SG1 : Hid _ := SG0
  have IG1 : Hid _ := IG0
  clear SG0 IG0
  have SZ0 : Hid _ := fun (left : Int) (h0 : 0 ≤ left) (h1 : left ≤ 1048576) W => szJobS_any a0 cap0 xs0.length W left h0 h1 hl0
  clear hl0
  go_enter Try.func3, Try.ntmps3
  go_wp2_with fail
  refine (SZ0.out 1048576 (by omega) (by omega) _).mono ?_
  rintro e w1 ⟨l0, rfl, hr0, rfl⟩
  clear SZ0
  by_cases h0 : l0 < 0
  · clear hr0
    go_wp2
    go_ret
    exact ⟨rfl, Below.refl _ _⟩
  · have hz0 : xs0.length ≤ 1048576 := by omega
    have hl00 : 0 ≤ l0 := by omega
    have hl01 : l0 ≤ 1048576 := by omega
    clear hr0
    have SG : Hid _ := SG1.out hz0
    have IG : Hid _ := IG1.out hz0
    clear SG1 IG1
    have TP0 : Hid _ := fun W h => toJobS_any a0 cap0 xs0 W hz0 h
    have EQ0 : Hid _ := fun g g2 W h1 h2 => eqJobS_any (some ⟨g, 0, none⟩) (some ⟨g2, 0, none⟩) xs0.length xs0.length xs0 xs0 W hz0 hz0 h1 h2
    have B : Below w.heap.size w w := Below.refl _ _
    go_wp2_with fail
    refine (TP0.out _ (MI2.RowAt.below H0.out B)).mono ?_
    rintro e w2 ⟨g0s, rfl, ho, hb⟩
    replace B := B.trans (hb.mono B.size)
    clear hb
    have X0s : Hid (MI2.RowAt w2 (some ⟨g0s, 0, none⟩) xs0) := MI2.RowAt.of_own ho
    clear ho
    go_wp2_with fail
    refine (SG.out g0s _ X0s.out).mono ?_
    rintro e w3 ⟨rfl, hb⟩
    replace B := B.trans (hb.mono B.size)
    clear hb
    clear X0s SG
    go_wp2_with fail
    refine (TP0.out _ (MI2.RowAt.below H0.out B)).mono ?_
    rintro e w4 ⟨g0x, rfl, ho, hb⟩
    have hG0 : w3.heap.size ≤ g0x ∧ g0x < w4.heap.size := ho.lt g0x rfl
    replace B := B.trans (hb.mono B.size)
    clear hb
    have X0x : Hid (World.ownsRow w4 w3.heap.size 37 2 (.slice (some ⟨g0x, 0, none⟩) xs0.length xs0.length) xs0.length (MI2.flat xs0)) := ho
    clear ho
    go_wp2_with fail
    refine (IG.out g0x _ (MI2.RowAt.of_own X0x.out)).mono ?_
    rintro e w5 ⟨rfl, hb⟩
    replace B := B.trans (hb.mono B.size)
    replace X0x : Hid (World.ownsRow w5 w3.heap.size 37 2 (.slice (some ⟨g0x, 0, none⟩) xs0.length xs0.length) xs0.length (MI2.flat xs0)) := M5.own_below X0x.out hb
    clear hb
    go_wp2_with fail
    refine (TP0.out _ (MI2.RowAt.below H0.out B)).mono ?_
    rintro e w6 ⟨gq0, rfl, ho, hb⟩
    replace B := B.trans (hb.mono B.size)
    replace X0x : Hid (World.ownsRow w6 w3.heap.size 37 2 (.slice (some ⟨g0x, 0, none⟩) xs0.length xs0.length) xs0.length (MI2.flat xs0)) := M5.own_below X0x.out hb
    clear hb
    have XQ : Hid (MI2.RowAt w6 (some ⟨gq0, 0, none⟩) xs0) := MI2.RowAt.of_own ho
    clear ho
    go_wp2_with fail
    refine (EQ0.out g0x gq0 _ (MI2.RowAt.of_own X0x.out) XQ.out).mono ?_
    rintro e w7 ⟨rfl, hb⟩
    replace B := B.trans (hb.mono B.size)
    replace X0x : Hid (World.ownsRow w7 w3.heap.size 37 2 (.slice (some ⟨g0x, 0, none⟩) xs0.length xs0.length) xs0.length (MI2.flat xs0)) := M5.own_below X0x.out hb
    clear hb
    clear XQ
    clear H0 TP0 EQ0
    go_wp2
    go_ret
    exact ⟨rfl, B⟩
end Go.Proofs.Ythpgkbdoajedeaa
