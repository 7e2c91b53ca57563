/- The law FnExactJoinMembers answers true, whatever the arguments, by contracts of the two functions. -/
import Derived.Test.YtggoaoieephbkaaRows
import Derived.Test.YtggoaoieephbkaaM5
import Derived.Test.YtggoaoieephbkaaMCur
import Derived.Test.YtggoaoieephbkaaCToIntO
import Derived.Test.YtggoaoieephbkaaCEqIntS
import Derived.Test.YtggoaoieephbkaaCMarkIntO
import Derived.Test.YtggoaoieephbkaaCMarkIntS
import Derived.WalkKit
import Derived.WalkSpells
import Derived.WalkLawsBesides
import Derived.Outline
import Derived.Deep.RegionWith
namespace Go.Proofs.Ytggoaoieephbkaa
open Go.RowKit
set_option linter.unusedSimpArgs false in
set_option maxHeartbeats 3200000 in
set_option maxRecDepth 100000 in
theorem lawJoinMembers_any (a0 : Option Addr) (cap0 : Nat) (xs0 : List Int) (a1 : Option Addr) (cap1 : Nat) (xs1 : List Int) (L : List Int) (hL : L.length ≤ 1048576) (r1 : Bool)
    (SG0 : xs0.length ≤ 1048576 → xs1.length ≤ 1048576 → ∀ (g0 g1 : Nat) (W : World), M4.IntsAt W (some ⟨g0, 0, none⟩) xs0 → M4.IntsAt W (some ⟨g1, 0, none⟩) xs1 → Calls Try.prog 4 #[.slice (some ⟨g0, 0, none⟩) xs0.length xs0.length, .slice (some ⟨g1, 0, none⟩) xs1.length xs1.length] W fun e w' => ∃ a1 c1, e = .returned (.tuple #[.slice a1 L.length c1, .bool r1]) ∧ w'.ownsRow W.heap.size 3 1 (.slice a1 L.length c1) L.length (M4.iv L) ∧ Below W.heap.size W w')
    (IG0 : xs0.length ≤ 1048576 → xs1.length ≤ 1048576 → ∀ (g0 g1 : Nat) (W : World), M4.IntsAt W (some ⟨g0, 0, none⟩) xs0 → M4.IntsAt W (some ⟨g1, 0, none⟩) xs1 → Calls Try.prog 6 #[.slice (some ⟨g0, 0, none⟩) xs0.length xs0.length, .slice (some ⟨g1, 0, none⟩) xs1.length xs1.length] W fun e w' => ∃ a1 c1, e = .returned (.tuple #[.slice a1 L.length c1, .bool r1]) ∧ w'.ownsRow W.heap.size 3 1 (.slice a1 L.length c1) L.length (M4.iv L) ∧ Below W.heap.size W w')
    (w : World) (hl0 : xs0.length ≤ maxLen) (hl1 : xs1.length ≤ maxLen) (hi0 : M4.IntsAt w a0 xs0) (hi1 : M4.IntsAt w a1 xs1) :
    Calls Try.prog 3 #[.slice a0 xs0.length cap0, .slice a1 xs1.length cap1] w fun e w' => e = .returned (.bool true) ∧ Below w.heap.size w w' := by
  have H0 : Hid (M4.IntsAt w a0 xs0) := hi0
  have H1 : Hid (M4.IntsAt w a1 xs1) := hi1
  clear hi0 hi1
  unfold maxLen at hl0
  by_cases hz0 : xs0.length ≤ 1048576
  · clear hl0
    unfold maxLen at hl1
    by_cases hz1 : xs1.length ≤ 1048576
    · clear hl1
      have SG1 : Hid _ := SG0
      have IG1 : Hid _ := IG0
      clear SG0 IG0
      go_enter Try.func3, Try.ntmps3
      have SG : Hid _ := SG1.out hz0 hz1
      have IG : Hid _ := IG1.out hz0 hz1
      clear SG1 IG1
      have TP0 : Hid _ := fun W h => toIntS_own a0 cap0 xs0 W hz0 h
      have EQ0 : Hid _ := fun g g2 W h1 h2 => eqIntS_any (some ⟨g, 0, none⟩) (some ⟨g2, 0, none⟩) xs0.length xs0.length xs0 xs0 W (by omega) (by omega) h1 h2
      have TP1 : Hid _ := fun W h => toIntS_own a1 cap1 xs1 W hz1 h
      have EQ1 : Hid _ := fun g g2 W h1 h2 => eqIntS_any (some ⟨g, 0, none⟩) (some ⟨g2, 0, none⟩) xs1.length xs1.length xs1 xs1 W (by omega) (by omega) h1 h2
      have B : Below w.heap.size w w := Below.refl _ _
      go_wp2_with fail
      refine (TP0.out _ (M4.IntsAt.below H0.out B)).mono ?_
      rintro e w2 ⟨g0s, rfl, ho, hb⟩
      replace B := B.trans (hb.mono B.size)
      clear hb
      have X0s : Hid (M4.IntsAt w2 (some ⟨g0s, 0, none⟩) xs0) := M4.IntsAt.of_own ho
      clear ho
      go_wp2_with fail
      refine (TP1.out _ (M4.IntsAt.below H1.out B)).mono ?_
      rintro e w3 ⟨g1s, rfl, ho, hb⟩
      replace B := B.trans (hb.mono B.size)
      replace X0s : Hid (M4.IntsAt w3 (some ⟨g0s, 0, none⟩) xs0) := M4.IntsAt.below X0s.out hb
      clear hb
      have X1s : Hid (M4.IntsAt w3 (some ⟨g1s, 0, none⟩) xs1) := M4.IntsAt.of_own ho
      clear ho
      go_wp2_with fail
      refine (SG.out g0s g1s _ X0s.out X1s.out).mono ?_
      rintro e w4 ⟨az, cz, rfl, owns, hb⟩
      replace B := B.trans (hb.mono B.size)
      clear hb
      clear X0s X1s SG
      have IN0 : Hid (M4.IntsAt w4 az L) := M5.own_ints owns
      clear owns
      have C : Below w4.heap.size w4 w4 := Below.refl _ _
      have BS : w.heap.size ≤ w4.heap.size := B.size
      go_wp2_with fail
      refine (TP0.out _ (M4.IntsAt.below H0.out B)).mono ?_
      rintro e w5 ⟨g0x, rfl, ho, hb⟩
      have hG0 : w4.heap.size ≤ g0x ∧ g0x < w5.heap.size := ho.lt g0x rfl
      replace B := B.trans (hb.mono B.size)
      replace C := C.trans (hb.mono C.size)
      clear hb
      have X0x : Hid (World.ownsRow w5 w4.heap.size 3 1 (.slice (some ⟨g0x, 0, none⟩) xs0.length xs0.length) xs0.length (M4.iv xs0)) := ho
      clear ho
      go_wp2_with fail
      refine (TP1.out _ (M4.IntsAt.below H1.out B)).mono ?_
      rintro e w6 ⟨g1x, rfl, ho, hb⟩
      have hG1 : w5.heap.size ≤ g1x ∧ g1x < w6.heap.size := ho.lt g1x rfl
      replace B := B.trans (hb.mono B.size)
      replace C := C.trans (hb.mono C.size)
      replace X0x : Hid (World.ownsRow w6 w4.heap.size 3 1 (.slice (some ⟨g0x, 0, none⟩) xs0.length xs0.length) xs0.length (M4.iv xs0)) := M5.own_below X0x.out hb
      clear hb
      have X1x : Hid (World.ownsRow w6 w5.heap.size 3 1 (.slice (some ⟨g1x, 0, none⟩) xs1.length xs1.length) xs1.length (M4.iv xs1)) := ho
      clear ho
      go_wp2_with fail
      refine (IG.out g0x g1x _ (M4.IntsAt.of_own X0x.out) (M4.IntsAt.of_own X1x.out)).mono ?_
      rintro e w7 ⟨ai, ci, rfl, owni, hb⟩
      have SC : w4.heap.size ≤ w6.heap.size := C.size
      have SW : w6.heap.size ≤ w7.heap.size := hb.size
      replace B := B.trans (hb.mono B.size)
      replace C := C.trans (hb.mono C.size)
      replace X0x : Hid (World.ownsRow w7 w4.heap.size 3 1 (.slice (some ⟨g0x, 0, none⟩) xs0.length xs0.length) xs0.length (M4.iv xs0)) := M5.own_below X0x.out hb
      replace X1x : Hid (World.ownsRow w7 w5.heap.size 3 1 (.slice (some ⟨g1x, 0, none⟩) xs1.length xs1.length) xs1.length (M4.iv xs1)) := M5.own_below X1x.out hb
      clear hb
      have OG : Hid (World.ownsRow w7 w6.heap.size 3 1 (.slice ai L.length ci) L.length (M4.iv L)) := owni
      clear owni
      go_wp2_with fail
      refine (eqIntS_any _ _ _ _ L L _ (by omega) (by omega) (M5.own_ints OG.out) (M4.IntsAt.below IN0.out C)).mono ?_
      rintro e w8 ⟨rfl, hb⟩
      replace SW : w6.heap.size ≤ w8.heap.size := Nat.le_trans SW hb.size
      replace B := B.trans (hb.mono B.size)
      replace C := C.trans (hb.mono C.size)
      replace X0x : Hid (World.ownsRow w8 w4.heap.size 3 1 (.slice (some ⟨g0x, 0, none⟩) xs0.length xs0.length) xs0.length (M4.iv xs0)) := M5.own_below X0x.out hb
      replace X1x : Hid (World.ownsRow w8 w5.heap.size 3 1 (.slice (some ⟨g1x, 0, none⟩) xs1.length xs1.length) xs1.length (M4.iv xs1)) := M5.own_below X1x.out hb
      replace OG : Hid (World.ownsRow w8 w6.heap.size 3 1 (.slice ai L.length ci) L.length (M4.iv L)) := M5.own_below OG.out hb
      clear hb
      go_wp2_with fail
      refine (TP0.out _ (M4.IntsAt.below H0.out B)).mono ?_
      rintro e w9 ⟨gq0, rfl, ho, hb⟩
      replace SW : w6.heap.size ≤ w9.heap.size := Nat.le_trans SW hb.size
      replace B := B.trans (hb.mono B.size)
      replace C := C.trans (hb.mono C.size)
      replace X0x : Hid (World.ownsRow w9 w4.heap.size 3 1 (.slice (some ⟨g0x, 0, none⟩) xs0.length xs0.length) xs0.length (M4.iv xs0)) := M5.own_below X0x.out hb
      replace X1x : Hid (World.ownsRow w9 w5.heap.size 3 1 (.slice (some ⟨g1x, 0, none⟩) xs1.length xs1.length) xs1.length (M4.iv xs1)) := M5.own_below X1x.out hb
      replace OG : Hid (World.ownsRow w9 w6.heap.size 3 1 (.slice ai L.length ci) L.length (M4.iv L)) := M5.own_below OG.out hb
      clear hb
      have XQ : Hid (M4.IntsAt w9 (some ⟨gq0, 0, none⟩) xs0) := M4.IntsAt.of_own ho
      clear ho
      go_wp2_with fail
      refine (EQ0.out g0x gq0 _ (M4.IntsAt.of_own X0x.out) XQ.out).mono ?_
      rintro e w10 ⟨rfl, hb⟩
      replace SW : w6.heap.size ≤ w10.heap.size := Nat.le_trans SW hb.size
      replace B := B.trans (hb.mono B.size)
      replace C := C.trans (hb.mono C.size)
      replace X0x : Hid (World.ownsRow w10 w4.heap.size 3 1 (.slice (some ⟨g0x, 0, none⟩) xs0.length xs0.length) xs0.length (M4.iv xs0)) := M5.own_below X0x.out hb
      replace X1x : Hid (World.ownsRow w10 w5.heap.size 3 1 (.slice (some ⟨g1x, 0, none⟩) xs1.length xs1.length) xs1.length (M4.iv xs1)) := M5.own_below X1x.out hb
      replace OG : Hid (World.ownsRow w10 w6.heap.size 3 1 (.slice ai L.length ci) L.length (M4.iv L)) := M5.own_below OG.out hb
      clear hb
      clear XQ
      go_wp2_with fail
      refine (TP1.out _ (M4.IntsAt.below H1.out B)).mono ?_
      rintro e w11 ⟨gq1, rfl, ho, hb⟩
      replace SW : w6.heap.size ≤ w11.heap.size := Nat.le_trans SW hb.size
      replace B := B.trans (hb.mono B.size)
      replace C := C.trans (hb.mono C.size)
      replace X0x : Hid (World.ownsRow w11 w4.heap.size 3 1 (.slice (some ⟨g0x, 0, none⟩) xs0.length xs0.length) xs0.length (M4.iv xs0)) := M5.own_below X0x.out hb
      replace X1x : Hid (World.ownsRow w11 w5.heap.size 3 1 (.slice (some ⟨g1x, 0, none⟩) xs1.length xs1.length) xs1.length (M4.iv xs1)) := M5.own_below X1x.out hb
      replace OG : Hid (World.ownsRow w11 w6.heap.size 3 1 (.slice ai L.length ci) L.length (M4.iv L)) := M5.own_below OG.out hb
      clear hb
      have XQ : Hid (M4.IntsAt w11 (some ⟨gq1, 0, none⟩) xs1) := M4.IntsAt.of_own ho
      clear ho
      go_wp2_with fail
      refine (EQ1.out g1x gq1 _ (M4.IntsAt.of_own X1x.out) XQ.out).mono ?_
      rintro e w12 ⟨rfl, hb⟩
      replace SW : w6.heap.size ≤ w12.heap.size := Nat.le_trans SW hb.size
      replace B := B.trans (hb.mono B.size)
      replace C := C.trans (hb.mono C.size)
      replace X0x : Hid (World.ownsRow w12 w4.heap.size 3 1 (.slice (some ⟨g0x, 0, none⟩) xs0.length xs0.length) xs0.length (M4.iv xs0)) := M5.own_below X0x.out hb
      replace X1x : Hid (World.ownsRow w12 w5.heap.size 3 1 (.slice (some ⟨g1x, 0, none⟩) xs1.length xs1.length) xs1.length (M4.iv xs1)) := M5.own_below X1x.out hb
      replace OG : Hid (World.ownsRow w12 w6.heap.size 3 1 (.slice ai L.length ci) L.length (M4.iv L)) := M5.own_below OG.out hb
      clear hb
      clear XQ
      go_wp2_with fail
      refine (markIntS_only _ g0x xs0.length 1 _ hz0 (by omega) (by omega) ⟨_, X0x.out⟩).mono ?_
      rintro e w13 ⟨rfl, hO⟩
      replace SW : w6.heap.size ≤ w13.heap.size := Nat.le_trans SW hO.size
      replace B := B.trans (hO.below (by omega) B.size)
      replace C := C.trans (hO.below (by omega) C.size)
      replace X1x : Hid (World.ownsRow w13 w5.heap.size 3 1 (.slice (some ⟨g1x, 0, none⟩) xs1.length xs1.length) xs1.length (M4.iv xs1)) := MC.own_only X1x.out hO (by omega)
      replace OG : Hid (World.ownsRow w13 w6.heap.size 3 1 (.slice ai L.length ci) L.length (M4.iv L)) := MC.own_only OG.out hO (by omega)
      clear hO X0x
      go_wp2_with fail
      refine (markIntS_only _ g1x xs1.length (1 + xs0.length) _ hz1 (by omega) (by omega) ⟨_, X1x.out⟩).mono ?_
      rintro e w14 ⟨rfl, hO⟩
      replace SW : w6.heap.size ≤ w14.heap.size := Nat.le_trans SW hO.size
      replace B := B.trans (hO.below (by omega) B.size)
      replace C := C.trans (hO.below (by omega) C.size)
      replace OG : Hid (World.ownsRow w14 w6.heap.size 3 1 (.slice ai L.length ci) L.length (M4.iv L)) := MC.own_only OG.out hO (by omega)
      clear hO X1x
      go_wp2_with fail
      refine (eqIntS_any _ _ _ _ L L _ (by omega) (by omega) (M5.own_ints OG.out) (M4.IntsAt.below IN0.out C)).mono ?_
      rintro e w15 ⟨rfl, hb⟩
      replace SW : w6.heap.size ≤ w15.heap.size := Nat.le_trans SW hb.size
      replace B := B.trans (hb.mono B.size)
      replace C := C.trans (hb.mono C.size)
      replace OG : Hid (World.ownsRow w15 w6.heap.size 3 1 (.slice ai L.length ci) L.length (M4.iv L)) := M5.own_below OG.out hb
      clear hb
      go_wp2_with fail
      refine (markIntS_any w6.heap.size _ L 1 _ hL (by omega) (by omega) SW OG.out).mono ?_
      rintro e w16 ⟨rfl, ownm, hbm⟩
      replace B := B.trans (hbm.mono (by omega))
      replace C := C.trans (hbm.mono SC)
      have INM : Hid (M4.IntsAt w16 ai (M5.marks 1 L.length)) := M5.own_ints ownm
      clear OG ownm hbm SW
      go_wp2_with fail
      refine (heldIntS_any _ _ L.length 1 _ hL (by omega) (by omega) INM.out).mono ?_
      rintro e w' ⟨rfl, rfl⟩
      go_wp2_with fail
      refine (TP0.out _ (M4.IntsAt.below H0.out B)).mono ?_
      rintro e w17 ⟨g0y, rfl, ho, hb⟩
      replace B := B.trans (hb.mono B.size)
      replace C := C.trans (hb.mono C.size)
      replace INM : Hid (M4.IntsAt w17 ai (M5.marks 1 L.length)) := M4.IntsAt.below INM.out hb
      clear hb
      have X0y : Hid (M4.IntsAt w17 (some ⟨g0y, 0, none⟩) xs0) := M4.IntsAt.of_own ho
      clear ho
      go_wp2_with fail
      refine (TP1.out _ (M4.IntsAt.below H1.out B)).mono ?_
      rintro e w18 ⟨g1y, rfl, ho, hb⟩
      replace B := B.trans (hb.mono B.size)
      replace C := C.trans (hb.mono C.size)
      replace INM : Hid (M4.IntsAt w18 ai (M5.marks 1 L.length)) := M4.IntsAt.below INM.out hb
      replace X0y : Hid (M4.IntsAt w18 (some ⟨g0y, 0, none⟩) xs0) := M4.IntsAt.below X0y.out hb
      clear hb
      have X1y : Hid (M4.IntsAt w18 (some ⟨g1y, 0, none⟩) xs1) := M4.IntsAt.of_own ho
      clear ho
      go_wp2_with fail
      refine (IG.out g0y g1y _ X0y.out X1y.out).mono ?_
      rintro e w19 ⟨ay, cy, rfl, owny, hb⟩
      replace B := B.trans (hb.mono B.size)
      replace C := C.trans (hb.mono C.size)
      replace INM : Hid (M4.IntsAt w19 ai (M5.marks 1 L.length)) := M4.IntsAt.below INM.out hb
      clear hb
      clear X0y X1y IG
      have INY : Hid (M4.IntsAt w19 ay L) := M5.own_ints owny
      clear owny
      go_wp2_with fail
      refine (eqIntS_any _ _ _ _ L L _ (by omega) (by omega) (INY.out) (M4.IntsAt.below IN0.out C)).mono ?_
      rintro e w20 ⟨rfl, hb⟩
      replace B := B.trans (hb.mono B.size)
      replace C := C.trans (hb.mono C.size)
      replace INM : Hid (M4.IntsAt w20 ai (M5.marks 1 L.length)) := M4.IntsAt.below INM.out hb
      replace INY : Hid (M4.IntsAt w20 ay L) := M4.IntsAt.below INY.out hb
      clear hb
      go_wp2_with fail
      refine (heldIntS_any _ _ L.length 1 _ hL (by omega) (by omega) INM.out).mono ?_
      rintro e w' ⟨rfl, rfl⟩
      clear H0 TP0 EQ0 H1 TP1 EQ1
      go_wp2
      go_ret
      exact ⟨rfl, B⟩
    · clear SG0 IG0
      go_enter Try.func3, Try.ntmps3
      go_wp2
      go_ret
      exact ⟨rfl, Below.refl _ _⟩
  · clear SG0 IG0
    go_enter Try.func3, Try.ntmps3
    go_wp2
    go_ret
    exact ⟨rfl, Below.refl _ _⟩
end Go.Proofs.Ytggoaoieephbkaa
