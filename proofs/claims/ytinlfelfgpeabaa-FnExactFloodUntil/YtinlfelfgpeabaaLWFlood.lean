/- The law FnExactFloodUntil answers true, whatever the arguments, by contracts of the two functions. -/
import Derived.Test.YtinlfelfgpeabaaRows
import Derived.Test.YtinlfelfgpeabaaM5
import Derived.Test.YtinlfelfgpeabaaMCur
import Derived.Test.YtinlfelfgpeabaaCToContact
import Derived.Test.YtinlfelfgpeabaaCEqContact
import Derived.Test.YtinlfelfgpeabaaCMarkContact
import Derived.Test.YtinlfelfgpeabaaCEqIntS
import Derived.Test.YtinlfelfgpeabaaCMarkIntS
import Derived.WalkKit
import Derived.WalkSpells
import Derived.WalkLawsBesides
import Derived.Outline
import Derived.Deep.RegionWith
namespace Go.Proofs.Ytinlfelfgpeabaa
open Go.RowKit
set_option linter.unusedSimpArgs false in
set_option maxHeartbeats 3200000 in
set_option maxRecDepth 100000 in
theorem lawFloodUntil_any (a0 : Option Addr) (cap0 : Nat) (xs0 : List I5) (n1 : Int) (n2 : Int) (n3 : Int) (L : List Int) (hL : L.length ≤ 1048576) (r1 : Bool)
    (SG0 : xs0.length ≤ 1048576 → ∀ (g0 : Nat) (W : World), MI5.RowAt W (some ⟨g0, 0, none⟩) xs0 → Calls Try.prog 5 #[.slice (some ⟨g0, 0, none⟩) xs0.length xs0.length, .int .i64 n1, .int .i64 n2, .int .i64 n3] W fun e w' => ∃ a1 c1, e = .returned (.tuple #[.slice a1 L.length c1, .bool r1]) ∧ w'.ownsRow W.heap.size 3 1 (.slice a1 L.length c1) L.length (M4.iv L) ∧ Below W.heap.size W w')
    (IG0 : xs0.length ≤ 1048576 → ∀ (g0 : Nat) (W : World), MI5.RowAt W (some ⟨g0, 0, none⟩) xs0 → Calls Try.prog 7 #[.slice (some ⟨g0, 0, none⟩) xs0.length xs0.length, .int .i64 n1, .int .i64 n2, .int .i64 n3] W fun e w' => ∃ a1 c1, e = .returned (.tuple #[.slice a1 L.length c1, .bool r1]) ∧ w'.ownsRow W.heap.size 3 1 (.slice a1 L.length c1) L.length (M4.iv L) ∧ Below W.heap.size W w')
    (w : World) (hl0 : xs0.length ≤ maxLen) (hi0 : MI5.RowAt w a0 xs0) :
    Calls Try.prog 3 #[.slice a0 xs0.length cap0, .int .i64 n1, .int .i64 n2, .int .i64 n3] w fun e w' => e = .returned (.bool true) ∧ Below w.heap.size w w' := by
  have H0 : Hid (MI5.RowAt w a0 xs0) := hi0
  clear hi0
  have SG1 : Hid _ := SG0
  have IG1 : Hid _ := IG0
  clear SG0 IG0
  have SZ0 : Hid _ := fun (left : Int) (h0 : 0 ≤ left) (h1 : left ≤ 1048576) W => szContactS_any a0 cap0 xs0.length W left h0 h1 hl0
  clear hl0
  go_enter Try.func3, Try.ntmps3
  go_wp2_with fail
  refine (SZ0.out 1048576 (by omega) (by omega) _).mono ?_
  rintro e w1 ⟨l0, rfl, hr0, rfl⟩
  clear SZ0
  by_cases h0 : l0 < 0
  · clear hr0
    go_wp2
    go_ret
    exact ⟨rfl, Below.refl _ _⟩
  · have hz0 : xs0.length ≤ 1048576 := by omega
    have hl00 : 0 ≤ l0 := by omega
    have hl01 : l0 ≤ 1048576 := by omega
    clear hr0
    have SG : Hid _ := SG1.out hz0
    have IG : Hid _ := IG1.out hz0
    clear SG1 IG1
    have TP0 : Hid _ := fun W h => toContactS_any a0 cap0 xs0 W hz0 h
    have EQ0 : Hid _ := fun g g2 W h1 h2 => eqContactS_any (some ⟨g, 0, none⟩) (some ⟨g2, 0, none⟩) xs0.length xs0.length xs0 xs0 W hz0 hz0 h1 h2
    have B : Below w.heap.size w w := Below.refl _ _
    go_wp2_with fail
    refine (TP0.out _ (MI5.RowAt.below H0.out B)).mono ?_
    rintro e w2 ⟨g0s, rfl, ho, hb⟩
    replace B := B.trans (hb.mono B.size)
    clear hb
    have X0s : Hid (MI5.RowAt w2 (some ⟨g0s, 0, none⟩) xs0) := MI5.RowAt.of_own ho
    clear ho
    go_wp2_with fail
    refine (SG.out g0s _ X0s.out).mono ?_
    rintro e w3 ⟨az, cz, rfl, owns, hb⟩
    replace B := B.trans (hb.mono B.size)
    clear hb
    clear X0s SG
    have IN0 : Hid (M4.IntsAt w3 az L) := M5.own_ints owns
    clear owns
    have C : Below w3.heap.size w3 w3 := Below.refl _ _
    have BS : w.heap.size ≤ w3.heap.size := B.size
    go_wp2_with fail
    refine (TP0.out _ (MI5.RowAt.below H0.out B)).mono ?_
    rintro e w4 ⟨g0x, rfl, ho, hb⟩
    have hG0 : w3.heap.size ≤ g0x ∧ g0x < w4.heap.size := ho.lt g0x rfl
    replace B := B.trans (hb.mono B.size)
    replace C := C.trans (hb.mono C.size)
    clear hb
    have X0x : Hid (World.ownsRow w4 w3.heap.size 37 5 (.slice (some ⟨g0x, 0, none⟩) xs0.length xs0.length) xs0.length (MI5.flat xs0)) := ho
    clear ho
    go_wp2_with fail
    refine (IG.out g0x _ (MI5.RowAt.of_own X0x.out)).mono ?_
    rintro e w5 ⟨ai, ci, rfl, owni, hb⟩
    have SC : w3.heap.size ≤ w4.heap.size := C.size
    have SW : w4.heap.size ≤ w5.heap.size := hb.size
    replace B := B.trans (hb.mono B.size)
    replace C := C.trans (hb.mono C.size)
    replace X0x : Hid (World.ownsRow w5 w3.heap.size 37 5 (.slice (some ⟨g0x, 0, none⟩) xs0.length xs0.length) xs0.length (MI5.flat xs0)) := M5.own_below X0x.out hb
    clear hb
    have OG : Hid (World.ownsRow w5 w4.heap.size 3 1 (.slice ai L.length ci) L.length (M4.iv L)) := owni
    clear owni
    go_wp2_with fail
    refine (eqIntS_any _ _ _ _ L L _ (by omega) (by omega) (M5.own_ints OG.out) (M4.IntsAt.below IN0.out C)).mono ?_
    rintro e w6 ⟨rfl, hb⟩
    replace SW : w4.heap.size ≤ w6.heap.size := Nat.le_trans SW hb.size
    replace B := B.trans (hb.mono B.size)
    replace C := C.trans (hb.mono C.size)
    replace X0x : Hid (World.ownsRow w6 w3.heap.size 37 5 (.slice (some ⟨g0x, 0, none⟩) xs0.length xs0.length) xs0.length (MI5.flat xs0)) := M5.own_below X0x.out hb
    replace OG : Hid (World.ownsRow w6 w4.heap.size 3 1 (.slice ai L.length ci) L.length (M4.iv L)) := M5.own_below OG.out hb
    clear hb
    go_wp2_with fail
    refine (TP0.out _ (MI5.RowAt.below H0.out B)).mono ?_
    rintro e w7 ⟨gq0, rfl, ho, hb⟩
    replace SW : w4.heap.size ≤ w7.heap.size := Nat.le_trans SW hb.size
    replace B := B.trans (hb.mono B.size)
    replace C := C.trans (hb.mono C.size)
    replace X0x : Hid (World.ownsRow w7 w3.heap.size 37 5 (.slice (some ⟨g0x, 0, none⟩) xs0.length xs0.length) xs0.length (MI5.flat xs0)) := M5.own_below X0x.out hb
    replace OG : Hid (World.ownsRow w7 w4.heap.size 3 1 (.slice ai L.length ci) L.length (M4.iv L)) := M5.own_below OG.out hb
    clear hb
    have XQ : Hid (MI5.RowAt w7 (some ⟨gq0, 0, none⟩) xs0) := MI5.RowAt.of_own ho
    clear ho
    go_wp2_with fail
    refine (EQ0.out g0x gq0 _ (MI5.RowAt.of_own X0x.out) XQ.out).mono ?_
    rintro e w8 ⟨rfl, hb⟩
    replace SW : w4.heap.size ≤ w8.heap.size := Nat.le_trans SW hb.size
    replace B := B.trans (hb.mono B.size)
    replace C := C.trans (hb.mono C.size)
    replace X0x : Hid (World.ownsRow w8 w3.heap.size 37 5 (.slice (some ⟨g0x, 0, none⟩) xs0.length xs0.length) xs0.length (MI5.flat xs0)) := M5.own_below X0x.out hb
    replace OG : Hid (World.ownsRow w8 w4.heap.size 3 1 (.slice ai L.length ci) L.length (M4.iv L)) := M5.own_below OG.out hb
    clear hb
    clear XQ
    go_wp2_with fail
    refine (markContactS_only _ g0x xs0.length 1 _ hz0 (by omega) (by omega) ⟨_, X0x.out⟩).mono ?_
    rintro e w9 ⟨rfl, hO⟩
    replace SW : w4.heap.size ≤ w9.heap.size := Nat.le_trans SW hO.size
    replace B := B.trans (hO.below (by omega) B.size)
    replace C := C.trans (hO.below (by omega) C.size)
    replace OG : Hid (World.ownsRow w9 w4.heap.size 3 1 (.slice ai L.length ci) L.length (M4.iv L)) := MC.own_only OG.out hO (by omega)
    clear hO X0x
    go_wp2_with fail
    refine (eqIntS_any _ _ _ _ L L _ (by omega) (by omega) (M5.own_ints OG.out) (M4.IntsAt.below IN0.out C)).mono ?_
    rintro e w10 ⟨rfl, hb⟩
    replace SW : w4.heap.size ≤ w10.heap.size := Nat.le_trans SW hb.size
    replace B := B.trans (hb.mono B.size)
    replace C := C.trans (hb.mono C.size)
    replace OG : Hid (World.ownsRow w10 w4.heap.size 3 1 (.slice ai L.length ci) L.length (M4.iv L)) := M5.own_below OG.out hb
    clear hb
    go_wp2_with fail
    refine (markIntS_any w4.heap.size _ L 1 _ hL (by omega) (by omega) SW OG.out).mono ?_
    rintro e w11 ⟨rfl, ownm, hbm⟩
    replace B := B.trans (hbm.mono (by omega))
    replace C := C.trans (hbm.mono SC)
    have INM : Hid (M4.IntsAt w11 ai (M5.marks 1 L.length)) := M5.own_ints ownm
    clear OG ownm hbm SW
    go_wp2_with fail
    refine (heldIntS_any _ _ L.length 1 _ hL (by omega) (by omega) INM.out).mono ?_
    rintro e w' ⟨rfl, rfl⟩
    go_wp2_with fail
    refine (TP0.out _ (MI5.RowAt.below H0.out B)).mono ?_
    rintro e w12 ⟨g0y, rfl, ho, hb⟩
    replace B := B.trans (hb.mono B.size)
    replace C := C.trans (hb.mono C.size)
    replace INM : Hid (M4.IntsAt w12 ai (M5.marks 1 L.length)) := M4.IntsAt.below INM.out hb
    clear hb
    have X0y : Hid (MI5.RowAt w12 (some ⟨g0y, 0, none⟩) xs0) := MI5.RowAt.of_own ho
    clear ho
    go_wp2_with fail
    refine (IG.out g0y _ X0y.out).mono ?_
    rintro e w13 ⟨ay, cy, rfl, owny, hb⟩
    replace B := B.trans (hb.mono B.size)
    replace C := C.trans (hb.mono C.size)
    replace INM : Hid (M4.IntsAt w13 ai (M5.marks 1 L.length)) := M4.IntsAt.below INM.out hb
    clear hb
    clear X0y IG
    have INY : Hid (M4.IntsAt w13 ay L) := M5.own_ints owny
    clear owny
    go_wp2_with fail
    refine (eqIntS_any _ _ _ _ L L _ (by omega) (by omega) (INY.out) (M4.IntsAt.below IN0.out C)).mono ?_
    rintro e w14 ⟨rfl, hb⟩
    replace B := B.trans (hb.mono B.size)
    replace C := C.trans (hb.mono C.size)
    replace INM : Hid (M4.IntsAt w14 ai (M5.marks 1 L.length)) := M4.IntsAt.below INM.out hb
    replace INY : Hid (M4.IntsAt w14 ay L) := M4.IntsAt.below INY.out hb
    clear hb
    go_wp2_with fail
    refine (heldIntS_any _ _ L.length 1 _ hL (by omega) (by omega) INM.out).mono ?_
    rintro e w' ⟨rfl, rfl⟩
    clear H0 TP0 EQ0
    go_wp2
    go_ret
    exact ⟨rfl, B⟩
end Go.Proofs.Ytinlfelfgpeabaa
