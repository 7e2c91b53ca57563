/- The law FnExactShortOf answers true, whatever the arguments, by contracts of the two functions. -/
import Derived.Test.YtlcdimiookaefabRows
import Derived.Test.YtlcdimiookaefabM5
import Derived.Test.YtlcdimiookaefabMCur
import Derived.Test.YtlcdimiookaefabCPairLaw
import Derived.Test.YtlcdimiookaefabCEqIntS
import Derived.Test.YtlcdimiookaefabCMarkIntS
import Derived.WalkKit
import Derived.WalkSpells
import Derived.WalkLawsBesides
import Derived.Outline
import Derived.Deep.RegionWith
import Derived.Deep.RegionHeld3
namespace Go.Proofs.Ytlcdimiookaefab
open Go.RowKit
set_option linter.unusedSimpArgs false in
set_option maxHeartbeats 3200000 in
set_option maxRecDepth 100000 in
theorem lawShortOf_any (l0 r0_ : Int) (a0 : Option Addr) (cap0 : Nat) (xs0 : List (List Int)) (L : List Int) (hL : L.length ≤ 1000000) (r1 : Bool)
    (SG0 : xs0.length ≤ 1048576 → NR.tot xs0 ≤ 1048576 → ∀ (g0 : Nat) (W : World), NR.RowsAt W (some ⟨g0, 0, none⟩) xs0 → Calls Try.prog 5 #[PG.pv l0 r0_ (.slice (some ⟨g0, 0, none⟩) xs0.length xs0.length)] W fun e w' => ∃ a1 c1, e = .returned (.tuple #[.slice a1 L.length c1, .bool r1]) ∧ w'.ownsRow W.heap.size 3 1 (.slice a1 L.length c1) L.length (M4.iv L) ∧ Below W.heap.size W w')
    (IG0 : xs0.length ≤ 1048576 → NR.tot xs0 ≤ 1048576 → ∀ (g0 : Nat) (W : World), NR.RowsAt W (some ⟨g0, 0, none⟩) xs0 → Calls Try.prog 7 #[PG.pv l0 r0_ (.slice (some ⟨g0, 0, none⟩) xs0.length xs0.length)] W fun e w' => ∃ a1 c1, e = .returned (.tuple #[.slice a1 L.length c1, .bool r1]) ∧ w'.ownsRow W.heap.size 3 1 (.slice a1 L.length c1) L.length (M4.iv L) ∧ Below W.heap.size W w')
    (w : World) (hl0 : xs0.length ≤ maxLen) (hi0 : NR.RowsAt w a0 xs0) :
    Calls Try.prog 3 #[PG.pv l0 r0_ (.slice a0 xs0.length cap0)] w fun e w' => e = .returned (.bool true) ∧ Below w.heap.size w w' := by
  have H0 : Hid (NR.RowsAt w a0 xs0) := hi0
  have SG1 : Hid _ := SG0
  have IG1 : Hid _ := IG0
  clear SG0 IG0
  have SZ0 : Hid (∀ W : World, Below w.heap.size w W → _) := fun W hb => szPairing_any l0 r0_ a0 cap0 xs0 W 1048576 (by omega) (by omega) hl0 (hi0.below hb)
  clear hl0 hi0
  go_enter Try.func3, Try.ntmps3
  go_wp2_with fail
  have B : Below w.heap.size w _ := (Below.refl _ w).alloc (Nat.le_refl _) (Obj.cells #[.int .i64 l0, .int .i64 r0_, .slice a0 xs0.length cap0] 24)
  have HBX : (w.alloc (Obj.cells #[.int .i64 l0, .int .i64 r0_, .slice a0 xs0.length cap0] 24)).cell? ⟨w.heap.size, 0, none⟩ = some (.int .i64 l0) ∧ (w.alloc (Obj.cells #[.int .i64 l0, .int .i64 r0_, .slice a0 xs0.length cap0] 24)).cell? ⟨w.heap.size, 1, none⟩ = some (.int .i64 r0_) ∧ (w.alloc (Obj.cells #[.int .i64 l0, .int .i64 r0_, .slice a0 xs0.length cap0] 24)).cell? ⟨w.heap.size, 2, none⟩ = some (.slice a0 xs0.length cap0) := by simp
  have HSZ : w.heap.size < (w.alloc (Obj.cells #[.int .i64 l0, .int .i64 r0_, .slice a0 xs0.length cap0] 24)).heap.size := by simp
  have SZ := SZ0.out _ B
  clear SZ0
  generalize w.alloc (Obj.cells #[.int .i64 l0, .int .i64 r0_, .slice a0 xs0.length cap0] 24) = w0 at *
  refine SZ.mono ?_
  rintro e w1 ⟨q0, rfl, hr0, hb⟩
  clear SZ
  replace B := B.trans (hb.mono B.size)
  have BX0 : Hid (w1.cell? ⟨w.heap.size, 0, none⟩ = some (.int .i64 l0) ∧ w1.cell? ⟨w.heap.size, 1, none⟩ = some (.int .i64 r0_) ∧ w1.cell? ⟨w.heap.size, 2, none⟩ = some (.slice a0 xs0.length cap0)) := ⟨(hb.cell (p := ⟨w.heap.size, 0, none⟩) HSZ).trans HBX.1, (hb.cell (p := ⟨w.heap.size, 1, none⟩) HSZ).trans HBX.2.1, (hb.cell (p := ⟨w.heap.size, 2, none⟩) HSZ).trans HBX.2.2⟩
  have hs0 : w.heap.size < w1.heap.size := Nat.lt_of_lt_of_le HSZ hb.size
  clear HBX hb HSZ
  by_cases h0 : q0 < 0
  · clear hr0 BX0
    go_wp2
    go_ret
    exact ⟨rfl, B⟩
  · have hz0 : xs0.length ≤ 1048576 := by omega
    have ht0 : NR.tot xs0 ≤ 1048576 := by omega
    have hq00 : 0 ≤ q0 := by omega
    have hq01 : q0 ≤ 1048576 := by omega
    clear hr0
    have SG : Hid _ := SG1.out hz0 ht0 
    have IG : Hid _ := IG1.out hz0 ht0 
    clear SG1 IG1
    have TP0 : Hid _ := fun W h => toPairing_own l0 r0_ a0 cap0 xs0 W hz0 ht0 h
    have EQ0 : Hid _ := fun g g2 W h1 h2 => eqPairing_any l0 r0_ (some ⟨g, 0, none⟩) (some ⟨g2, 0, none⟩) xs0.length xs0.length xs0 W hz0 ht0 h1 h2
    obtain ⟨x00, x01, x02⟩ := BX0.out
    go_wp2_with fail
    clear x00 x01 x02
    refine (TP0.out _ (NR.RowsAt.below H0.out B)).mono ?_
    rintro e w2 ⟨g0s, AY, CY, rfl, ho, hb⟩
    replace B := B.trans (hb.mono B.size)
    replace BX0 : Hid (w2.cell? ⟨w.heap.size, 0, none⟩ = some (.int .i64 l0) ∧ w2.cell? ⟨w.heap.size, 1, none⟩ = some (.int .i64 r0_) ∧ w2.cell? ⟨w.heap.size, 2, none⟩ = some (.slice a0 xs0.length cap0)) := ⟨(hb.cell (p := ⟨w.heap.size, 0, none⟩) hs0).trans BX0.out.1, (hb.cell (p := ⟨w.heap.size, 1, none⟩) hs0).trans BX0.out.2.1, (hb.cell (p := ⟨w.heap.size, 2, none⟩) hs0).trans BX0.out.2.2⟩
    replace hs0 : w.heap.size < w2.heap.size := Nat.lt_of_lt_of_le hs0 hb.size
    clear hb
    have X0s : Hid (NR.RowsAt w2 (some ⟨g0s, 0, none⟩) xs0) := ho.rows
    clear ho
    go_wp2_with fail
    refine (SG.out g0s _ X0s.out).mono ?_
    rintro e w3 ⟨az, cz, rfl, owns, hb⟩
    replace B := B.trans (hb.mono B.size)
    replace BX0 : Hid (w3.cell? ⟨w.heap.size, 0, none⟩ = some (.int .i64 l0) ∧ w3.cell? ⟨w.heap.size, 1, none⟩ = some (.int .i64 r0_) ∧ w3.cell? ⟨w.heap.size, 2, none⟩ = some (.slice a0 xs0.length cap0)) := ⟨(hb.cell (p := ⟨w.heap.size, 0, none⟩) hs0).trans BX0.out.1, (hb.cell (p := ⟨w.heap.size, 1, none⟩) hs0).trans BX0.out.2.1, (hb.cell (p := ⟨w.heap.size, 2, none⟩) hs0).trans BX0.out.2.2⟩
    replace hs0 : w.heap.size < w3.heap.size := Nat.lt_of_lt_of_le hs0 hb.size
    clear hb
    clear X0s SG
    have IN0 : Hid (M4.IntsAt w3 az L) := M5.own_ints owns
    clear owns
    have C : Below w3.heap.size w3 w3 := Below.refl _ _
    obtain ⟨x00, x01, x02⟩ := BX0.out
    go_wp2_with fail
    clear x00 x01 x02
    refine (TP0.out _ (NR.RowsAt.below H0.out B)).mono ?_
    rintro e w4 ⟨g0x, AX, CX, rfl, ho, hb⟩
    have hTop : ∀ j, j < xs0.length → NR.rw_ xs0 j ≠ [] → ∀ g, AX j = some ⟨g, 0, none⟩ → g < w4.heap.size := fun j hj hne g hg => by have r := ho.row j hj; rw [hg] at r; exact (r.lt hne).2
    have HTop : Hid _ := hTop
    clear hTop
    have hLT : w3.heap.size ≤ w4.heap.size := hb.size
    have hLo : w.heap.size < w3.heap.size := hs0
    have hC : w3.heap.size ≤ w3.heap.size := C.size
    replace B := B.trans (hb.mono B.size)
    replace BX0 : Hid (w4.cell? ⟨w.heap.size, 0, none⟩ = some (.int .i64 l0) ∧ w4.cell? ⟨w.heap.size, 1, none⟩ = some (.int .i64 r0_) ∧ w4.cell? ⟨w.heap.size, 2, none⟩ = some (.slice a0 xs0.length cap0)) := ⟨(hb.cell (p := ⟨w.heap.size, 0, none⟩) hs0).trans BX0.out.1, (hb.cell (p := ⟨w.heap.size, 1, none⟩) hs0).trans BX0.out.2.1, (hb.cell (p := ⟨w.heap.size, 2, none⟩) hs0).trans BX0.out.2.2⟩
    replace hs0 : w.heap.size < w4.heap.size := Nat.lt_of_lt_of_le hs0 hb.size
    replace C := C.trans (hb.mono C.size)
    clear hb
    have X0x : Hid (NR.Own 26 w4 w3.heap.size (.slice (some ⟨g0x, 0, none⟩) xs0.length xs0.length) xs0 AX CX) := ho
    clear ho
    go_wp2_with fail
    have hb : Below w4.heap.size w4 (w4.alloc (Obj.cells #[.int .i64 l0, .int .i64 r0_, .slice (some ⟨g0x, 0, none⟩) xs0.length xs0.length] 29)) := (Below.refl _ _).alloc (Nat.le_refl _) _
    have hcx : (w4.alloc (Obj.cells #[.int .i64 l0, .int .i64 r0_, .slice (some ⟨g0x, 0, none⟩) xs0.length xs0.length] 29)).cell? ⟨w4.heap.size, 0, none⟩ = some (.int .i64 l0) ∧ (w4.alloc (Obj.cells #[.int .i64 l0, .int .i64 r0_, .slice (some ⟨g0x, 0, none⟩) xs0.length xs0.length] 29)).cell? ⟨w4.heap.size, 1, none⟩ = some (.int .i64 r0_) ∧ (w4.alloc (Obj.cells #[.int .i64 l0, .int .i64 r0_, .slice (some ⟨g0x, 0, none⟩) xs0.length xs0.length] 29)).cell? ⟨w4.heap.size, 2, none⟩ = some (.slice (some ⟨g0x, 0, none⟩) xs0.length xs0.length) := by simp
    have hsx : w4.heap.size < (w4.alloc (Obj.cells #[.int .i64 l0, .int .i64 r0_, .slice (some ⟨g0x, 0, none⟩) xs0.length xs0.length] 29)).heap.size := by simp
    generalize w4.alloc (Obj.cells #[.int .i64 l0, .int .i64 r0_, .slice (some ⟨g0x, 0, none⟩) xs0.length xs0.length] 29) = w5 at *
    replace B := B.trans (hb.mono B.size)
    replace BX0 : Hid (w5.cell? ⟨w.heap.size, 0, none⟩ = some (.int .i64 l0) ∧ w5.cell? ⟨w.heap.size, 1, none⟩ = some (.int .i64 r0_) ∧ w5.cell? ⟨w.heap.size, 2, none⟩ = some (.slice a0 xs0.length cap0)) := ⟨(hb.cell (p := ⟨w.heap.size, 0, none⟩) hs0).trans BX0.out.1, (hb.cell (p := ⟨w.heap.size, 1, none⟩) hs0).trans BX0.out.2.1, (hb.cell (p := ⟨w.heap.size, 2, none⟩) hs0).trans BX0.out.2.2⟩
    replace hs0 : w.heap.size < w5.heap.size := Nat.lt_of_lt_of_le hs0 hb.size
    replace C := C.trans (hb.mono C.size)
    replace X0x : Hid (NR.Own 26 w5 w3.heap.size (.slice (some ⟨g0x, 0, none⟩) xs0.length xs0.length) xs0 AX CX) := NR.Own.below X0x.out hb
    clear hb
    have BXx : Hid (w5.cell? ⟨w4.heap.size, 0, none⟩ = some (.int .i64 l0) ∧ w5.cell? ⟨w4.heap.size, 1, none⟩ = some (.int .i64 r0_) ∧ w5.cell? ⟨w4.heap.size, 2, none⟩ = some (.slice (some ⟨g0x, 0, none⟩) xs0.length xs0.length)) := hcx
    clear hcx
    refine (IG.out g0x _ X0x.out.rows).mono ?_
    rintro e w6 ⟨ai, ci, rfl, owni, hb⟩
    have hTw : w4.heap.size ≤ w5.heap.size := Nat.le_of_lt hsx
    have SW : w5.heap.size ≤ w6.heap.size := hb.size
    have SC : w3.heap.size ≤ w5.heap.size := C.size
    have SB : w.heap.size ≤ w5.heap.size := B.size
    have hS0 : w.heap.size < w5.heap.size := hs0
    have hSx : w4.heap.size < w5.heap.size := hsx
    replace B := B.trans (hb.mono B.size)
    replace BX0 : Hid (w6.cell? ⟨w.heap.size, 0, none⟩ = some (.int .i64 l0) ∧ w6.cell? ⟨w.heap.size, 1, none⟩ = some (.int .i64 r0_) ∧ w6.cell? ⟨w.heap.size, 2, none⟩ = some (.slice a0 xs0.length cap0)) := ⟨(hb.cell (p := ⟨w.heap.size, 0, none⟩) hs0).trans BX0.out.1, (hb.cell (p := ⟨w.heap.size, 1, none⟩) hs0).trans BX0.out.2.1, (hb.cell (p := ⟨w.heap.size, 2, none⟩) hs0).trans BX0.out.2.2⟩
    replace hs0 : w.heap.size < w6.heap.size := Nat.lt_of_lt_of_le hs0 hb.size
    replace BXx : Hid (w6.cell? ⟨w4.heap.size, 0, none⟩ = some (.int .i64 l0) ∧ w6.cell? ⟨w4.heap.size, 1, none⟩ = some (.int .i64 r0_) ∧ w6.cell? ⟨w4.heap.size, 2, none⟩ = some (.slice (some ⟨g0x, 0, none⟩) xs0.length xs0.length)) := ⟨(hb.cell (p := ⟨w4.heap.size, 0, none⟩) hsx).trans BXx.out.1, (hb.cell (p := ⟨w4.heap.size, 1, none⟩) hsx).trans BXx.out.2.1, (hb.cell (p := ⟨w4.heap.size, 2, none⟩) hsx).trans BXx.out.2.2⟩
    replace hsx : w4.heap.size < w6.heap.size := Nat.lt_of_lt_of_le hsx hb.size
    replace C := C.trans (hb.mono C.size)
    replace X0x : Hid (NR.Own 26 w6 w3.heap.size (.slice (some ⟨g0x, 0, none⟩) xs0.length xs0.length) xs0 AX CX) := NR.Own.below X0x.out hb
    clear hb
    have OG : Hid (World.ownsRow w6 w5.heap.size 3 1 (.slice ai L.length ci) L.length (M4.iv L)) := owni
    clear owni
    go_wp2_with fail
    refine (eqIntS_any _ _ _ _ L L _ (by omega) (by omega) (M5.own_ints OG.out) (M4.IntsAt.below IN0.out C)).mono ?_
    rintro e w7 ⟨rfl, hb⟩
    replace B := B.trans (hb.mono B.size)
    replace BX0 : Hid (w7.cell? ⟨w.heap.size, 0, none⟩ = some (.int .i64 l0) ∧ w7.cell? ⟨w.heap.size, 1, none⟩ = some (.int .i64 r0_) ∧ w7.cell? ⟨w.heap.size, 2, none⟩ = some (.slice a0 xs0.length cap0)) := ⟨(hb.cell (p := ⟨w.heap.size, 0, none⟩) hs0).trans BX0.out.1, (hb.cell (p := ⟨w.heap.size, 1, none⟩) hs0).trans BX0.out.2.1, (hb.cell (p := ⟨w.heap.size, 2, none⟩) hs0).trans BX0.out.2.2⟩
    replace hs0 : w.heap.size < w7.heap.size := Nat.lt_of_lt_of_le hs0 hb.size
    replace BXx : Hid (w7.cell? ⟨w4.heap.size, 0, none⟩ = some (.int .i64 l0) ∧ w7.cell? ⟨w4.heap.size, 1, none⟩ = some (.int .i64 r0_) ∧ w7.cell? ⟨w4.heap.size, 2, none⟩ = some (.slice (some ⟨g0x, 0, none⟩) xs0.length xs0.length)) := ⟨(hb.cell (p := ⟨w4.heap.size, 0, none⟩) hsx).trans BXx.out.1, (hb.cell (p := ⟨w4.heap.size, 1, none⟩) hsx).trans BXx.out.2.1, (hb.cell (p := ⟨w4.heap.size, 2, none⟩) hsx).trans BXx.out.2.2⟩
    replace hsx : w4.heap.size < w7.heap.size := Nat.lt_of_lt_of_le hsx hb.size
    replace C := C.trans (hb.mono C.size)
    replace SW : w5.heap.size ≤ w7.heap.size := Nat.le_trans SW hb.size
    replace X0x : Hid (NR.Own 26 w7 w3.heap.size (.slice (some ⟨g0x, 0, none⟩) xs0.length xs0.length) xs0 AX CX) := NR.Own.below X0x.out hb
    replace OG : Hid (World.ownsRow w7 w5.heap.size 3 1 (.slice ai L.length ci) L.length (M4.iv L)) := M5.own_below OG.out hb
    clear hb
    have KP : ∀ w1 w2 : World, (Below w7.heap.size w7 w1 ∧ w1.cell? ⟨w.heap.size, 0, none⟩ = some (.int .i64 l0) ∧ w1.cell? ⟨w.heap.size, 1, none⟩ = some (.int .i64 r0_) ∧ w1.cell? ⟨w.heap.size, 2, none⟩ = some (.slice a0 xs0.length cap0) ∧ w1.cell? ⟨w4.heap.size, 0, none⟩ = some (.int .i64 l0) ∧ w1.cell? ⟨w4.heap.size, 1, none⟩ = some (.int .i64 r0_) ∧ w1.cell? ⟨w4.heap.size, 2, none⟩ = some (.slice (some ⟨g0x, 0, none⟩) xs0.length xs0.length)) → Below w1.heap.size w1 w2 → (Below w7.heap.size w7 w2 ∧ w2.cell? ⟨w.heap.size, 0, none⟩ = some (.int .i64 l0) ∧ w2.cell? ⟨w.heap.size, 1, none⟩ = some (.int .i64 r0_) ∧ w2.cell? ⟨w.heap.size, 2, none⟩ = some (.slice a0 xs0.length cap0) ∧ w2.cell? ⟨w4.heap.size, 0, none⟩ = some (.int .i64 l0) ∧ w2.cell? ⟨w4.heap.size, 1, none⟩ = some (.int .i64 r0_) ∧ w2.cell? ⟨w4.heap.size, 2, none⟩ = some (.slice (some ⟨g0x, 0, none⟩) xs0.length xs0.length)) := fun w1 w2 h hb => PG.keep2 hs0 hsx h hb
    have TQ : Hid (∀ W' : World, (Below w7.heap.size w7 W' ∧ W'.cell? ⟨w.heap.size, 0, none⟩ = some (.int .i64 l0) ∧ W'.cell? ⟨w.heap.size, 1, none⟩ = some (.int .i64 r0_) ∧ W'.cell? ⟨w.heap.size, 2, none⟩ = some (.slice a0 xs0.length cap0) ∧ W'.cell? ⟨w4.heap.size, 0, none⟩ = some (.int .i64 l0) ∧ W'.cell? ⟨w4.heap.size, 1, none⟩ = some (.int .i64 r0_) ∧ W'.cell? ⟨w4.heap.size, 2, none⟩ = some (.slice (some ⟨g0x, 0, none⟩) xs0.length xs0.length)) → Calls Try.prog 6 #[PG.pv l0 r0_ (.slice a0 xs0.length cap0)] W' fun e w' => ∃ g : Nat, e = .returned (PG.pv l0 r0_ (.slice (some ⟨g, 0, none⟩) xs0.length xs0.length)) ∧ NR.RowsAt w' (some ⟨g, 0, none⟩) xs0 ∧ (Below w7.heap.size w7 w' ∧ w'.cell? ⟨w.heap.size, 0, none⟩ = some (.int .i64 l0) ∧ w'.cell? ⟨w.heap.size, 1, none⟩ = some (.int .i64 r0_) ∧ w'.cell? ⟨w.heap.size, 2, none⟩ = some (.slice a0 xs0.length cap0) ∧ w'.cell? ⟨w4.heap.size, 0, none⟩ = some (.int .i64 l0) ∧ w'.cell? ⟨w4.heap.size, 1, none⟩ = some (.int .i64 r0_) ∧ w'.cell? ⟨w4.heap.size, 2, none⟩ = some (.slice (some ⟨g0x, 0, none⟩) xs0.length xs0.length))) := fun W' h => (TP0.out W' (NR.RowsAt.below H0.out (B.trans (h.1.mono B.size)))).mono fun e w' ⟨g, _, _, e1, ho, hb⟩ => ⟨g, e1, ho.rows, KP _ _ h hb⟩
    have XR : Hid _ := X0x.out.rows
    have EQQ : Hid (∀ (g : Nat) (W' : World), (Below w7.heap.size w7 W' ∧ W'.cell? ⟨w.heap.size, 0, none⟩ = some (.int .i64 l0) ∧ W'.cell? ⟨w.heap.size, 1, none⟩ = some (.int .i64 r0_) ∧ W'.cell? ⟨w.heap.size, 2, none⟩ = some (.slice a0 xs0.length cap0) ∧ W'.cell? ⟨w4.heap.size, 0, none⟩ = some (.int .i64 l0) ∧ W'.cell? ⟨w4.heap.size, 1, none⟩ = some (.int .i64 r0_) ∧ W'.cell? ⟨w4.heap.size, 2, none⟩ = some (.slice (some ⟨g0x, 0, none⟩) xs0.length xs0.length)) → NR.RowsAt W' (some ⟨g, 0, none⟩) xs0 → Calls Try.prog 9 #[PG.pv l0 r0_ (.slice (some ⟨g0x, 0, none⟩) xs0.length xs0.length), PG.pv l0 r0_ (.slice (some ⟨g, 0, none⟩) xs0.length xs0.length)] W' fun e w' => e = .returned (.bool true) ∧ (Below w7.heap.size w7 w' ∧ w'.cell? ⟨w.heap.size, 0, none⟩ = some (.int .i64 l0) ∧ w'.cell? ⟨w.heap.size, 1, none⟩ = some (.int .i64 r0_) ∧ w'.cell? ⟨w.heap.size, 2, none⟩ = some (.slice a0 xs0.length cap0) ∧ w'.cell? ⟨w4.heap.size, 0, none⟩ = some (.int .i64 l0) ∧ w'.cell? ⟨w4.heap.size, 1, none⟩ = some (.int .i64 r0_) ∧ w'.cell? ⟨w4.heap.size, 2, none⟩ = some (.slice (some ⟨g0x, 0, none⟩) xs0.length xs0.length))) := fun g W' h h2 => (EQ0.out g0x g W' (NR.RowsAt.below XR.out h.1) h2).mono fun e w' ⟨e1, hb⟩ => ⟨e1, KP _ _ h hb⟩
    obtain ⟨x00, x01, x02⟩ := BX0.out
    obtain ⟨xx0, xx1, xx2⟩ := BXx.out
    have hSd : Below w7.heap.size w7 w7.drew ∧ w7.drew.cell? ⟨w.heap.size, 0, none⟩ = some (.int .i64 l0) ∧ w7.drew.cell? ⟨w.heap.size, 1, none⟩ = some (.int .i64 r0_) ∧ w7.drew.cell? ⟨w.heap.size, 2, none⟩ = some (.slice a0 xs0.length cap0) ∧ w7.drew.cell? ⟨w4.heap.size, 0, none⟩ = some (.int .i64 l0) ∧ w7.drew.cell? ⟨w4.heap.size, 1, none⟩ = some (.int .i64 r0_) ∧ w7.drew.cell? ⟨w4.heap.size, 2, none⟩ = some (.slice (some ⟨g0x, 0, none⟩) xs0.length xs0.length) := ⟨(Below.refl _ _).drew, x00, x01, x02, xx0, xx1, xx2⟩
    clear KP XR
    go_wp2
    go_region_held3 (fun w' => Below w7.heap.size w7 w' ∧ w'.cell? ⟨w.heap.size, 0, none⟩ = some (.int .i64 l0) ∧ w'.cell? ⟨w.heap.size, 1, none⟩ = some (.int .i64 r0_) ∧ w'.cell? ⟨w.heap.size, 2, none⟩ = some (.slice a0 xs0.length cap0) ∧ w'.cell? ⟨w4.heap.size, 0, none⟩ = some (.int .i64 l0) ∧ w'.cell? ⟨w4.heap.size, 1, none⟩ = some (.int .i64 r0_) ∧ w'.cell? ⟨w4.heap.size, 2, none⟩ = some (.slice (some ⟨g0x, 0, none⟩) xs0.length xs0.length)) (first | assumption | (show _ ∧ _; assumption)) (first | (go_at_call 6; refine Calls.mono (TQ.out _ (by assumption)) ?_; (rintro e wq ⟨gq, rfl, hrq, hSq⟩)) | (go_at_call 9; refine Calls.mono (EQQ.out _ _ (by assumption) (by assumption)) ?_; (rintro e w8 ⟨rfl, hSr⟩)))
    have hb := hSr.1
    clear hSd hSq hSr hrq TQ EQQ x00 x01 x02 xx0 xx1 xx2
    replace B := B.trans (hb.mono B.size)
    replace BX0 : Hid (w8.cell? ⟨w.heap.size, 0, none⟩ = some (.int .i64 l0) ∧ w8.cell? ⟨w.heap.size, 1, none⟩ = some (.int .i64 r0_) ∧ w8.cell? ⟨w.heap.size, 2, none⟩ = some (.slice a0 xs0.length cap0)) := ⟨(hb.cell (p := ⟨w.heap.size, 0, none⟩) hs0).trans BX0.out.1, (hb.cell (p := ⟨w.heap.size, 1, none⟩) hs0).trans BX0.out.2.1, (hb.cell (p := ⟨w.heap.size, 2, none⟩) hs0).trans BX0.out.2.2⟩
    replace hs0 : w.heap.size < w8.heap.size := Nat.lt_of_lt_of_le hs0 hb.size
    replace BXx : Hid (w8.cell? ⟨w4.heap.size, 0, none⟩ = some (.int .i64 l0) ∧ w8.cell? ⟨w4.heap.size, 1, none⟩ = some (.int .i64 r0_) ∧ w8.cell? ⟨w4.heap.size, 2, none⟩ = some (.slice (some ⟨g0x, 0, none⟩) xs0.length xs0.length)) := ⟨(hb.cell (p := ⟨w4.heap.size, 0, none⟩) hsx).trans BXx.out.1, (hb.cell (p := ⟨w4.heap.size, 1, none⟩) hsx).trans BXx.out.2.1, (hb.cell (p := ⟨w4.heap.size, 2, none⟩) hsx).trans BXx.out.2.2⟩
    replace hsx : w4.heap.size < w8.heap.size := Nat.lt_of_lt_of_le hsx hb.size
    replace C := C.trans (hb.mono C.size)
    replace SW : w5.heap.size ≤ w8.heap.size := Nat.le_trans SW hb.size
    replace X0x : Hid (NR.Own 26 w8 w3.heap.size (.slice (some ⟨g0x, 0, none⟩) xs0.length xs0.length) xs0 AX CX) := NR.Own.below X0x.out hb
    replace OG : Hid (World.ownsRow w8 w5.heap.size 3 1 (.slice ai L.length ci) L.length (M4.iv L)) := M5.own_below OG.out hb
    clear hb
    obtain ⟨xx0, xx1, xx2⟩ := BXx.out
    go_wp2_with fail
    clear xx0 xx1 xx2
    refine (markPairing_any l0 r0_ w3.heap.size w4.heap.size (some ⟨g0x, 0, none⟩) xs0.length xs0 AX CX 1 _ hz0 ht0 (by omega) (by omega) HTop.out X0x.out).mono ?_
    rintro e w9 ⟨rfl, hm⟩
    replace BX0 : Hid (w9.cell? ⟨w.heap.size, 0, none⟩ = some (.int .i64 l0) ∧ w9.cell? ⟨w.heap.size, 1, none⟩ = some (.int .i64 r0_) ∧ w9.cell? ⟨w.heap.size, 2, none⟩ = some (.slice a0 xs0.length cap0)) := ⟨(World.cell?_of_block (a := ⟨w.heap.size, 0, none⟩) (hm.block w.heap.size hs0 (.inl hLo))).trans BX0.out.1, (World.cell?_of_block (a := ⟨w.heap.size, 1, none⟩) (hm.block w.heap.size hs0 (.inl hLo))).trans BX0.out.2.1, (World.cell?_of_block (a := ⟨w.heap.size, 2, none⟩) (hm.block w.heap.size hs0 (.inl hLo))).trans BX0.out.2.2⟩
    replace hs0 : w.heap.size < w9.heap.size := Nat.lt_of_lt_of_le hs0 hm.size
    replace BXx : Hid (w9.cell? ⟨w4.heap.size, 0, none⟩ = some (.int .i64 l0) ∧ w9.cell? ⟨w4.heap.size, 1, none⟩ = some (.int .i64 r0_) ∧ w9.cell? ⟨w4.heap.size, 2, none⟩ = some (.slice (some ⟨g0x, 0, none⟩) xs0.length xs0.length)) := ⟨(World.cell?_of_block (a := ⟨w4.heap.size, 0, none⟩) (hm.block w4.heap.size hsx (.inr (Nat.le_refl _)))).trans BXx.out.1, (World.cell?_of_block (a := ⟨w4.heap.size, 1, none⟩) (hm.block w4.heap.size hsx (.inr (Nat.le_refl _)))).trans BXx.out.2.1, (World.cell?_of_block (a := ⟨w4.heap.size, 2, none⟩) (hm.block w4.heap.size hsx (.inr (Nat.le_refl _)))).trans BXx.out.2.2⟩
    replace hsx : w4.heap.size < w9.heap.size := Nat.lt_of_lt_of_le hsx hm.size
    replace B := B.trans (hm.below (Nat.le_of_lt hLo) B.size)
    replace C := C.trans (hm.below hC C.size)
    replace SW : w5.heap.size ≤ w9.heap.size := Nat.le_trans SW hm.size
    replace OG : Hid (World.ownsRow w9 w5.heap.size 3 1 (.slice ai L.length ci) L.length (M4.iv L)) := PG.Mid.own OG.out hm hTw
    clear hm X0x HTop
    go_wp2_with fail
    refine (eqIntS_any _ _ _ _ L L _ (by omega) (by omega) (M5.own_ints OG.out) (M4.IntsAt.below IN0.out C)).mono ?_
    rintro e w10 ⟨rfl, hb⟩
    replace B := B.trans (hb.mono B.size)
    replace BX0 : Hid (w10.cell? ⟨w.heap.size, 0, none⟩ = some (.int .i64 l0) ∧ w10.cell? ⟨w.heap.size, 1, none⟩ = some (.int .i64 r0_) ∧ w10.cell? ⟨w.heap.size, 2, none⟩ = some (.slice a0 xs0.length cap0)) := ⟨(hb.cell (p := ⟨w.heap.size, 0, none⟩) hs0).trans BX0.out.1, (hb.cell (p := ⟨w.heap.size, 1, none⟩) hs0).trans BX0.out.2.1, (hb.cell (p := ⟨w.heap.size, 2, none⟩) hs0).trans BX0.out.2.2⟩
    replace hs0 : w.heap.size < w10.heap.size := Nat.lt_of_lt_of_le hs0 hb.size
    replace BXx : Hid (w10.cell? ⟨w4.heap.size, 0, none⟩ = some (.int .i64 l0) ∧ w10.cell? ⟨w4.heap.size, 1, none⟩ = some (.int .i64 r0_) ∧ w10.cell? ⟨w4.heap.size, 2, none⟩ = some (.slice (some ⟨g0x, 0, none⟩) xs0.length xs0.length)) := ⟨(hb.cell (p := ⟨w4.heap.size, 0, none⟩) hsx).trans BXx.out.1, (hb.cell (p := ⟨w4.heap.size, 1, none⟩) hsx).trans BXx.out.2.1, (hb.cell (p := ⟨w4.heap.size, 2, none⟩) hsx).trans BXx.out.2.2⟩
    replace hsx : w4.heap.size < w10.heap.size := Nat.lt_of_lt_of_le hsx hb.size
    replace C := C.trans (hb.mono C.size)
    replace SW : w5.heap.size ≤ w10.heap.size := Nat.le_trans SW hb.size
    replace OG : Hid (World.ownsRow w10 w5.heap.size 3 1 (.slice ai L.length ci) L.length (M4.iv L)) := M5.own_below OG.out hb
    clear hb
    go_wp2_with fail
    refine (markIntS_any w5.heap.size _ L 1 _ (by omega) (by omega) (by omega) SW OG.out).mono ?_
    rintro e w11 ⟨rfl, ownm, hbm⟩
    replace BX0 : Hid (w11.cell? ⟨w.heap.size, 0, none⟩ = some (.int .i64 l0) ∧ w11.cell? ⟨w.heap.size, 1, none⟩ = some (.int .i64 r0_) ∧ w11.cell? ⟨w.heap.size, 2, none⟩ = some (.slice a0 xs0.length cap0)) := ⟨(hbm.cell (p := ⟨w.heap.size, 0, none⟩) (by simp; omega)).trans BX0.out.1, (hbm.cell (p := ⟨w.heap.size, 1, none⟩) (by simp; omega)).trans BX0.out.2.1, (hbm.cell (p := ⟨w.heap.size, 2, none⟩) (by simp; omega)).trans BX0.out.2.2⟩
    replace hs0 : w.heap.size < w11.heap.size := Nat.lt_of_lt_of_le hs0 hbm.size
    replace BXx : Hid (w11.cell? ⟨w4.heap.size, 0, none⟩ = some (.int .i64 l0) ∧ w11.cell? ⟨w4.heap.size, 1, none⟩ = some (.int .i64 r0_) ∧ w11.cell? ⟨w4.heap.size, 2, none⟩ = some (.slice (some ⟨g0x, 0, none⟩) xs0.length xs0.length)) := ⟨(hbm.cell (p := ⟨w4.heap.size, 0, none⟩) (by simp; omega)).trans BXx.out.1, (hbm.cell (p := ⟨w4.heap.size, 1, none⟩) (by simp; omega)).trans BXx.out.2.1, (hbm.cell (p := ⟨w4.heap.size, 2, none⟩) (by simp; omega)).trans BXx.out.2.2⟩
    replace hsx : w4.heap.size < w11.heap.size := Nat.lt_of_lt_of_le hsx hbm.size
    replace B := B.trans (hbm.mono SB)
    replace C := C.trans (hbm.mono SC)
    have INM : Hid (M4.IntsAt w11 ai (M5.marks 1 L.length)) := M5.own_ints ownm
    clear OG ownm hbm SW
    go_wp2_with fail
    refine (heldIntS_any _ _ L.length 1 _ (by omega) (by omega) (by omega) INM.out).mono ?_
    rintro e w' ⟨rfl, rfl⟩
    obtain ⟨x00, x01, x02⟩ := BX0.out
    go_wp2_with fail
    clear x00 x01 x02
    refine (TP0.out _ (NR.RowsAt.below H0.out B)).mono ?_
    rintro e w12 ⟨g0y, AY, CY, rfl, ho, hb⟩
    replace B := B.trans (hb.mono B.size)
    replace BX0 : Hid (w12.cell? ⟨w.heap.size, 0, none⟩ = some (.int .i64 l0) ∧ w12.cell? ⟨w.heap.size, 1, none⟩ = some (.int .i64 r0_) ∧ w12.cell? ⟨w.heap.size, 2, none⟩ = some (.slice a0 xs0.length cap0)) := ⟨(hb.cell (p := ⟨w.heap.size, 0, none⟩) hs0).trans BX0.out.1, (hb.cell (p := ⟨w.heap.size, 1, none⟩) hs0).trans BX0.out.2.1, (hb.cell (p := ⟨w.heap.size, 2, none⟩) hs0).trans BX0.out.2.2⟩
    replace hs0 : w.heap.size < w12.heap.size := Nat.lt_of_lt_of_le hs0 hb.size
    replace BXx : Hid (w12.cell? ⟨w4.heap.size, 0, none⟩ = some (.int .i64 l0) ∧ w12.cell? ⟨w4.heap.size, 1, none⟩ = some (.int .i64 r0_) ∧ w12.cell? ⟨w4.heap.size, 2, none⟩ = some (.slice (some ⟨g0x, 0, none⟩) xs0.length xs0.length)) := ⟨(hb.cell (p := ⟨w4.heap.size, 0, none⟩) hsx).trans BXx.out.1, (hb.cell (p := ⟨w4.heap.size, 1, none⟩) hsx).trans BXx.out.2.1, (hb.cell (p := ⟨w4.heap.size, 2, none⟩) hsx).trans BXx.out.2.2⟩
    replace hsx : w4.heap.size < w12.heap.size := Nat.lt_of_lt_of_le hsx hb.size
    replace C := C.trans (hb.mono C.size)
    replace INM : Hid (M4.IntsAt w12 ai (M5.marks 1 L.length)) := M4.IntsAt.below INM.out hb
    clear hb
    have X0y : Hid (NR.RowsAt w12 (some ⟨g0y, 0, none⟩) xs0) := ho.rows
    clear ho
    go_wp2_with fail
    refine (IG.out g0y _ X0y.out).mono ?_
    rintro e w13 ⟨ay_, cy_, rfl, owny, hb⟩
    replace B := B.trans (hb.mono B.size)
    replace BX0 : Hid (w13.cell? ⟨w.heap.size, 0, none⟩ = some (.int .i64 l0) ∧ w13.cell? ⟨w.heap.size, 1, none⟩ = some (.int .i64 r0_) ∧ w13.cell? ⟨w.heap.size, 2, none⟩ = some (.slice a0 xs0.length cap0)) := ⟨(hb.cell (p := ⟨w.heap.size, 0, none⟩) hs0).trans BX0.out.1, (hb.cell (p := ⟨w.heap.size, 1, none⟩) hs0).trans BX0.out.2.1, (hb.cell (p := ⟨w.heap.size, 2, none⟩) hs0).trans BX0.out.2.2⟩
    replace hs0 : w.heap.size < w13.heap.size := Nat.lt_of_lt_of_le hs0 hb.size
    replace BXx : Hid (w13.cell? ⟨w4.heap.size, 0, none⟩ = some (.int .i64 l0) ∧ w13.cell? ⟨w4.heap.size, 1, none⟩ = some (.int .i64 r0_) ∧ w13.cell? ⟨w4.heap.size, 2, none⟩ = some (.slice (some ⟨g0x, 0, none⟩) xs0.length xs0.length)) := ⟨(hb.cell (p := ⟨w4.heap.size, 0, none⟩) hsx).trans BXx.out.1, (hb.cell (p := ⟨w4.heap.size, 1, none⟩) hsx).trans BXx.out.2.1, (hb.cell (p := ⟨w4.heap.size, 2, none⟩) hsx).trans BXx.out.2.2⟩
    replace hsx : w4.heap.size < w13.heap.size := Nat.lt_of_lt_of_le hsx hb.size
    replace C := C.trans (hb.mono C.size)
    replace INM : Hid (M4.IntsAt w13 ai (M5.marks 1 L.length)) := M4.IntsAt.below INM.out hb
    clear hb
    clear X0y IG
    have INY : Hid (M4.IntsAt w13 ay_ L) := M5.own_ints owny
    clear owny
    go_wp2_with fail
    refine (eqIntS_any _ _ _ _ L L _ (by omega) (by omega) (INY.out) (M4.IntsAt.below IN0.out C)).mono ?_
    rintro e w14 ⟨rfl, hb⟩
    replace B := B.trans (hb.mono B.size)
    replace BX0 : Hid (w14.cell? ⟨w.heap.size, 0, none⟩ = some (.int .i64 l0) ∧ w14.cell? ⟨w.heap.size, 1, none⟩ = some (.int .i64 r0_) ∧ w14.cell? ⟨w.heap.size, 2, none⟩ = some (.slice a0 xs0.length cap0)) := ⟨(hb.cell (p := ⟨w.heap.size, 0, none⟩) hs0).trans BX0.out.1, (hb.cell (p := ⟨w.heap.size, 1, none⟩) hs0).trans BX0.out.2.1, (hb.cell (p := ⟨w.heap.size, 2, none⟩) hs0).trans BX0.out.2.2⟩
    replace hs0 : w.heap.size < w14.heap.size := Nat.lt_of_lt_of_le hs0 hb.size
    replace BXx : Hid (w14.cell? ⟨w4.heap.size, 0, none⟩ = some (.int .i64 l0) ∧ w14.cell? ⟨w4.heap.size, 1, none⟩ = some (.int .i64 r0_) ∧ w14.cell? ⟨w4.heap.size, 2, none⟩ = some (.slice (some ⟨g0x, 0, none⟩) xs0.length xs0.length)) := ⟨(hb.cell (p := ⟨w4.heap.size, 0, none⟩) hsx).trans BXx.out.1, (hb.cell (p := ⟨w4.heap.size, 1, none⟩) hsx).trans BXx.out.2.1, (hb.cell (p := ⟨w4.heap.size, 2, none⟩) hsx).trans BXx.out.2.2⟩
    replace hsx : w4.heap.size < w14.heap.size := Nat.lt_of_lt_of_le hsx hb.size
    replace C := C.trans (hb.mono C.size)
    replace INM : Hid (M4.IntsAt w14 ai (M5.marks 1 L.length)) := M4.IntsAt.below INM.out hb
    replace INY : Hid (M4.IntsAt w14 ay_ L) := M4.IntsAt.below INY.out hb
    clear hb
    go_wp2_with fail
    refine (heldIntS_any _ _ L.length 1 _ (by omega) (by omega) (by omega) INM.out).mono ?_
    rintro e w' ⟨rfl, rfl⟩
    clear H0 TP0 EQ0
    go_wp2
    go_ret
    exact ⟨rfl, B⟩
end Go.Proofs.Ytlcdimiookaefab
