/- The law FnExactAreApart answers true, whatever the arguments. -/
import Derived.Test.YtndhmiknanepaaaRows
import Derived.Test.YtndhmiknanepaaaCToNest
import Derived.Test.YtndhmiknanepaaaCNestE
import Derived.Test.YtndhmiknanepaaaCApart9
import Derived.WalkKit
import Derived.WalkSpells
import Derived.WalkLawsBesides
import Derived.Outline
import Derived.Deep.RegionWith
namespace Go.Proofs.Ytndhmiknanepaaa
open Go.RowKit
set_option linter.unusedSimpArgs false in
set_option maxHeartbeats 3200000 in
set_option maxRecDepth 100000 in
theorem lawApart9_any (a0 : Option Addr) (cap0 : Nat) (ws : List (List Int)) (w : World) (hl0 : ws.length ≤ maxLen) (hi0 : NR.RowsAt w a0 ws) :
    Calls Try.prog 6 #[.slice a0 ws.length cap0] w fun e w' => e = .returned (.bool true) ∧ Below w.heap.size w w' := by
  have H0 : Hid (NR.RowsAt w a0 ws) := hi0
  have SG1 : Hid (ws.length ≤ 1048576 → NR.tot ws ≤ 1048576 → ∀ (g0 : Nat) (W : World), NR.RowsAt W (some ⟨g0, 0, none⟩) ws → Calls Try.prog 22 #[.slice (some ⟨g0, 0, none⟩) ws.length ws.length] W fun e w' => e = .returned (.tuple #[.bool (NR.apB ws), .bool (NR.apOk ws)]) ∧ Below W.heap.size W w') := fun h1 h2 g W h => specApart_any _ _ ws W h1 h2 h
  have IG1 : Hid (ws.length ≤ 1048576 → NR.tot ws ≤ 1048576 → ∀ (g0 : Nat) (W : World), NR.RowsAt W (some ⟨g0, 0, none⟩) ws → Calls Try.prog 24 #[.slice (some ⟨g0, 0, none⟩) ws.length ws.length] W fun e w' => e = .returned (.tuple #[.bool (NR.apB ws), .bool (NR.apOk ws)]) ∧ Below W.heap.size W w') := fun h1 h2 g W h => implApart_any _ _ ws W h1 h2 h
  have SZ0 : Hid _ := szIntSS_any a0 cap0 ws w 1048576 (by omega) (by omega) hl0 hi0
  generalize NR.apB ws = r0 at *
  generalize NR.apOk ws = r1 at *
  clear hl0 hi0
  go_enter Try.func6, Try.ntmps6
  go_wp2_with fail
  refine Calls.mono SZ0.out ?_
  rintro e w1 ⟨l0, rfl, hr0, rfl⟩
  clear SZ0
  by_cases h0 : l0 < 0
  · clear hr0
    go_wp2
    go_ret
    exact ⟨rfl, Below.refl _ _⟩
  · have hz0 : ws.length ≤ 1048576 := by omega
    have ht0 : NR.tot ws ≤ 1048576 := by omega
    have hl00 : 0 ≤ l0 := by omega
    have hl01 : l0 ≤ 1048576 := by omega
    clear hr0
    have SG : Hid _ := SG1.out hz0 ht0
    have IG : Hid _ := IG1.out hz0 ht0
    clear SG1 IG1
    have TP0 : Hid _ := fun W h => toIntSS_own a0 cap0 ws W hz0 ht0 h
    have EQ0 : Hid _ := fun g g2 W h1 h2 => eqIntSS_any (some ⟨g, 0, none⟩) (some ⟨g2, 0, none⟩) ws.length ws.length ws ws W hz0 hz0 ht0 ht0 h1 h2
    have B : Below w.heap.size w w := Below.refl _ _
    go_wp2_with fail
    refine (TP0.out _ (NR.RowsAt.below H0.out B)).mono ?_
    rintro e w2 ⟨g0s, AS, CS, rfl, ho, hb⟩
    replace B := B.trans (hb.mono B.size)
    clear hb
    have X0s : Hid (NR.RowsAt w2 (some ⟨g0s, 0, none⟩) ws) := ho.rows
    clear ho
    go_wp2_with fail
    refine (SG.out g0s _ X0s.out).mono ?_
    rintro e w3 ⟨rfl, hb⟩
    replace B := B.trans (hb.mono B.size)
    clear hb
    clear X0s SG
    go_wp2_with fail
    refine (TP0.out _ (NR.RowsAt.below H0.out B)).mono ?_
    rintro e w4 ⟨g0x, AX, CX, rfl, ho, hb⟩
    replace B := B.trans (hb.mono B.size)
    clear hb
    have X0x : Hid (NR.RowsAt w4 (some ⟨g0x, 0, none⟩) ws) := ho.rows
    clear ho
    go_wp2_with fail
    refine (IG.out g0x _ X0x.out).mono ?_
    rintro e w5 ⟨rfl, hb⟩
    replace B := B.trans (hb.mono B.size)
    replace X0x : Hid (NR.RowsAt w5 (some ⟨g0x, 0, none⟩) ws) := NR.RowsAt.below X0x.out hb
    clear hb
    go_wp2_with fail
    refine (TP0.out _ (NR.RowsAt.below H0.out B)).mono ?_
    rintro e w6 ⟨gq0, AQ, CQ, rfl, ho, hb⟩
    replace B := B.trans (hb.mono B.size)
    replace X0x : Hid (NR.RowsAt w6 (some ⟨g0x, 0, none⟩) ws) := NR.RowsAt.below X0x.out hb
    clear hb
    have XQ : Hid (NR.RowsAt w6 (some ⟨gq0, 0, none⟩) ws) := ho.rows
    clear ho
    go_wp2_with fail
    refine (EQ0.out g0x gq0 _ X0x.out XQ.out).mono ?_
    rintro e w7 ⟨rfl, hb⟩
    replace B := B.trans (hb.mono B.size)
    clear hb XQ X0x
    clear H0 TP0 EQ0
    go_wp2
    go_ret
    exact ⟨rfl, B⟩
end Go.Proofs.Ytndhmiknanepaaa
