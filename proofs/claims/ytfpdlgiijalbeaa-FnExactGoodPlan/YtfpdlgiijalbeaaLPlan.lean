/- The law FnExactGoodPlan answers true at every plan. -/
import Derived.Test.YtfpdlgiijalbeaaRows
import Derived.Test.YtfpdlgiijalbeaaCPlan
import Derived.Test.YtfpdlgiijalbeaaCToContact
import Derived.Test.YtfpdlgiijalbeaaCEqContact
import Derived.WalkKit
import Derived.WalkSpells
import Derived.WalkLawsBesides
import Derived.Outline
import Derived.Deep.RegionWith
namespace Go.Proofs.Ytfpdlgiijalbeaa
open Go.RowKit
set_option maxHeartbeats 1600000 in
set_option maxRecDepth 100000 in
theorem lawPlan_any (a : Option Addr) (cap : Nat) (xs : List I5) (w : World) (hn : xs.length ≤ maxLen) (hin : MI5.RowAt w a xs) :
    Calls Try.prog 3 #[.slice a xs.length cap] w fun e w' => e = .returned (.bool true) ∧ Below w.heap.size w w' := by
  have SZ : Hid _ := fun W => szContactS_any a cap xs.length W 1048576 (by omega) (by omega) hn
  have HI : Hid _ := hin
  clear hin hn
  go_enter Try.func3, Try.ntmps3
  go_wp2_with fail
  refine (SZ.out _).mono ?_
  rintro e w1 ⟨r, rfl, hr, rfl⟩
  clear SZ
  by_cases h0 : r < 0
  · clear hr
    go_wp2
    go_ret
    exact ⟨rfl, Below.refl _ _⟩
  · have hn : xs.length ≤ 1048576 := by omega
    clear hr
    have TP : Hid _ := fun W h => toContactS_any a cap xs W hn h
    have SG : Hid _ := fun g W h => specGoodPlan_any (some ⟨g, 0, none⟩) xs.length xs W hn h _ rfl
    have IG : Hid _ := fun g W h => implGoodPlan_any (some ⟨g, 0, none⟩) xs.length xs W hn h _ rfl
    have EQ : Hid _ := fun g g2 W h1 h2 => eqContactS_any (some ⟨g, 0, none⟩) (some ⟨g2, 0, none⟩) xs.length xs.length xs xs W hn hn h1 h2
    go_wp2_with fail
    refine (TP.out _ HI.out).mono ?_
    rintro e w2 ⟨g, rfl, ho, hB2⟩
    have hX2 : Hid _ := MI5.RowAt.of_own ho
    have hR2 : Hid _ := HI.out.below hB2
    clear ho
    go_wp2_with fail
    refine (SG.out g _ hX2.out).mono ?_
    rintro e w3 ⟨rfl, hb3⟩
    have hB3 := hB2.trans (hb3.mono hB2.size)
    have hR3 : Hid _ := hR2.out.below hb3
    clear hb3 hB2 hR2 hX2 SG HI
    generalize PN.okP xs = R at *
    go_wp2_with fail
    refine (TP.out _ hR3.out).mono ?_
    rintro e w4 ⟨g2, rfl, ho, hb4⟩
    have hB4 := hB3.trans (hb4.mono hB3.size)
    have hX4 : Hid _ := MI5.RowAt.of_own ho
    have hR4 : Hid _ := hR3.out.below hb4
    clear ho hb4 hB3 hR3
    go_wp2_with fail
    refine (IG.out g2 _ hX4.out).mono ?_
    rintro e w5 ⟨rfl, hb5⟩
    have hB5 := hB4.trans (hb5.mono hB4.size)
    have hX5 : Hid _ := hX4.out.below hb5
    have hR5 : Hid _ := hR4.out.below hb5
    clear hb5 hB4 hR4 hX4 IG
    go_wp2_with fail
    refine (TP.out _ hR5.out).mono ?_
    rintro e w6 ⟨g3, rfl, ho, hb6⟩
    have hB6 := hB5.trans (hb6.mono hB5.size)
    have hY6 : Hid _ := MI5.RowAt.of_own ho
    have hX6 : Hid _ := hX5.out.below hb6
    clear ho hb6 hB5 hR5 hX5 TP
    go_wp2_with fail
    refine (EQ.out g2 g3 _ hX6.out hY6.out).mono ?_
    rintro e w7 ⟨rfl, hb7⟩
    have hB7 := hB6.trans (hb7.mono hB6.size)
    clear hb7 hB6 EQ hX6 hY6
    go_wp2
    go_ret
    exact ⟨rfl, hB7⟩
end Go.Proofs.Ytfpdlgiijalbeaa
