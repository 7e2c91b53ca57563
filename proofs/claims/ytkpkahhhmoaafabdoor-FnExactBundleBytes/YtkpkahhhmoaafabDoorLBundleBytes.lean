/- The law FnExactBundleBytes answers true at every bundle, where impl.crcTable is as its text lays it. -/
import Derived.Test.YtkpkahhhmoaafabDoorRows
import Derived.Test.YtkpkahhhmoaafabDoorCBundleBytes
import Derived.Test.YtkpkahhhmoaafabDoorCBundleLaw
import Derived.WalkKit
import Derived.WalkSpells
import Derived.WalkLawsBesides
import Derived.Outline
namespace Go.Proofs.YtkpkahhhmoaafabDoor
open Go.RowKit
set_option maxHeartbeats 800000 in
set_option maxRecDepth 100000 in
theorem lawBundleBytes_any (b : Bd) (w : World) (hs : b.py.size ≤ maxLen) (hT : Tab w) :
    Calls Tryd.prog 3 #[b.v] w fun e w' => e = .returned (.bool true) ∧ Below w.heap.size w w' := by
  have SZ : Hid _ := fun W => szBundle_any b 1048576 W hs (by omega)
  have TB : Hid _ := fun W => toBundle_any b W
  obtain ⟨O1, hO1⟩ : ∃ R, bbR b = R := ⟨_, rfl⟩
  obtain ⟨O2, hO2⟩ : ∃ R, B1.good b = R := ⟨_, rfl⟩
  have HT : Hid (∀ W : World, Below w.heap.size w W → Tab W) := fun W hb => hT.below hb
  clear hT
  have SG : Hid (∀ W : World, b.py.size ≤ 1048576 → Calls Tryd.prog 8 #[b.v] W fun e w' => e = .returned (.tuple #[.string O1, .bool O2]) ∧ Below W.heap.size W w') := fun W h => by have := specBundleBytes_any b W h; rwa [hO1, hO2] at this
  have IG : Hid (∀ (W : World) (_ : Tab W), b.py.size ≤ 1048576 → Calls Tryd.prog 10 #[b.v] W fun e w' => e = .returned (.tuple #[.string O1, .bool O2]) ∧ Below W.heap.size W w') := fun W hT h => by have := implBundleBytes_any b W h hT; rwa [hO1, hO2] at this
  clear hO1 hO2 hs
  have hA : BdAt _ _ b := BdAt.box w b 23
  have hB : Below w.heap.size w _ := (Below.refl _ w).alloc (Nat.le_refl _) (.cells #[.int .i64 b.fr, .int .i64 b.to, .bool b.gr, .int .i64 b.md, .int .i64 b.no, .int .i64 b.lf, .int .i64 b.hp, .int .i64 b.of, .int .i64 b.tl, .string b.py] 23)
  obtain ⟨fr, to, gr, md, no, lf, hp, of, tl, py⟩ := b
  go_enter Tryd.func3, Tryd.ntmps3
  go_wp2_with fail
  refine Calls.mono (SZ.out _) ?_
  rintro e w1 ⟨⟨r, rfl, hr⟩, hb1⟩
  have hA1 := hA.below hb1 hA.1
  have hB1 := hB.trans (hb1.mono hB.size)
  clear SZ hb1 hA hB
  rcases hr with hr | ⟨hr1, hr2⟩
  · clear TB SG IG hA1
    go_wp2
    go_ret
    exact ⟨rfl, hB1⟩
  · have hpy : py.size ≤ 1048576 := by omega
    clear hr1
    obtain ⟨hlt, q0, q1, q2, q3, q4, q5, q6, q7, q8, q9⟩ := id hA1
    go_wp2_with fail
    refine Calls.mono (TB.out _) ?_
    rintro e w2 ⟨rfl, hb2⟩
    have hA2 := hA1.below hb2 hA1.1
    have hB2 := hB1.trans (hb2.mono hB1.size)
    clear hb2 hA1 hB1 hlt q0 q1 q2 q3 q4 q5 q6 q7 q8 q9
    go_wp2_with fail
    refine Calls.mono (SG.out _ hpy) ?_
    rintro e w3 ⟨rfl, hb3⟩
    have hA3 := hA2.below hb3 hA2.1
    have hB3 := hB2.trans (hb3.mono hB2.size)
    clear SG hb3 hA2 hB2
    obtain ⟨hlt, q0, q1, q2, q3, q4, q5, q6, q7, q8, q9⟩ := id hA3
    go_wp2_with fail
    refine Calls.mono (TB.out _) ?_
    rintro e w4 ⟨rfl, hb4⟩
    have hB4 := hB3.trans (hb4.mono hB3.size)
    clear TB hb4 hA3 hB3 hlt q0 q1 q2 q3 q4 q5 q6 q7 q8 q9
    go_wp2_with fail
    refine Calls.mono (IG.out _ (HT.out _ hB4) hpy) ?_
    rintro e w5 ⟨rfl, hb5⟩
    have hB5 := hB4.trans (hb5.mono hB4.size)
    clear IG hb5 hB4
    go_wp2
    go_ret
    exact ⟨rfl, hB5⟩
end Go.Proofs.YtkpkahhhmoaafabDoor
