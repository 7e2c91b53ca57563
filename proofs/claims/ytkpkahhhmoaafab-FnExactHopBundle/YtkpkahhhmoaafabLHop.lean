/- The law FnExactHopBundle answers true at every bundle. -/
import Derived.Test.YtkpkahhhmoaafabRows
import Derived.Test.YtkpkahhhmoaafabCHop
import Derived.Test.YtkpkahhhmoaafabCEqBundle
import Derived.Test.YtkpkahhhmoaafabCBundleLaw
import Derived.WalkKit
import Derived.WalkSpells
import Derived.WalkLawsBesides
import Derived.Outline
namespace Go.Proofs.Ytkpkahhhmoaafab
open Go.RowKit
set_option maxHeartbeats 800000 in
set_option maxRecDepth 100000 in
theorem lawHop_any (b : Bd) (w : World) (hs : b.py.size ≤ maxLen) :
    Calls Try.prog 4 #[b.v] w fun e w' => e = .returned (.bool true) ∧ Below w.heap.size w w' := by
  have SZ : Hid _ := fun W => szBundle_any b 1048576 W hs (by omega)
  have TB : Hid _ := fun W => toBundle_any b W
  obtain ⟨O1, hO1⟩ : ∃ R, B1.hop b = R := ⟨_, rfl⟩
  obtain ⟨O2, hO2⟩ : ∃ R, B1.hopOk b = R := ⟨_, rfl⟩
  have EQ : Hid _ := fun W => eqBundle_self O1 W
  have SG : Hid (∀ W : World, b.py.size ≤ 1048576 → Calls Try.prog 9 #[b.v] W fun e w' => e = .returned (.tuple #[O1.v, .bool O2]) ∧ Below W.heap.size W w') := fun W h => by have := specHop_any b W h; rwa [hO1, hO2] at this
  have IG : Hid (∀ W : World, b.py.size ≤ 1048576 → Calls Try.prog 10 #[b.v] W fun e w' => e = .returned (.tuple #[O1.v, .bool O2]) ∧ Below W.heap.size W w') := fun W h => by have := implHop_any b W h; rwa [hO1, hO2] at this
  clear hO1 hO2 hs
  have hA : BdAt _ _ b := BdAt.box w b 23
  have hB : Below w.heap.size w _ := (Below.refl _ w).alloc (Nat.le_refl _) (.cells #[.int .i64 b.fr, .int .i64 b.to, .bool b.gr, .int .i64 b.md, .int .i64 b.no, .int .i64 b.lf, .int .i64 b.hp, .int .i64 b.of, .int .i64 b.tl, .string b.py] 23)
  obtain ⟨fr, to, gr, md, no, lf, hp, of, tl, py⟩ := b
  go_enter Try.func4, Try.ntmps4
  go_wp2_with fail
  refine Calls.mono (SZ.out _) ?_
  rintro e w1 ⟨⟨r, rfl, hr⟩, hb1⟩
  have hA1 := hA.below hb1 hA.1
  have hB1 := hB.trans (hb1.mono hB.size)
  clear SZ hb1 hA hB
  rcases hr with hr | ⟨hr1, hr2⟩
  · clear TB SG IG hA1
    go_wp2
    go_ret
    exact ⟨rfl, hB1⟩
  · have hpy : py.size ≤ 1048576 := by omega
    clear hr1
    obtain ⟨hlt, q0, q1, q2, q3, q4, q5, q6, q7, q8, q9⟩ := id hA1
    go_wp2_with fail
    refine Calls.mono (TB.out _) ?_
    rintro e w2 ⟨rfl, hb2⟩
    have hA2 := hA1.below hb2 hA1.1
    have hB2 := hB1.trans (hb2.mono hB1.size)
    clear hb2 hA1 hB1 hlt q0 q1 q2 q3 q4 q5 q6 q7 q8 q9
    go_wp2_with fail
    refine Calls.mono (SG.out _ hpy) ?_
    rintro e w3 ⟨rfl, hb3⟩
    have hA3 := hA2.below hb3 hA2.1
    have hB3 := hB2.trans (hb3.mono hB2.size)
    have hx3 : Below w3.heap.size w3 _ := (Below.refl _ w3).alloc (Nat.le_refl _) (.cells #[.int .i64 O1.fr, .int .i64 O1.to, .bool O1.gr, .int .i64 O1.md, .int .i64 O1.no, .int .i64 O1.lf, .int .i64 O1.hp, .int .i64 O1.of, .int .i64 O1.tl, .string O1.py] 27)
    have hB3a := hB3.trans (hx3.mono hB3.size)
    have hA3a := hA3.below hx3 hA3.1
    have hW3 : BdAt _ _ O1 := BdAt.box w3 O1 27
    clear SG hb3 hA2 hB2 hA3 hB3 hx3
    obtain ⟨hlt, q0, q1, q2, q3, q4, q5, q6, q7, q8, q9⟩ := id hA3a
    go_wp2_with fail
    refine Calls.mono (TB.out _) ?_
    rintro e w4 ⟨rfl, hb4⟩
    have hB4 := hB3a.trans (hb4.mono hB3a.size)
    have hW4 := hW3.below hb4 hW3.1
    clear TB hb4 hA3a hB3a hlt q0 q1 q2 q3 q4 q5 q6 q7 q8 q9 hW3
    go_wp2_with fail
    refine Calls.mono (IG.out _ hpy) ?_
    rintro e w5 ⟨rfl, hb5⟩
    have hB5 := hB4.trans (hb5.mono hB4.size)
    have hW5 := hW4.below hb5 hW4.1
    have hx5 : Below w5.heap.size w5 _ := (Below.refl _ w5).alloc (Nat.le_refl _) (.cells #[.int .i64 O1.fr, .int .i64 O1.to, .bool O1.gr, .int .i64 O1.md, .int .i64 O1.no, .int .i64 O1.lf, .int .i64 O1.hp, .int .i64 O1.of, .int .i64 O1.tl, .string O1.py] 27)
    have hB5a := hB5.trans (hx5.mono hB5.size)
    have hW5a := hW5.below hx5 hW5.1
    clear IG hb5 hB4 hW4 hW5 hB5 hx5
    obtain ⟨hlt, q0, q1, q2, q3, q4, q5, q6, q7, q8, q9⟩ := id hW5a
    go_wp2_with fail
    refine Calls.mono (EQ.out _) ?_
    rintro e w6 ⟨rfl, hb6⟩
    have hB6 := hB5a.trans (hb6.mono hB5a.size)
    clear EQ hb6 hB5a hW5a hlt q0 q1 q2 q3 q4 q5 q6 q7 q8 q9
    go_wp2
    go_ret
    exact ⟨rfl, hB6⟩
end Go.Proofs.Ytkpkahhhmoaafab
