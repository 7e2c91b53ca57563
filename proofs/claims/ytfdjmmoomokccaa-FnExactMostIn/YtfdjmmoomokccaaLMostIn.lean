/- The law FnExactMostIn answers true at every argument. -/
import Derived.Test.YtfdjmmoomokccaaRows
import Derived.Test.YtfdjmmoomokccaaCMostI
import Derived.WalkKit
import Derived.WalkSpells
import Derived.WalkLawsBesides
import Derived.Outline
namespace Go.Proofs.Ytfdjmmoomokccaa
open Go.RowKit
set_option maxHeartbeats 800000 in
set_option maxRecDepth 100000 in
theorem lawMostIn_any (p u n : Int) (w : World) : Calls Try.prog 7 #[.int .i64 p, .int .i64 u, .int .i64 n] w fun e w' => e = .returned (.bool true) ∧ Below w.heap.size w w' := by
  have SG : Hid (∀ W : World, Calls Try.prog 20 #[.int .i64 p, .int .i64 u, .int .i64 n] W fun e w' => e = .returned (.tuple #[.int .i64 (BK.mostI p u n), .bool (BK.okS p u && BK.okT n)]) ∧ W = w') := fun W => mostS_any p u n W
  have IG : Hid (∀ W : World, Calls Try.prog 21 #[.int .i64 p, .int .i64 u, .int .i64 n] W fun e w' => e = .returned (.tuple #[.int .i64 (BK.mostI p u n), .bool (BK.okS p u && BK.okT n)]) ∧ W = w') := fun W => mostI_any p u n W
  generalize (BK.okS p u && BK.okT n) = q at *
  generalize BK.mostI p u n = x at *
  go_enter Try.func7, Try.ntmps7
  go_wp2_with fail
  refine Calls.mono (SG.out _) ?_
  rintro e w1 ⟨rfl, rfl⟩
  go_wp2_with fail
  refine Calls.mono (IG.out _) ?_
  rintro e w2 ⟨rfl, rfl⟩
  clear SG IG
  cases q
  all_goals (go_wp2; go_ret; exact ⟨rfl, Below.refl _ _⟩)
end Go.Proofs.Ytfdjmmoomokccaa
