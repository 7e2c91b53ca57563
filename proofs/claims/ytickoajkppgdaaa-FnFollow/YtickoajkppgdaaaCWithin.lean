/- impl.isWithin. -/
import Derived.Test.YtickoajkppgdaaaRows
import Derived.Test.YtickoajkppgdaaaCPlan
import Derived.WalkKit
import Derived.WalkSpells
import Derived.WalkLawsBesides
import Derived.Outline
namespace Go.Proofs.Ytickoajkppgdaaa
open Go.RowKit
set_option maxHeartbeats 400000 in
set_option maxRecDepth 100000 in
theorem within_any (n lo hi : Int) (w : World) : Calls Try.prog 40 #[.int .i64 n, .int .i64 lo, .int .i64 hi] w fun e w' => e = .returned (.bool (decide (lo ≤ n ∧ n ≤ hi))) ∧ w = w' := by
  by_cases h1 : lo ≤ n
  · go_enter Try.func40, Try.ntmps40
    go_wp2
    go_ret
    exact ⟨retB6 (by simp [h1]), rfl⟩
  · go_enter Try.func40, Try.ntmps40
    go_wp2
    go_ret
    exact ⟨retB6 (by rw [decide_eq_false (by omega : ¬ lo ≤ n)]; rfl), rfl⟩
end Go.Proofs.Ytickoajkppgdaaa
