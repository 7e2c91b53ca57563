/- Which Pace, Burst and times there may be: the program's functions and the specification's. -/
import Derived.Test.YteedppngiknjlaaDoorRows
import Derived.Test.YteedppngiknjlaaDoorMBK
import Derived.WalkKit
import Derived.WalkSpells
import Derived.WalkLawsBesides
import Derived.Outline
namespace Go.Proofs.YteedppngiknjlaaDoor
open Go.RowKit
set_option linter.unusedSimpArgs false in
set_option maxHeartbeats 400000 in
set_option maxRecDepth 100000 in
theorem sizesS_any (p u : Int) (w : World) : Calls Tryd.prog 39 #[.int .i64 p, .int .i64 u] w fun e w' => e = .returned (.bool (BK.okS p u)) ∧ w = w' := by
  go_enter Tryd.func39, Tryd.ntmps39
  go_wp2
  all_goals go_ret
  all_goals refine ⟨retB13 ?_, rfl⟩
  all_goals (simp only [BK.okS]; rw [Bool.eq_iff_iff]; simp only [Bool.and_eq_true, decide_eq_true_eq, Bool.false_eq_true, false_iff] at *; omega)
set_option linter.unusedSimpArgs false in
set_option maxHeartbeats 400000 in
set_option maxRecDepth 100000 in
theorem sizesI_any (p u : Int) (w : World) : Calls Tryd.prog 28 #[.int .i64 p, .int .i64 u] w fun e w' => e = .returned (.bool (BK.okS p u)) ∧ w = w' := by
  go_enter Tryd.func28, Tryd.ntmps28
  go_wp2
  all_goals go_ret
  all_goals refine ⟨retB13 ?_, rfl⟩
  all_goals (simp only [BK.okS]; rw [Bool.eq_iff_iff]; simp only [Bool.and_eq_true, decide_eq_true_eq, Bool.false_eq_true, false_iff] at *; omega)
end Go.Proofs.YteedppngiknjlaaDoor
