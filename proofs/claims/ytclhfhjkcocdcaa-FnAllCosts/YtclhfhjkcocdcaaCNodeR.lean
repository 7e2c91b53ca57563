/- Which nodes there are: spec.l6Node, impl.isPlanNode. -/
import Derived.Test.YtclhfhjkcocdcaaRows
import Derived.Test.YtclhfhjkcocdcaaMRetB
import Derived.WalkKit
import Derived.WalkSpells
import Derived.WalkLawsBesides
import Derived.Outline
namespace Go.Proofs.Ytclhfhjkcocdcaa
open Go.RowKit
namespace RD
def nodeOk (n : Int) : Bool := decide (0 ≤ n ∧ n ≤ 7)
theorem node_yes {n : Int} (h : nodeOk n = true) : 0 ≤ n ∧ n ≤ 7 := by simpa only [nodeOk, decide_eq_true_eq] using h
end RD
set_option maxHeartbeats 400000 in
set_option maxRecDepth 100000 in
theorem nodeRS_any (n : Int) (w : World) : Calls Try.prog 36 #[.int .i64 n] w fun e w' => e = .returned (.bool (RD.nodeOk n)) ∧ w = w' := by
  go_enter Try.func36, Try.ntmps36
  go_wp2
  all_goals go_ret
  all_goals refine ⟨retB7 ?_, rfl⟩
  all_goals (simp only [RD.nodeOk]; rw [Bool.eq_iff_iff]; simp only [decide_eq_true_eq, Bool.false_eq_true, false_iff] at *; omega)
set_option maxHeartbeats 400000 in
set_option maxRecDepth 100000 in
theorem nodeRI_any (n : Int) (w : World) : Calls Try.prog 32 #[.int .i64 n] w fun e w' => e = .returned (.bool (RD.nodeOk n)) ∧ w = w' := by
  go_enter Try.func32, Try.ntmps32
  go_wp2
  all_goals go_ret
  all_goals refine ⟨retB7 ?_, rfl⟩
  all_goals (simp only [RD.nodeOk]; rw [Bool.eq_iff_iff]; simp only [decide_eq_true_eq, Bool.false_eq_true, false_iff] at *; omega)
end Go.Proofs.Ytclhfhjkcocdcaa
