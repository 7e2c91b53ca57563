/- spec.l6Node. -/
import Derived.Test.YtpabhjnpbnabiaaRows
import Derived.Test.YtpabhjnpbnabiaaMFO
import Derived.Test.YtpabhjnpbnabiaaMRetB
import Derived.WalkKit
import Derived.WalkSpells
import Derived.WalkLawsBesides
import Derived.Outline
namespace Go.Proofs.Ytpabhjnpbnabiaa
open Go.RowKit
set_option maxHeartbeats 400000 in
set_option maxRecDepth 100000 in
theorem node8S_any (n : Int) (w : World) : Calls Try.prog 34 #[.int .i64 n] w fun e w' => e = .returned (.bool (FL.nodeOk n)) ∧ w = w' := by
  go_enter Try.func34, Try.ntmps34
  go_wp2
  all_goals go_ret
  all_goals refine ⟨retB7 ?_, rfl⟩
  all_goals (simp only [FL.nodeOk]; rw [Bool.eq_iff_iff]; simp only [decide_eq_true_eq, Bool.false_eq_true, false_iff] at *; omega)
end Go.Proofs.Ytpabhjnpbnabiaa
