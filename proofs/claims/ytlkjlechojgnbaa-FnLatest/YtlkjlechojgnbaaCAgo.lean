/- impl.longAgo. -/
import Derived.Test.YtlkjlechojgnbaaRows
import Derived.Test.YtlkjlechojgnbaaCFloat
import Derived.WalkKit
import Derived.WalkSpells
import Derived.WalkLawsBesides
import Derived.Outline
namespace Go.Proofs.Ytlkjlechojgnbaa
open Go.RowKit
set_option maxHeartbeats 400000 in
set_option maxRecDepth 100000 in
theorem longAgo_any (w : World) : Calls Try.prog 53 #[] w fun e w' => e = .returned (.float .f64 FL.Mo.ago.b) ∧ w = w' := by
  have FB := Try.fromBits
  go_enter Try.func53, Try.ntmps53
  go_wp2
  go_ret
  exact ⟨rfl, rfl⟩
end Go.Proofs.Ytlkjlechojgnbaa
