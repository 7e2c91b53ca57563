/- The law FnExactHeadOf answers true at every major and number. -/
import Derived.Test.YtpcmbilhildkgaaRows
import Derived.Test.YtpcmbilhildkgaaCHeadOf
import Derived.WalkKit
import Derived.WalkSpells
import Derived.WalkLawsBesides
import Derived.Outline
namespace Go.Proofs.Ytpcmbilhildkgaa
open Go.RowKit
set_option maxHeartbeats 800000 in
set_option maxRecDepth 100000 in
theorem lawHeadOf_any (m n : Int) (w : World) : Calls Try.prog 8 #[.int .i64 m, .int .i64 n] w fun e w' => e = .returned (.bool true) ∧ Below w.heap.size w w' := by
  go_enter Try.func8, Try.ntmps8
  go_wp2_with fail
  refine (specHeadOf_any _ _ _).mono ?_
  rintro e w1 ⟨rfl, hb1⟩
  go_wp2_with fail
  refine (implHeadOf_any _ _ _).mono ?_
  rintro e w2 ⟨rfl, hb2⟩
  have hB := hb1.trans (hb2.mono hb1.size)
  clear hb1 hb2
  generalize headStr m n = X
  generalize okH m n = b
  go_wp2
  go_ret
  exact ⟨rfl, hB⟩
end Go.Proofs.Ytpcmbilhildkgaa
