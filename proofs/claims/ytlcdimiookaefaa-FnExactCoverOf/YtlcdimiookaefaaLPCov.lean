/- The law FnExactCoverOf answers true, whatever the arguments. -/
import Derived.Test.YtlcdimiookaefaaLWPCov
import Derived.Test.YtlcdimiookaefaaCPairCovI
import Derived.Test.YtlcdimiookaefaaCPairCovS
namespace Go.Proofs.Ytlcdimiookaefaa
open Go.RowKit
theorem lawPCov_any (l r : Int) (a0 : Option Addr) (cap0 : Nat) (xs0 : List (List Int)) (w : World) (hl0 : xs0.length ≤ maxLen) (hi0 : NR.RowsAt w a0 xs0) :
    Calls Try.prog 7 #[PG.pv l r (.slice a0 xs0.length cap0)] w fun e w' => e = .returned (.bool true) ∧ Below w.heap.size w w' :=
  lawCoverOf_any l r a0 cap0 xs0 (PG.coA l r xs0) (by have := PG.coA_le l r xs0; omega) (PG.coB l r xs0) (by have := PG.coB_le l r xs0; omega) (PG.good l r xs0)
    (fun h1 h2 g W h => specCov_any l r (some ⟨g, 0, none⟩) _ xs0 W h1 h2 h _ _ _ rfl rfl rfl)
    (fun h1 h2 g W h => implCov_any l r (some ⟨g, 0, none⟩) _ xs0 W h1 h2 h _ _ _ rfl rfl rfl) w hl0 hi0
end Go.Proofs.Ytlcdimiookaefaa
