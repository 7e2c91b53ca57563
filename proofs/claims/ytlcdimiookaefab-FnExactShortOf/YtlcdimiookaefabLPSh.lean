/- The law FnExactShortOf answers true, whatever the arguments. -/
import Derived.Test.YtlcdimiookaefabLWPSh
import Derived.Test.YtlcdimiookaefabCPairShI
import Derived.Test.YtlcdimiookaefabCPairShS
namespace Go.Proofs.Ytlcdimiookaefab
open Go.RowKit
theorem lawPSh_any (l r : Int) (a0 : Option Addr) (cap0 : Nat) (xs0 : List (List Int)) (w : World) (hl0 : xs0.length ≤ maxLen) (hi0 : NR.RowsAt w a0 xs0) :
    Calls Try.prog 3 #[PG.pv l r (.slice a0 xs0.length cap0)] w fun e w' => e = .returned (.bool true) ∧ Below w.heap.size w w' :=
  lawShortOf_any l r a0 cap0 xs0 (PG.shL l r xs0) (by have := PG.shL_le l r xs0; omega) (decide (0 < (PG.shL l r xs0).length))
    (fun h1 h2 g W h => specSh_any l r (some ⟨g, 0, none⟩) _ xs0 W h1 h2 h _ rfl)
    (fun h1 h2 g W h => implSh_any l r (some ⟨g, 0, none⟩) _ xs0 W h1 h2 h _ rfl) w hl0 hi0
end Go.Proofs.Ytlcdimiookaefab
