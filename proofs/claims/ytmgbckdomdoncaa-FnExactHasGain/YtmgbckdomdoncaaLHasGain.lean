/- The law FnExactHasGain answers true, whatever the arguments. -/
import Derived.Test.YtmgbckdomdoncaaLWHasGain
import Derived.Test.YtmgbckdomdoncaaCRd4
import Derived.Test.YtmgbckdomdoncaaCRdS2
namespace Go.Proofs.Ytmgbckdomdoncaa
open Go.RowKit
theorem lawGain_any (a : Option Addr) (cap : Nat) (xs : List I3) (w : World) (hl : xs.length ≤ maxLen) (hi : MI3.RowAt w a xs) :
    Calls Try.prog 5 #[.slice a xs.length cap] w fun e w' => e = .returned (.bool true) ∧ Below w.heap.size w w' :=
  lawHasGain_any a cap xs (RD.okP xs && !RD.calm xs) (RD.okP xs) (fun hz _ W hr => hasGainS_any _ _ xs W hz hr _ rfl _ (fun _ => rfl)) (fun hz _ W hr => hasGainI_any _ _ xs W hz hr _ rfl _ (fun _ => rfl)) w hl hi
end Go.Proofs.Ytmgbckdomdoncaa
