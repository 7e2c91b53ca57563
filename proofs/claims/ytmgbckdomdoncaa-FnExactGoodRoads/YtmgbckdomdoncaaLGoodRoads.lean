/- The law FnExactGoodRoads answers true, whatever the arguments. -/
import Derived.Test.YtmgbckdomdoncaaLWGoodRoads
import Derived.Test.YtmgbckdomdoncaaCRoadsI
import Derived.Test.YtmgbckdomdoncaaCRoadsS
namespace Go.Proofs.Ytmgbckdomdoncaa
open Go.RowKit
theorem lawRoads_any (a : Option Addr) (cap : Nat) (xs : List I3) (w : World) (hl : xs.length ≤ maxLen) (hi : MI3.RowAt w a xs) :
    Calls Try.prog 3 #[.slice a xs.length cap] w fun e w' => e = .returned (.bool true) ∧ Below w.heap.size w w' :=
  lawGoodRoads_any a cap xs (RD.okP xs) (fun hz _ W hr => specGoodRoads_any _ _ xs W hz hr _ rfl) (fun hz _ W hr => implGoodRoads_any _ _ xs W hz hr _ rfl) w hl hi
end Go.Proofs.Ytmgbckdomdoncaa
