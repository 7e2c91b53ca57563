/- The law FnExactCostFrom answers true, whatever the arguments. -/
import Derived.Test.YtmgbckdomdoncaaLWCostFrom
import Derived.Test.YtmgbckdomdoncaaCRd5
import Derived.Test.YtmgbckdomdoncaaCRdS2
namespace Go.Proofs.Ytmgbckdomdoncaa
open Go.RowKit
theorem lawFrom_any (a : Option Addr) (cap : Nat) (xs : List I3) (f : Int) (w : World) (hl : xs.length ≤ maxLen) (hi : MI3.RowAt w a xs) :
    Calls Try.prog 6 #[.slice a xs.length cap, .int .i64 f] w fun e w' => e = .returned (.bool true) ∧ Below w.heap.size w w' :=
  lawCostFrom_any a cap xs f (RD.cfL xs f) (RD.cfL_len xs f) (RD.may xs f) (fun hz _ W hr => specFrom_any _ _ xs f W hz hr _ rfl _ rfl) (fun hz _ W hr => implFrom_any _ _ xs f W hz hr _ rfl _ rfl) w hl hi
end Go.Proofs.Ytmgbckdomdoncaa
