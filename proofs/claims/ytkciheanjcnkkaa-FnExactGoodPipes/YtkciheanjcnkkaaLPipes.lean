/- The law FnExactGoodPipes answers true, whatever the arguments. -/
import Derived.Test.YtkciheanjcnkkaaLWGoodPipes
import Derived.Test.YtkciheanjcnkkaaCPipes
namespace Go.Proofs.Ytkciheanjcnkkaa
open Go.RowKit
theorem lawPipes_any (a : Option Addr) (cap : Nat) (xs : List I3) (w : World) (hl : xs.length ≤ maxLen) (hi : MI3.RowAt w a xs) :
    Calls Try.prog 3 #[.slice a xs.length cap] w fun e w' => e = .returned (.bool true) ∧ Below w.heap.size w w' :=
  lawGoodPipes_any a cap xs (FL.okP xs) (fun hz _ W hr => specGoodPipes_any _ _ xs W hz hr _ rfl) (fun hz _ W hr => implGoodPipes_any _ _ xs W hz hr _ rfl) w hl hi
end Go.Proofs.Ytkciheanjcnkkaa
