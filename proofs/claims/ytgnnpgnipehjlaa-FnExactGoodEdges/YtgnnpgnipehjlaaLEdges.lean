/- The law FnExactGoodEdges answers true, whatever the arguments. -/
import Derived.Test.YtgnnpgnipehjlaaLWGoodEdges
import Derived.Test.YtgnnpgnipehjlaaCEdges
namespace Go.Proofs.Ytgnnpgnipehjlaa
open Go.RowKit
theorem lawEdges_any (a : Option Addr) (cap : Nat) (xs : List I3) (w : World) (hl : xs.length ≤ maxLen) (hi : MI3.RowAt w a xs) :
    Calls Try.prog 3 #[.slice a xs.length cap] w fun e w' => e = .returned (.bool true) ∧ Below w.heap.size w w' :=
  lawGoodEdges_any a cap xs (EG.okP xs) (fun hz _ W hr => specGoodEdges_any _ _ xs W hz hr _ rfl) (fun hz _ W hr => implGoodEdges_any _ _ xs W hz hr _ rfl) w hl hi
end Go.Proofs.Ytgnnpgnipehjlaa
