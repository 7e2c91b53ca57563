/- The law FnExactMaxFlow answers true, whatever the arguments. -/
import Derived.Test.YtkciheanjcnkkaaLWMaxFlow
import Derived.Test.YtkciheanjcnkkaaCMaxI
import Derived.Test.YtkciheanjcnkkaaCMaxS
namespace Go.Proofs.Ytkciheanjcnkkaa
open Go.RowKit
theorem lawMax8_any (a : Option Addr) (cap : Nat) (xs : List I3) (f t : Int) (w : World) (hl : xs.length ≤ maxLen) (hi : MI3.RowAt w a xs) :
    Calls Try.prog 4 #[.slice a xs.length cap, .int .i64 f, .int .i64 t] w fun e w' => e = .returned (.bool true) ∧ Below w.heap.size w w' :=
  lawMaxFlow_any a cap xs f t (FL.mxL xs f t) (FL.mxL_len xs f t) (FL.mxN xs f t) (FL.ask xs f t) (fun hz _ W hr => specMaxFlow_any _ _ xs f t W hz hr) (fun hz _ W hr => implMaxFlow_any _ _ xs f t W hz hr) w hl hi
end Go.Proofs.Ytkciheanjcnkkaa
