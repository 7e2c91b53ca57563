/- The law FnExactRouteTo answers true, whatever the arguments. -/
import Derived.Test.YtfpdlgiijalbeaaLWRoute
import Derived.Test.YtfpdlgiijalbeaaCRouteI
namespace Go.Proofs.Ytfpdlgiijalbeaa
open Go.RowKit
theorem lawRoute_any (a : Option Addr) (cap : Nat) (xs : List I5) (f n t : Int) (w : World) (hl : xs.length ≤ maxLen) (hi : MI5.RowAt w a xs) :
    Calls Try.prog 6 #[.slice a xs.length cap, .int .i64 f, .int .i64 n, .int .i64 t] w fun e w' => e = .returned (.bool true) ∧ Below w.heap.size w w' :=
  lawRouteTo_any a cap xs f n t (PN.routeL xs f n t) (PN.routeL_len xs f n t) (PN.tellN (PN.routeM xs f n t)) (PN.tellB (PN.routeM xs f n t)) (fun hz _ W hr => specRoute_any _ _ xs f n t W hz hr) (fun hz _ W hr => implRoute_any _ _ xs f n t W hz hr) w hl hi
end Go.Proofs.Ytfpdlgiijalbeaa
