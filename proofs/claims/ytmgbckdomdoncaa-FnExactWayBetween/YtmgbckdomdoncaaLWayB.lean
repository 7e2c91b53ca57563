/- The law FnExactWayBetween answers true, whatever the arguments. -/
import Derived.Test.YtmgbckdomdoncaaLWWayB
import Derived.Test.YtmgbckdomdoncaaCRdX
import Derived.Test.YtmgbckdomdoncaaCRdSW
namespace Go.Proofs.Ytmgbckdomdoncaa
open Go.RowKit
theorem lawWay_any (a : Option Addr) (cap : Nat) (xs : List I3) (f t : Int) (w : World) (hl : xs.length ≤ maxLen) (hi : MI3.RowAt w a xs) :
    Calls Try.prog 7 #[.slice a xs.length cap, .int .i64 f, .int .i64 t] w fun e w' => e = .returned (.bool true) ∧ Below w.heap.size w w' :=
  lawWayBetween_any a cap xs f t (RD.wbL xs f t) (RD.wbL_len xs f t) (RD.wbO xs f t).isSome (fun hz _ W hr => specWay_any _ _ xs f t W hz hr _ rfl) (fun hz _ W hr => implWay_any _ _ xs f t W hz hr _ rfl) w hl hi
end Go.Proofs.Ytmgbckdomdoncaa
