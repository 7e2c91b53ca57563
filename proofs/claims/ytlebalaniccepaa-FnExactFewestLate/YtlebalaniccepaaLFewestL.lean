/- The law FnExactFewestLate answers true, whatever the arguments. -/
import Derived.Test.YtlebalaniccepaaLWFewestLate
import Derived.Test.YtlebalaniccepaaCMostI
import Derived.Test.YtlebalaniccepaaCMostS
namespace Go.Proofs.Ytlebalaniccepaa
open Go.RowKit
theorem lawFewestLateE_any (a : Option Addr) (cap : Nat) (xs : List I2) (w : World) (hl : xs.length ≤ maxLen) (hi : MI2.RowAt w a xs) :
    Calls Try.prog 4 #[.slice a xs.length cap] w fun e w' => e = .returned (.bool true) ∧ Below w.heap.size w w' :=
  lawFewestLate_any a cap xs (JD.fewL xs) (JD.fewL_len xs) (JD.okP xs) (fun hz _ W hr => specFewest_any _ _ xs W hz hr) (fun hz _ W hr => implFewestL_any _ _ xs W hz hr) w hl hi
end Go.Proofs.Ytlebalaniccepaa
