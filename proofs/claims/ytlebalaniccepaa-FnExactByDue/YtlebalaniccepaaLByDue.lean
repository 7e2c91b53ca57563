/- The law FnExactByDue answers true, whatever the arguments. -/
import Derived.Test.YtlebalaniccepaaLWByDue
import Derived.Test.YtlebalaniccepaaCByDue
namespace Go.Proofs.Ytlebalaniccepaa
open Go.RowKit
theorem lawByDueE_any (a : Option Addr) (cap : Nat) (xs : List I2) (w : World) (hl : xs.length ≤ maxLen) (hi : MI2.RowAt w a xs) :
    Calls Try.prog 3 #[.slice a xs.length cap] w fun e w' => e = .returned (.bool true) ∧ Below w.heap.size w w' :=
  lawByDue_any a cap xs (JD.dueL xs) (JD.dueL_len xs) (JD.okP xs) (fun hz _ W hr => specByDue_any _ _ xs W hz hr) (fun hz _ W hr => implByDue_any _ _ xs W hz hr) w hl hi
end Go.Proofs.Ytlebalaniccepaa
