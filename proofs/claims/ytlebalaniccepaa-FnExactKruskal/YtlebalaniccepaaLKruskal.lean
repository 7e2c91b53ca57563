/- The law FnExactKruskal answers true, whatever the arguments. -/
import Derived.Test.YtlebalaniccepaaLWKruskal
import Derived.Test.YtlebalaniccepaaCKrI
import Derived.Test.YtlebalaniccepaaCKrS
namespace Go.Proofs.Ytlebalaniccepaa
open Go.RowKit
theorem lawKruskalE_any (a : Option Addr) (cap : Nat) (xs : List I3) (w : World) (hl : xs.length ≤ maxLen) (hi : MI3.RowAt w a xs) :
    Calls Try.prog 6 #[.slice a xs.length cap] w fun e w' => e = .returned (.bool true) ∧ Below w.heap.size w w' :=
  lawKruskal_any a cap xs (EG.kruL xs) (EG.kruL_len xs) (EG.kruC xs) (EG.okP xs) (fun hz _ W hr => specKruskal_any _ _ xs W hz hr) (fun hz _ W hr => implKruskal_any _ _ xs W hz hr) w hl hi
end Go.Proofs.Ytlebalaniccepaa
