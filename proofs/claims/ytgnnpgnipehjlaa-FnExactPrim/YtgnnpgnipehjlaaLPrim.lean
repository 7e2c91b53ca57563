/- The law FnExactPrim answers true, whatever the arguments. -/
import Derived.Test.YtgnnpgnipehjlaaLWPrim
import Derived.Test.YtgnnpgnipehjlaaCPrimI
import Derived.Test.YtgnnpgnipehjlaaCPrimS
namespace Go.Proofs.Ytgnnpgnipehjlaa
open Go.RowKit
theorem lawPrimE_any (a : Option Addr) (cap : Nat) (xs : List I3) (w : World) (hl : xs.length ≤ maxLen) (hi : MI3.RowAt w a xs) :
    Calls Try.prog 5 #[.slice a xs.length cap] w fun e w' => e = .returned (.bool true) ∧ Below w.heap.size w w' :=
  lawPrim_any a cap xs (EG.primL xs) (EG.primL_len xs) (EG.primC xs) (EG.okP xs) (fun hz _ W hr => specPrim_any _ _ xs W hz hr) (fun hz _ W hr => implPrim_any _ _ xs W hz hr) w hl hi
end Go.Proofs.Ytgnnpgnipehjlaa
