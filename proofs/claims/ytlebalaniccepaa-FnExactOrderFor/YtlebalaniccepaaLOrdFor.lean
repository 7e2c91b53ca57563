/- The law FnExactOrderFor answers true, whatever the arguments. -/
import Derived.Test.YtlebalaniccepaaLWOrderFor
import Derived.Test.YtlebalaniccepaaCOrdFor
namespace Go.Proofs.Ytlebalaniccepaa
open Go.RowKit
theorem lawOrderForE_any (a b : Option Addr) (ca cb : Nat) (xs : List I2) (os : List Int) (w : World) (hl : xs.length ≤ maxLen) (hm : os.length ≤ maxLen) (hi : MI2.RowAt w a xs) (hj : M4.IntsAt w b os) :
    Calls Try.prog 5 #[.slice a xs.length ca, .slice b os.length cb] w fun e w' => e = .returned (.bool true) ∧ Below w.heap.size w w' :=
  lawOrderFor_any a ca xs b cb os (JD.ordL xs os) (JD.ordL_len xs os) (JD.ordOk xs os) (fun hz hy _ _ W hr hs => specOrderFor_any _ _ _ _ xs os W hz hy hr hs) (fun hz hy _ _ W hr hs => implOrderFor_any _ _ _ _ xs os W hz hy hr hs) w hl hm hi hj
end Go.Proofs.Ytlebalaniccepaa
