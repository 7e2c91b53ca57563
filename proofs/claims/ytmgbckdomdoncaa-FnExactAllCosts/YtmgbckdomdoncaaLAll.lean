/- The law FnExactAllCosts answers true, whatever the arguments. -/
import Derived.Test.YtmgbckdomdoncaaLWAll
import Derived.Test.YtmgbckdomdoncaaCRdA
namespace Go.Proofs.Ytmgbckdomdoncaa
open Go.RowKit
theorem lawAll_any (a : Option Addr) (cap : Nat) (xs : List I3) (w : World) (hl : xs.length ≤ maxLen) (hi : MI3.RowAt w a xs) :
    Calls Try.prog 4 #[.slice a xs.length cap] w fun e w' => e = .returned (.bool true) ∧ Below w.heap.size w w' :=
  lawAllCosts_any a cap xs (RD.alL xs) (RD.alL_len xs) (RD.alL_tot xs) (RD.fine xs) (fun hz _ W hr => specAll_any _ _ xs W hz hr _ rfl _ rfl) (fun hz _ W hr => implAll_any _ _ xs W hz hr _ rfl _ rfl) w hl hi
end Go.Proofs.Ytmgbckdomdoncaa
