/- The law FnExactPotentialsOf answers true, whatever the arguments. -/
import Derived.Test.YtmgbckdomdoncaaLWPots
import Derived.Test.YtmgbckdomdoncaaCRd5
import Derived.Test.YtmgbckdomdoncaaCRdS2
namespace Go.Proofs.Ytmgbckdomdoncaa
open Go.RowKit
theorem lawPots_any (a : Option Addr) (cap : Nat) (xs : List I3) (w : World) (hl : xs.length ≤ maxLen) (hi : MI3.RowAt w a xs) :
    Calls Try.prog 8 #[.slice a xs.length cap] w fun e w' => e = .returned (.bool true) ∧ Below w.heap.size w w' :=
  lawPotentialsOf_any a cap xs (RD.poL xs) (RD.poL_len xs) (RD.fine xs) (fun hz _ W hr => specPots_any _ _ xs W hz hr _ rfl _ rfl) (fun hz _ W hr => implPots_any _ _ xs W hz hr _ rfl _ rfl) w hl hi
end Go.Proofs.Ytmgbckdomdoncaa
