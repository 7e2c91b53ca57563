/- The law FnExactGoodLinks answers true, whatever the arguments. -/
import Derived.Test.YtdobnplcacaomaaLWGoodLinks
import Derived.Test.YtdobnplcacaomaaCLinks
namespace Go.Proofs.Ytdobnplcacaomaa
open Go.RowKit
theorem lawGood9_any (a : Option Addr) (cap : Nat) (xs : List I2) (w : World) (hl : xs.length ≤ maxLen) (hi : MI2.RowAt w a xs) :
    Calls Try.prog 5 #[.slice a xs.length cap] w fun e w' => e = .returned (.bool true) ∧ Below w.heap.size w w' :=
  lawGoodLinks_any a cap xs (FL.okP (LK.pip xs)) (fun hz _ W hr => specGoodLinks_any _ _ xs W hz hr _ rfl) (fun hz _ W hr => implGoodLinks_any _ _ xs W hz hr _ rfl) w hl hi
end Go.Proofs.Ytdobnplcacaomaa
