/- The law FnExactFewestToCut answers true, whatever the arguments. -/
import Derived.Test.YtdobnplcacaomaaLWFewest
import Derived.Test.YtdobnplcacaomaaCFewest
namespace Go.Proofs.Ytdobnplcacaomaa
open Go.RowKit
theorem lawFewest9_any (a : Option Addr) (cap : Nat) (xs : List I2) (f t : Int) (w : World) (hl : xs.length ≤ maxLen) (hi : MI2.RowAt w a xs) :
    Calls Try.prog 7 #[.slice a xs.length cap, .int .i64 f, .int .i64 t] w fun e w' => e = .returned (.bool true) ∧ Below w.heap.size w w' :=
  lawFewestToCut_any a cap xs f t (LK.fcL xs f t) (LK.fcL_len xs f t) (FL.ask (LK.pip xs) f t) (fun hz _ W hr => specFewest_any _ _ xs f t W hz hr) (fun hz _ W hr => implFewest_any _ _ xs f t W hz hr) w hl hi
end Go.Proofs.Ytdobnplcacaomaa
