/- The law FnExactWaysApart answers true, whatever the arguments. -/
import Derived.Test.YtdobnplcacaomaaLWWays
import Derived.Test.YtdobnplcacaomaaCWaysI
import Derived.Test.YtdobnplcacaomaaCWaysS
namespace Go.Proofs.Ytdobnplcacaomaa
open Go.RowKit
theorem lawWays9_any (a : Option Addr) (cap : Nat) (xs : List I2) (f t : Int) (w : World) (hl : xs.length ≤ maxLen) (hi : MI2.RowAt w a xs) :
    Calls Try.prog 6 #[.slice a xs.length cap, .int .i64 f, .int .i64 t] w fun e w' => e = .returned (.bool true) ∧ Below w.heap.size w w' :=
  lawWaysApart_any a cap xs f t (LK.wsL xs f t) (LK.wsL_len xs f t) (LK.wsL_tot xs f t) (FL.ask (LK.pip xs) f t) (fun hz _ W hr => specWays_any _ _ xs f t W hz hr) (fun hz _ W hr => implWays_any _ _ xs f t W hz hr) w hl hi
end Go.Proofs.Ytdobnplcacaomaa
