/- The law FnExactMinCut answers true, whatever the arguments. -/
import Derived.Test.YtdobnplcacaomaaLWMinCut
import Derived.Test.YtdobnplcacaomaaCMinI
import Derived.Test.YtdobnplcacaomaaCMinS
namespace Go.Proofs.Ytdobnplcacaomaa
open Go.RowKit
theorem lawMin8_any (a : Option Addr) (cap : Nat) (xs : List I3) (f t : Int) (w : World) (hl : xs.length ≤ maxLen) (hi : MI3.RowAt w a xs) :
    Calls Try.prog 3 #[.slice a xs.length cap, .int .i64 f, .int .i64 t] w fun e w' => e = .returned (.bool true) ∧ Below w.heap.size w w' :=
  lawMinCut_any a cap xs f t (FL.mcL xs f t) (FL.mcL_len xs f t) (FL.mcN xs f t) (FL.ask xs f t) (fun hz _ W hr => specMinCut_any _ _ xs f t W hz hr) (fun hz _ W hr => implMinCut_any _ _ xs f t W hz hr) w hl hi
end Go.Proofs.Ytdobnplcacaomaa
