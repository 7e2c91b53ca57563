/- The law FnExactEarliestFrom answers true, whatever the arguments. -/
import Derived.Test.YtfpdlgiijalbeaaLWEarliest
import Derived.Test.YtfpdlgiijalbeaaCEarliest
namespace Go.Proofs.Ytfpdlgiijalbeaa
open Go.RowKit
theorem lawEarliest_any (a : Option Addr) (cap : Nat) (xs : List I5) (f n : Int) (w : World) (hl : xs.length ≤ maxLen) (hi : MI5.RowAt w a xs) :
    Calls Try.prog 5 #[.slice a xs.length cap, .int .i64 f, .int .i64 n] w fun e w' => e = .returned (.bool true) ∧ Below w.heap.size w w' :=
  lawEarliestFrom_any a cap xs f n (PN.earL xs f n) (PN.earL_len xs f n) (PN.startOk xs f n) (fun hz _ W hr => specEarliest_any _ _ xs f n W hz hr) (fun hz _ W hr => implEarliest_any _ _ xs f n W hz hr) w hl hi
end Go.Proofs.Ytfpdlgiijalbeaa
