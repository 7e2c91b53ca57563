/- The law FnExactLatestFor answers true, whatever the arguments. -/
import Derived.Test.YtfpdlgiijalbeaaLWLatest
import Derived.Test.YtfpdlgiijalbeaaCLatestK
namespace Go.Proofs.Ytfpdlgiijalbeaa
open Go.RowKit
theorem lawLatest_any (a : Option Addr) (cap : Nat) (xs : List I5) (f t b : Int) (w : World) (hl : xs.length ≤ maxLen) (hi : MI5.RowAt w a xs) :
    Calls Try.prog 7 #[.slice a xs.length cap, .int .i64 f, .int .i64 t, .int .i64 b] w fun e w' => e = .returned (.bool true) ∧ Below w.heap.size w w' :=
  lawLatestFor_any a cap xs f t b ((PN.latR xs f t b).getD 0) (PN.latR xs f t b).isSome (fun hz _ W hr => specLatest_any _ _ xs f t b W hz hr) (fun hz _ W hr => implLatest_any _ _ xs f t b W hz hr) w hl hi
end Go.Proofs.Ytfpdlgiijalbeaa
