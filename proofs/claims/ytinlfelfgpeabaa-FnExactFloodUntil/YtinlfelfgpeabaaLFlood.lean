/- The law FnExactFloodUntil answers true, whatever the arguments. -/
import Derived.Test.YtinlfelfgpeabaaLWFlood
import Derived.Test.YtinlfelfgpeabaaCFdJ
namespace Go.Proofs.Ytinlfelfgpeabaa
open Go.RowKit
theorem lawFlood_any (a : Option Addr) (cap : Nat) (xs : List I5) (f n u : Int) (w : World) (hl : xs.length ≤ maxLen) (hi : MI5.RowAt w a xs) :
    Calls Try.prog 3 #[.slice a xs.length cap, .int .i64 f, .int .i64 n, .int .i64 u] w fun e w' => e = .returned (.bool true) ∧ Below w.heap.size w w' :=
  lawFloodUntil_any a cap xs f n u (PN.fdL xs f n u) (by have := PN.fdL_len xs f n u; omega) (PN.fdOk xs f n u) (fun hz _ W hr => specFlood_any _ _ xs f n u W hz hr) (fun hz _ W hr => implFlood_any _ _ xs f n u W hz hr) w hl hi
end Go.Proofs.Ytinlfelfgpeabaa
