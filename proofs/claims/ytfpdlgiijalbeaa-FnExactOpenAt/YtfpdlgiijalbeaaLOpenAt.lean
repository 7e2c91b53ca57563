/- The law FnExactOpenAt answers true at every plan and time. -/
import Derived.Test.YtfpdlgiijalbeaaLWOpenAt
import Derived.Test.YtfpdlgiijalbeaaCOpen
namespace Go.Proofs.Ytfpdlgiijalbeaa
open Go.RowKit
theorem lawOpen_any (a : Option Addr) (cap : Nat) (xs : List I5) (n : Int) (w : World) (hl : xs.length ≤ maxLen) (hi : MI5.RowAt w a xs) :
    Calls Try.prog 8 #[.slice a xs.length cap, .int .i64 n] w fun e w' => e = .returned (.bool true) ∧ Below w.heap.size w w' := by
  by_cases h : xs.length ≤ 1048576
  · exact lawOpenAt_any a cap xs n (PN.openL xs n) (PN.openL_len xs n h) (PN.openOk xs n) (fun hz g W hr => specOpen_any _ _ xs n W hz hr) (fun hz g W hr => implOpen_any _ _ xs n W hz hr) w hl hi
  · exact lawOpenAt_any a cap xs n [] (by simp) false (fun hz => absurd hz h) (fun hz => absurd hz h) w hl hi
end Go.Proofs.Ytfpdlgiijalbeaa
