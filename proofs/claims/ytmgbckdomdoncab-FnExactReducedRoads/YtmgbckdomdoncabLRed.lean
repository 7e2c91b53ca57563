/- The law FnExactReducedRoads answers true, whatever the arguments. -/
import Derived.Test.YtmgbckdomdoncabLWRed
import Derived.Test.YtmgbckdomdoncabCRed
namespace Go.Proofs.Ytmgbckdomdoncab
open Go.RowKit
theorem lawRed_any (a : Option Addr) (cap : Nat) (xs : List I3) (w : World) (hl : xs.length ≤ maxLen) (hi : MI3.RowAt w a xs) :
    Calls Try.prog 3 #[.slice a xs.length cap] w fun e w' => e = .returned (.bool true) ∧ Below w.heap.size w w' := by
  by_cases hz : xs.length ≤ 1048576
  · exact lawReducedRoads_any a cap xs (RD.rrL xs) (RD.rrL_len xs hz) (RD.fine xs) (fun hz _ W hr => specRed_any _ _ xs W hz hr _ rfl _ rfl) (fun hz _ W hr => implRed_any _ _ xs W hz hr _ rfl _ rfl) w hl hi
  · exact lawReducedRoads_any a cap xs [] (by simp) (RD.fine xs) (fun h => absurd h hz) (fun h => absurd h hz) w hl hi
end Go.Proofs.Ytmgbckdomdoncab
