/- The law FnExactGoodJobs answers true, whatever the arguments. -/
import Derived.Test.YthpgkbdoajedeaaLWGoodJobs
import Derived.Test.YthpgkbdoajedeaaCJobsI
import Derived.Test.YthpgkbdoajedeaaCJobsS
namespace Go.Proofs.Ythpgkbdoajedeaa
open Go.RowKit
theorem lawJobs_any (a : Option Addr) (cap : Nat) (xs : List I2) (w : World) (hl : xs.length ≤ maxLen) (hi : MI2.RowAt w a xs) :
    Calls Try.prog 3 #[.slice a xs.length cap] w fun e w' => e = .returned (.bool true) ∧ Below w.heap.size w w' :=
  lawGoodJobs_any a cap xs (JD.okP xs) (fun hz _ W hr => specGoodJobs_any _ _ xs W hz hr _ rfl) (fun hz _ W hr => implGoodJobs_any _ _ xs W hz hr _ rfl) w hl hi
end Go.Proofs.Ythpgkbdoajedeaa
