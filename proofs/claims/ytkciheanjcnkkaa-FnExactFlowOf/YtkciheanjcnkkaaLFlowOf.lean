/- The law FnExactFlowOf answers true, whatever the arguments. -/
import Derived.Test.YtkciheanjcnkkaaLWFlowOf
import Derived.Test.YtkciheanjcnkkaaCFlow
namespace Go.Proofs.Ytkciheanjcnkkaa
open Go.RowKit
theorem lawOf8_any (a b : Option Addr) (cap cb : Nat) (xs : List I3) (f t : Int) (fs : List Int) (w : World) (hl : xs.length ≤ maxLen) (hm : fs.length ≤ maxLen) (hi : MI3.RowAt w a xs) (hj : M4.IntsAt w b fs) :
    Calls Try.prog 6 #[.slice a xs.length cap, .int .i64 f, .int .i64 t, .slice b fs.length cb] w fun e w' => e = .returned (.bool true) ∧ Below w.heap.size w w' :=
  lawFlowOf_any a cap xs f t b cb fs (FL.flR xs f t fs) (FL.isR xs f t fs) (fun hz hy _ _ W hr hs => specFlowOf_any _ _ _ _ xs fs f t W hz hy hr hs) (fun hz hy _ _ W hr hs => implFlowOf_any _ _ _ _ xs fs f t W hz hy hr hs) w hl hm hi hj
end Go.Proofs.Ytkciheanjcnkkaa
