/- The law FnExactIsFlow answers true, whatever the arguments. -/
import Derived.Test.YtkciheanjcnkkaaLWIsFlow
import Derived.Test.YtkciheanjcnkkaaCFlow
namespace Go.Proofs.Ytkciheanjcnkkaa
open Go.RowKit
theorem lawIs8_any (a b : Option Addr) (cap cb : Nat) (xs : List I3) (f t : Int) (fs : List Int) (w : World) (hl : xs.length ≤ maxLen) (hm : fs.length ≤ maxLen) (hi : MI3.RowAt w a xs) (hj : M4.IntsAt w b fs) :
    Calls Try.prog 5 #[.slice a xs.length cap, .int .i64 f, .int .i64 t, .slice b fs.length cb] w fun e w' => e = .returned (.bool true) ∧ Below w.heap.size w w' :=
  lawIsFlow_any a cap xs f t b cb fs (FL.isR xs f t fs) (FL.askF xs f t fs) (fun hz hy _ _ W hr hs => specIsFlow_any _ _ _ _ xs fs f t W hz hy hr hs) (fun hz hy _ _ W hr hs => implIsFlow_any _ _ _ _ xs fs f t W hz hy hr hs) w hl hm hi hj
end Go.Proofs.Ytkciheanjcnkkaa
