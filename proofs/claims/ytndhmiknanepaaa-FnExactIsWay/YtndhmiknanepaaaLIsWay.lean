/- The law FnExactIsWay answers true, whatever the arguments. -/
import Derived.Test.YtndhmiknanepaaaLWIsWay
import Derived.Test.YtndhmiknanepaaaCIsWay
namespace Go.Proofs.Ytndhmiknanepaaa
open Go.RowKit
theorem lawIsWay9_any (a : Option Addr) (cap : Nat) (xs : List I2) (f t : Int) (b : Option Addr) (cb : Nat) (way : List Int) (w : World) (hl : xs.length ≤ maxLen) (hm : way.length ≤ maxLen) (hi : MI2.RowAt w a xs) (hj : M4.IntsAt w b way) :
    Calls Try.prog 5 #[.slice a xs.length cap, .int .i64 f, .int .i64 t, .slice b way.length cb] w fun e w' => e = .returned (.bool true) ∧ Below w.heap.size w w' :=
  lawIsWay_any a cap xs f t b cb way (LK.iwB xs f t way) (LK.iwOk xs f t way) (fun hz hy _ _ W hr hs => specIsWay_any _ _ _ _ xs f t way W hz hy hr hs) (fun hz hy _ _ W hr hs => implIsWay_any _ _ _ _ xs f t way W hz hy hr hs) w hl hm hi hj
end Go.Proofs.Ytndhmiknanepaaa
