/- The law FnExactCutOf answers true, whatever the arguments. -/
import Derived.Test.YtgnnpgnipehjlaaLWCut
import Derived.Test.YtgnnpgnipehjlaaCCutS
namespace Go.Proofs.Ytgnnpgnipehjlaa
open Go.RowKit
theorem lawCut_any (a b : Option Addr) (cap cb : Nat) (xs : List I3) (zs : List Int) (w : World) (hl : xs.length ≤ maxLen) (hm : zs.length ≤ maxLen) (hi : MI3.RowAt w a xs) (hj : M4.IntsAt w b zs) :
    Calls Try.prog 8 #[.slice a xs.length cap, .slice b zs.length cb] w fun e w' => e = .returned (.bool true) ∧ Below w.heap.size w w' :=
  lawCutOf_any a cap xs b cb zs (EG.cutL xs zs) (EG.cutL_len xs zs) (EG.cutOk xs zs) (fun hz hy _ _ W hr hs => specCut_any _ _ _ _ xs zs W hz hy hr hs) (fun hz hy _ _ W hr hs => implCut_any _ _ _ _ xs zs W hz hy hr hs) w hl hm hi hj
end Go.Proofs.Ytgnnpgnipehjlaa
