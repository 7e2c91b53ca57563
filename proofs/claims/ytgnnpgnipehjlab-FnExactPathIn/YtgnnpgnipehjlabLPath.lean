/- The law FnExactPathIn answers true, whatever the arguments. -/
import Derived.Test.YtgnnpgnipehjlabLWPath
import Derived.Test.YtgnnpgnipehjlabCPathK
namespace Go.Proofs.Ytgnnpgnipehjlab
open Go.RowKit
theorem lawPath_any (a b : Option Addr) (cap cb : Nat) (xs : List I3) (zs : List Int) (p q : Int) (w : World) (hl : xs.length ≤ maxLen) (hm : zs.length ≤ maxLen) (hi : MI3.RowAt w a xs) (hj : M4.IntsAt w b zs) :
    Calls Try.prog 3 #[.slice a xs.length cap, .slice b zs.length cb, .int .i64 p, .int .i64 q] w fun e w' => e = .returned (.bool true) ∧ Below w.heap.size w w' :=
  lawPathIn_any a cap xs b cb zs p q (EG.oL (EG.patM xs zs p q)) (EG.patM_len xs zs p q) (EG.patM xs zs p q).isSome (fun hz hy _ _ W hr hs => specPath_any _ _ _ _ xs zs p q W hz hy hr hs) (fun hz hy _ _ W hr hs => implPath_any _ _ _ _ xs zs p q W hz hy hr hs) w hl hm hi hj
end Go.Proofs.Ytgnnpgnipehjlab
