/- The law FnExactIsForest answers true, whatever the arguments. -/
import Derived.Test.YtgnnpgnipehjlaaLWForest
import Derived.Test.YtgnnpgnipehjlaaCForestS
import Derived.Test.YtgnnpgnipehjlaaCSort
namespace Go.Proofs.Ytgnnpgnipehjlaa
open Go.RowKit
theorem lawForest_any (a b : Option Addr) (cap cb : Nat) (xs : List I3) (zs : List Int) (w : World) (hl : xs.length ≤ maxLen) (hm : zs.length ≤ maxLen) (hi : MI3.RowAt w a xs) (hj : M4.IntsAt w b zs) :
    Calls Try.prog 7 #[.slice a xs.length cap, .slice b zs.length cb] w fun e w' => e = .returned (.bool true) ∧ Below w.heap.size w w' :=
  lawIsForest_any a cap xs b cb zs (EG.forB xs zs) (EG.sok xs zs) (fun hz hy _ _ W hr hs => specForest_any _ _ _ _ xs zs W hz hy hr hs) (fun hz hy _ _ W hr hs => implForest_any sortsI _ _ _ _ xs zs W hz hy hr hs) w hl hm hi hj
end Go.Proofs.Ytgnnpgnipehjlaa
