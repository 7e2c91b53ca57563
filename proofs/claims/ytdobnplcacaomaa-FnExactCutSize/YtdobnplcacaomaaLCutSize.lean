/- The law FnExactCutSize answers true, whatever the arguments. -/
import Derived.Test.YtdobnplcacaomaaLWCutSize
import Derived.Test.YtdobnplcacaomaaCCutSize
namespace Go.Proofs.Ytdobnplcacaomaa
open Go.RowKit
theorem lawSize8_any (a b : Option Addr) (cap cb : Nat) (xs : List I3) (zs : List Int) (w : World) (hl : xs.length ≤ maxLen) (hm : zs.length ≤ maxLen) (hi : MI3.RowAt w a xs) (hj : M4.IntsAt w b zs) :
    Calls Try.prog 4 #[.slice a xs.length cap, .slice b zs.length cb] w fun e w' => e = .returned (.bool true) ∧ Below w.heap.size w w' :=
  lawCutSize_any a cap xs b cb zs (FL.szN xs zs) (FL.szOk xs zs) (fun hz hy _ _ W hr hs => specCutSize_any _ _ _ _ xs zs W hz hy hr hs) (fun hz hy _ _ W hr hs => implCutSize_any _ _ _ _ xs zs W hz hy hr hs) w hl hm hi hj
end Go.Proofs.Ytdobnplcacaomaa
