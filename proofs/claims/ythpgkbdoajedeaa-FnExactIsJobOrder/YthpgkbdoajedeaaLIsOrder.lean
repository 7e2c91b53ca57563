/- The law FnExactIsJobOrder answers true, whatever the arguments. -/
import Derived.Test.YthpgkbdoajedeaaLWIsOrder
import Derived.Test.YthpgkbdoajedeaaCIsOrder
namespace Go.Proofs.Ythpgkbdoajedeaa
open Go.RowKit
theorem lawIsJobOrderE_any (a b : Option Addr) (ca cb : Nat) (xs : List I2) (os : List Int) (w : World) (hl : xs.length ≤ maxLen) (hm : os.length ≤ maxLen) (hi : MI2.RowAt w a xs) (hj : M4.IntsAt w b os) :
    Calls Try.prog 6 #[.slice a xs.length ca, .slice b os.length cb] w fun e w' => e = .returned (.bool true) ∧ Below w.heap.size w w' :=
  lawIsJobOrder_any a ca xs b cb os (JD.isO xs os) (fun hz hy _ _ W hr hs => specIsOrder_any _ _ _ _ xs os W hz hy (Nat.le_refl _) (by unfold maxLen; omega) hr hs) (fun hz hy _ _ W hr hs => implIsOrder_any _ _ _ _ xs os W hz hy hr hs) w hl hm hi hj
end Go.Proofs.Ythpgkbdoajedeaa
