/- The law FnExactForwardStep answers true, whatever the arguments. -/
import Derived.Test.YtlkioijpdlalhaaLWStep
import Derived.Test.YtlkioijpdlalhaaCStepI
import Derived.Test.YtlkioijpdlalhaaCStepS
namespace Go.Proofs.Ytlkioijpdlalhaa
open Go.RowKit
theorem lawStep_any (a : Option Addr) (cap : Nat) (xs : List I5) (b : Bd) (f n t : Int) (w : World) (hl : xs.length ≤ maxLen) (hi : MI5.RowAt w a xs) (hp : b.py.size ≤ maxLen) :
    Calls Try.prog 3 #[.slice a xs.length cap, b.v, .int .i64 f, .int .i64 n, .int .i64 t] w fun e w' => e = .returned (.bool true) ∧ Below w.heap.size w w' :=
  lawForwardStep_any a cap xs b f n t (GP.stepK xs b f n t) (GP.stepT xs b f n t) (GP.stepOk xs b f n t) (fun hz hy _ W hr => stepS_any _ _ xs b f n t W hz hy hr) (fun hz hy _ W hr => stepI_any _ _ xs b f n t W hz hy hr) w hl hi hp
end Go.Proofs.Ytlkioijpdlalhaa
