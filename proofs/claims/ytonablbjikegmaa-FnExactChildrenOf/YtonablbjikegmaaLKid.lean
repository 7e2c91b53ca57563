/- The law FnExactChildrenOf answers true, whatever the arguments. -/
import Derived.Test.YtonablbjikegmaaLWKid
import Derived.Test.YtonablbjikegmaaCKid
namespace Go.Proofs.Ytonablbjikegmaa
open Go.RowKit
theorem lawKid_any (a : Option Addr) (cap : Nat) (xs : List Int) (n : Int) (w : World) (hl : xs.length ≤ maxLen) (hi : M4.IntsAt w a xs) :
    Calls Try.prog 4 #[.slice a xs.length cap, .int .i64 n] w fun e w' => e = .returned (.bool true) ∧ Below w.heap.size w w' :=
  lawChildrenOf_any a cap xs n (TR.kidsL xs n) (TR.kidsL_len xs n) (TR.kidsOk xs n) (fun hz _ W hr => specChildren_any _ _ xs n W hz hr) (fun hz _ W hr => implChildren_any _ _ xs n W hz hr) w hl hi
end Go.Proofs.Ytonablbjikegmaa
