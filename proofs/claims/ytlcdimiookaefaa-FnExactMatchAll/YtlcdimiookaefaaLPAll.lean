/- The law FnExactMatchAll answers true, whatever the arguments. -/
import Derived.Test.YtlcdimiookaefaaLWPAll
import Derived.Test.YtlcdimiookaefaaCPairMI
namespace Go.Proofs.Ytlcdimiookaefaa
open Go.RowKit
theorem lawPAll_any (l r : Int) (a0 : Option Addr) (cap0 : Nat) (xs0 : List (List Int)) (w : World) (hl0 : xs0.length ≤ maxLen) (hi0 : NR.RowsAt w a0 xs0) :
    Calls Try.prog 4 #[PG.pv l r (.slice a0 xs0.length cap0)] w fun e w' => e = .returned (.bool true) ∧ Below w.heap.size w w' :=
  lawMatchAll_any l r a0 cap0 xs0 (PG.allL l r xs0) (by have := PG.allL_le l r xs0; omega) (PG.good l r xs0)
    (fun h1 h2 g W h => specAll_any l r (some ⟨g, 0, none⟩) _ xs0 W h1 h2 h _ _ rfl rfl)
    (fun h1 h2 g W h => implAll_any l r (some ⟨g, 0, none⟩) _ xs0 W h1 h2 h _ _ rfl rfl) w hl0 hi0
end Go.Proofs.Ytlcdimiookaefaa
