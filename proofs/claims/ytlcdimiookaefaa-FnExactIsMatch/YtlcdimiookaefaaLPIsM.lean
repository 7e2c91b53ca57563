/- The law FnExactIsMatch answers true, whatever the arguments. -/
import Derived.Test.YtlcdimiookaefaaLWPIsM
import Derived.Test.YtlcdimiookaefaaCPairIs
namespace Go.Proofs.Ytlcdimiookaefaa
open Go.RowKit
theorem lawPIsM_any (l r : Int) (a0 : Option Addr) (cap0 : Nat) (xs0 : List (List Int)) (a1 : Option Addr) (cap1 : Nat) (xs1 : List Int) (w : World) (hl0 : xs0.length ≤ maxLen) (hl1 : xs1.length ≤ maxLen) (hi0 : NR.RowsAt w a0 xs0) (hi1 : M4.IntsAt w a1 xs1) :
    Calls Try.prog 5 #[PG.pv l r (.slice a0 xs0.length cap0), .slice a1 xs1.length cap1] w fun e w' => e = .returned (.bool true) ∧ Below w.heap.size w w' :=
  lawIsMatch_any l r a0 cap0 xs0 a1 cap1 xs1 (PG.imB l r xs0 xs1) (PG.okB l r xs0 xs1)
    (fun h1 h2 h3 g g1 W h h' => specIsMatch_any l r (some ⟨g, 0, none⟩) (some ⟨g1, 0, none⟩) _ _ xs0 xs1 W h1 h3 h2 (Nat.le_refl _) h h')
    (fun h1 h2 h3 g g1 W h h' => implIsMatch_any l r (some ⟨g, 0, none⟩) (some ⟨g1, 0, none⟩) _ _ xs0 xs1 W h1 h3 h2 (Nat.le_refl _) h h') w hl0 hl1 hi0 hi1
end Go.Proofs.Ytlcdimiookaefaa
