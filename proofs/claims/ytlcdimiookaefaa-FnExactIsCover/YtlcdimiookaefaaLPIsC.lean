/- The law FnExactIsCover answers true, whatever the arguments. -/
import Derived.Test.YtlcdimiookaefaaLWPIsC
import Derived.Test.YtlcdimiookaefaaCPairCv
namespace Go.Proofs.Ytlcdimiookaefaa
open Go.RowKit
theorem lawPIsC_any (l r : Int) (a0 : Option Addr) (cap0 : Nat) (xs0 : List (List Int)) (a1 : Option Addr) (cap1 : Nat) (xs1 : List Int) (a2 : Option Addr) (cap2 : Nat) (xs2 : List Int) (w : World) (hl0 : xs0.length ≤ maxLen) (hl1 : xs1.length ≤ maxLen) (hl2 : xs2.length ≤ maxLen) (hi0 : NR.RowsAt w a0 xs0) (hi1 : M4.IntsAt w a1 xs1) (hi2 : M4.IntsAt w a2 xs2) :
    Calls Try.prog 8 #[PG.pv l r (.slice a0 xs0.length cap0), .slice a1 xs1.length cap1, .slice a2 xs2.length cap2] w fun e w' => e = .returned (.bool true) ∧ Below w.heap.size w w' :=
  lawIsCover_any l r a0 cap0 xs0 a1 cap1 xs1 a2 cap2 xs2 (PG.icB l r xs0 xs1 xs2) (PG.ocB l r xs0 xs1 xs2)
    (fun h1 h2 h3 h4 g g1 g2 W h h' h'' => specIsCover_any l r (some ⟨g, 0, none⟩) (some ⟨g1, 0, none⟩) (some ⟨g2, 0, none⟩) _ _ _ xs0 xs1 xs2 W h1 h3 h4 h2 h h' h'')
    (fun h1 h2 h3 h4 g g1 g2 W h h' h'' => implIsCover_any l r (some ⟨g, 0, none⟩) (some ⟨g1, 0, none⟩) (some ⟨g2, 0, none⟩) _ _ _ xs0 xs1 xs2 W h1 h3 h4 h2 h h' h'') w hl0 hl1 hl2 hi0 hi1 hi2
end Go.Proofs.Ytlcdimiookaefaa
