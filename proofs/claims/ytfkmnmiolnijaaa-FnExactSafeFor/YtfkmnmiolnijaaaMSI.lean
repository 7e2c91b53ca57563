/- What slices.Sort does, as a hypothesis. -/
import Derived.Test.YtfkmnmiolnijaaaRows
import Derived.Test.YtfkmnmiolnijaaaM5
import Derived.Test.YtfkmnmiolnijaaaMInfo
import Derived.WalkKit
import Derived.Outline
import Derived.Sort.OwnSorted
namespace Go.Proofs.Ytfkmnmiolnijaaa
open Go.RowKit Go.Maps
/-- What slices.Sort does to a row of numbers that the call owns. -/
def SortsI : Prop := ∀ (base g cap : Nat) (zs : List Int) (w : World), w.ownsRow base 3 1 (.slice (some ⟨g, 0, none⟩) zs.length cap) zs.length (M4.iv zs) → zs.length ≤ 1048576 →
  Calls Try.prog 71 #[.slice (some ⟨g, 0, none⟩) zs.length cap] w fun e w' => e = .returned (.tuple #[]) ∧ w'.ownsRow base 3 1 (.slice (some ⟨g, 0, none⟩) zs.length cap) zs.length (M4.iv (zs.mergeSort fun x y => decide (x ≤ y))) ∧ w.grownBy w' (some g)
end Go.Proofs.Ytfkmnmiolnijaaa
