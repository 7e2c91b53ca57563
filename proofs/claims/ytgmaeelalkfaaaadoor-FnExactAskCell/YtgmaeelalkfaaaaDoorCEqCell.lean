/- The laws' eqCell. -/
import Derived.Test.YtgmaeelalkfaaaaDoorRows
import Derived.Test.YtgmaeelalkfaaaaDoorMBK
import Derived.WalkKit
import Derived.WalkSpells
import Derived.WalkLawsBesides
import Derived.Outline
namespace Go.Proofs.YtgmaeelalkfaaaaDoor
open Go.RowKit
set_option maxHeartbeats 400000 in
set_option maxRecDepth 100000 in
theorem eqCell_any (b : Ce) (w : World) : Calls Tryd.prog 16 #[b.v, b.v] w fun e w' => e = .returned (.bool true) ∧ Below w.heap.size w w' := by
  obtain ⟨p, u, d⟩ := b
  go_enter Tryd.func16, Tryd.ntmps16
  go_wp2
  go_ret
  exact ⟨rfl, ((Below.refl _ w).alloc (Nat.le_refl _) _).alloc (by simp) _⟩
end Go.Proofs.YtgmaeelalkfaaaaDoor
