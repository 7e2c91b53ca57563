/- The laws' toBucket. -/
import Derived.Test.YtgmaeelalkfaaaaDoorRows
import Derived.Test.YtgmaeelalkfaaaaDoorMBK
import Derived.WalkKit
import Derived.WalkSpells
import Derived.WalkLawsBesides
import Derived.Outline
namespace Go.Proofs.YtgmaeelalkfaaaaDoor
open Go.RowKit
set_option maxHeartbeats 400000 in
set_option maxRecDepth 100000 in
theorem toBucket_any (b : Bk) (w : World) : Calls Tryd.prog 8 #[b.v] w fun e w' => e = .returned b.v ∧ Below w.heap.size w w' := by
  obtain ⟨p, u, l, t⟩ := b
  go_enter Tryd.func8, Tryd.ntmps8
  go_wp2
  exact bodyPost_ret (v := Bk.v ⟨p, u, l, t⟩) (by simp [results, Tryd.results8, go_sem]) rfl ⟨rfl, (((Below.refl _ w).alloc (Nat.le_refl _) _).alloc (by simp) _).alloc (by simp; omega) _⟩
end Go.Proofs.YtgmaeelalkfaaaaDoor
