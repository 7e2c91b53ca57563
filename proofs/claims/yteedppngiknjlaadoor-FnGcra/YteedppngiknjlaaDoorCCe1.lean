/- GoodCell, the program's and the specification's. -/
import Derived.Test.YteedppngiknjlaaDoorRows
import Derived.Test.YteedppngiknjlaaDoorCBk0
import Derived.WalkKit
import Derived.WalkSpells
import Derived.WalkLawsBesides
import Derived.Outline
namespace Go.Proofs.YteedppngiknjlaaDoor
open Go.RowKit
set_option linter.unusedSimpArgs false in
set_option maxHeartbeats 800000 in
set_option maxRecDepth 100000 in
theorem goodCS_any (b : Ce) (w : World) (R : Bool) (hR : Hid (BK.goodC b = R)) :
    Calls Tryd.prog 18 #[b.v] w fun e w' => e = .returned (.bool R) ∧ Below w.heap.size w w' := by
  obtain ⟨p, u, d⟩ := b
  have hB : ∀ o, Below w.heap.size w (w.alloc o) := fun o => (Below.refl _ w).alloc (Nat.le_refl _) o
  go_enter Tryd.func18, Tryd.ntmps18
  go_wp2
  all_goals go_ret
  all_goals refine ⟨retB13 ?_, hB _⟩
  all_goals (rw [← hR.out]; simp only [BK.goodC, BK.okS]; clear hR hB)
  all_goals (rw [Bool.eq_iff_iff]; simp only [Bool.and_eq_true, decide_eq_true_eq, Bool.false_eq_true, false_iff] at *; omega)
set_option linter.unusedSimpArgs false in
set_option maxHeartbeats 800000 in
set_option maxRecDepth 100000 in
theorem goodCI_any (b : Ce) (w : World) (R : Bool) (hR : Hid (BK.goodC b = R)) :
    Calls Tryd.prog 11 #[b.v] w fun e w' => e = .returned (.bool R) ∧ Below w.heap.size w w' := by
  obtain ⟨p, u, d⟩ := b
  have hB : ∀ o, Below w.heap.size w (w.alloc o) := fun o => (Below.refl _ w).alloc (Nat.le_refl _) o
  go_enter Tryd.func11, Tryd.ntmps11
  go_wp2
  all_goals go_ret
  all_goals refine ⟨retB13 ?_, hB _⟩
  all_goals (rw [← hR.out]; simp only [BK.goodC, BK.okS]; clear hR hB)
  all_goals (rw [Bool.eq_iff_iff]; simp only [Bool.and_eq_true, decide_eq_true_eq, Bool.false_eq_true, false_iff] at *; omega)
end Go.Proofs.YteedppngiknjlaaDoor
