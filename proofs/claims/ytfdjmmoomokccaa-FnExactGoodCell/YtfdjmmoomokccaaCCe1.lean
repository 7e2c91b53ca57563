/- GoodCell, the program's and the specification's. -/
import Derived.Test.YtfdjmmoomokccaaRows
import Derived.Test.YtfdjmmoomokccaaCBk0
import Derived.WalkKit
import Derived.WalkSpells
import Derived.WalkLawsBesides
import Derived.Outline
namespace Go.Proofs.Ytfdjmmoomokccaa
open Go.RowKit
set_option linter.unusedSimpArgs false in
set_option maxHeartbeats 800000 in
set_option maxRecDepth 100000 in
theorem goodCS_any (b : Ce) (w : World) (R : Bool) (hR : Hid (BK.goodC b = R)) :
    Calls Try.prog 17 #[b.v] w fun e w' => e = .returned (.bool R) ∧ Below w.heap.size w w' := by
  obtain ⟨p, u, d⟩ := b
  have hB : ∀ o, Below w.heap.size w (w.alloc o) := fun o => (Below.refl _ w).alloc (Nat.le_refl _) o
  go_enter Try.func17, Try.ntmps17
  go_wp2
  all_goals go_ret
  all_goals refine ⟨retB13 ?_, hB _⟩
  all_goals (rw [← hR.out]; simp only [BK.goodC, BK.okS]; clear hR hB)
  all_goals (rw [Bool.eq_iff_iff]; simp only [Bool.and_eq_true, decide_eq_true_eq, Bool.false_eq_true, false_iff] at *; omega)
set_option linter.unusedSimpArgs false in
set_option maxHeartbeats 800000 in
set_option maxRecDepth 100000 in
theorem goodCI_any (b : Ce) (w : World) (R : Bool) (hR : Hid (BK.goodC b = R)) :
    Calls Try.prog 19 #[b.v] w fun e w' => e = .returned (.bool R) ∧ Below w.heap.size w w' := by
  obtain ⟨p, u, d⟩ := b
  have hB : ∀ o, Below w.heap.size w (w.alloc o) := fun o => (Below.refl _ w).alloc (Nat.le_refl _) o
  go_enter Try.func19, Try.ntmps19
  go_wp2
  all_goals go_ret
  all_goals refine ⟨retB13 ?_, hB _⟩
  all_goals (rw [← hR.out]; simp only [BK.goodC, BK.okS]; clear hR hB)
  all_goals (rw [Bool.eq_iff_iff]; simp only [Bool.and_eq_true, decide_eq_true_eq, Bool.false_eq_true, false_iff] at *; omega)
end Go.Proofs.Ytfdjmmoomokccaa
