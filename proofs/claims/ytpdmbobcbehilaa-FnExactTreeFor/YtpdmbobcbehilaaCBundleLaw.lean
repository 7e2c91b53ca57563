/- The laws' toBundle copies a bundle; szBundle takes its size from what is left. -/
import Derived.Test.YtpdmbobcbehilaaRows
import Derived.Test.YtpdmbobcbehilaaMB1
import Derived.WalkKit
import Derived.WalkSpells
import Derived.WalkLawsBesides
import Derived.Outline
namespace Go.Proofs.Ytpdmbobcbehilaa
open Go.RowKit
set_option maxHeartbeats 400000 in
set_option maxRecDepth 100000 in
theorem toBundle_any (b : Bd) (w : World) : Calls Try.prog 10 #[b.v] w fun e w' => e = .returned b.v ∧ Below w.heap.size w w' := by
  obtain ⟨fr, to, gr, md, no, lf, hp, of, tl, py⟩ := b
  go_enter Try.func10, Try.ntmps10
  go_wp2
  exact bodyPost_ret (v := Bd.v ⟨fr, to, gr, md, no, lf, hp, of, tl, py⟩) (by simp [results, Try.results10, go_sem]) rfl ⟨rfl, (((Below.refl _ w).alloc (Nat.le_refl _) _).alloc (by simp) _).alloc (by simp; omega) _⟩
set_option maxHeartbeats 400000 in
set_option maxRecDepth 100000 in
theorem szBundle_any (b : Bd) (l : Int) (w : World) (hs : b.py.size ≤ maxLen) (hl : 0 ≤ l ∧ l ≤ 1048576) : Calls Try.prog 7 #[b.v, .int .i64 l] w fun e w' => (∃ r : Int, e = .returned (.int .i64 r) ∧ (r < 0 ∨ (r = l - b.py.size ∧ 0 ≤ r))) ∧ Below w.heap.size w w' := by
  obtain ⟨fr, to, gr, md, no, lf, hp, of, tl, py⟩ := b
  simp only at hs
  unfold maxLen at hs
  have hB : ∀ o, Below w.heap.size w (w.alloc o) := fun o => (Below.refl _ w).alloc (Nat.le_refl _) o
  go_enter Try.func7, Try.ntmps7
  go_wp2
  all_goals go_ret
  · exact ⟨⟨_, rfl, .inl (by omega)⟩, hB _⟩
  · exact ⟨⟨_, rfl, .inr ⟨rfl, by omega⟩⟩, hB _⟩
end Go.Proofs.Ytpdmbobcbehilaa
