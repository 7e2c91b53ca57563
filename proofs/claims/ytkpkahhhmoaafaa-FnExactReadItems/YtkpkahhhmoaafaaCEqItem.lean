/- The laws' eqItem tells whether two items are the same. -/
import Derived.Test.YtkpkahhhmoaafaaRows
import Derived.Test.YtkpkahhhmoaafaaM8
import Derived.WalkKit
import Derived.WalkSpells
import Derived.WalkLawsBesides
import Derived.Outline
namespace Go.Proofs.Ytkpkahhhmoaafaa
open Go.RowKit
set_option maxHeartbeats 800000 in
set_option maxRecDepth 100000 in
theorem eqItem_any (x y : It) (w : World) : Calls Try.prog 52 #[x.v, y.v] w fun e w' => e = .returned (.bool (M8.same x y)) ∧ Below w.heap.size w w' := by
  obtain ⟨a, b, s, c⟩ := x
  obtain ⟨a', b', s', c'⟩ := y
  have hB : ∀ o1 o2, Below w.heap.size w ((w.alloc o1).alloc o2) := fun o1 o2 => ((Below.refl _ w).alloc (Nat.le_refl _) o1).alloc (by simp) o2
  by_cases h1 : a = a'
  · subst h1
    by_cases h2 : b = b'
    · subst h2
      by_cases h3 : s = s'
      · subst h3
        by_cases h4 : c = c'
        · subst h4
          go_enter Try.func52, Try.ntmps52
          go_wp2
          go_ret
          exact ⟨by simp [M8.same], hB _ _⟩
        · have hF : Hid (M8.same ⟨a, b, s, c⟩ ⟨a, b, s, c'⟩ = false) := by show _ = _; simp [M8.same, h4]
          have hne : (c != c') = true := by simp [h4]
          go_enter Try.func52, Try.ntmps52
          go_wp2
          go_ret
          exact ⟨M4.ret_bool hF.out.symm, hB _ _⟩
      · have hF : Hid (M8.same ⟨a, b, s, c⟩ ⟨a, b, s', c'⟩ = false) := by show _ = _; simp [M8.same, h3]
        have hs : (s.toList == s'.toList) = false := M8.beq_no h3
        clear h3
        go_enter Try.func52, Try.ntmps52
        go_wp2
        go_ret
        exact ⟨M4.ret_bool hF.out.symm, hB _ _⟩
    · have hF : Hid (M8.same ⟨a, b, s, c⟩ ⟨a, b', s', c'⟩ = false) := by show _ = _; simp [M8.same, h2]
      have hne : (b != b') = true := by simp [h2]
      go_enter Try.func52, Try.ntmps52
      go_wp2
      go_ret
      exact ⟨M4.ret_bool hF.out.symm, hB _ _⟩
  · have hF : Hid (M8.same ⟨a, b, s, c⟩ ⟨a', b', s', c'⟩ = false) := by show _ = _; simp [M8.same, h1]
    have hne : (a != a') = true := by simp [h1]
    go_enter Try.func52, Try.ntmps52
    go_wp2
    go_ret
    exact ⟨M4.ret_bool hF.out.symm, hB _ _⟩
end Go.Proofs.Ytkpkahhhmoaafaa
