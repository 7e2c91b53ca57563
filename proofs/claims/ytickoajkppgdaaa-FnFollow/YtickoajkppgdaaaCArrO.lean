/- l6Over, the specification's. -/
import Derived.Test.YtickoajkppgdaaaRows
import Derived.Test.YtickoajkppgdaaaMArr
import Derived.WalkKit
import Derived.WalkSpells
import Derived.WalkLawsBesides
import Derived.Outline
import Derived.Deep.RegionHeld3
namespace Go.Proofs.Ytickoajkppgdaaa
open Go.RowKit
/-- What l6Over tells. -/
def PN.ov (c : I5) (n : Int) : Int := if c.a3 ≤ n then -1 else max n c.a2 + c.a4
set_option maxHeartbeats 800000 in
set_option maxRecDepth 100000 in
theorem l6Over_any (c : I5) (n : Int) (w : World) (hc : PN.Good c) (h0 : 0 ≤ n) (h1 : n ≤ 1048576) :
    Calls Try.prog 28 #[c.v, .int .i64 n] w fun e w' => e = .returned (.int .i64 (PN.ov c n)) ∧ Below w.heap.size w w' := by
  have hB : ∀ o, Below w.heap.size w (w.alloc o) := fun o => (Below.refl _ w).alloc (Nat.le_refl _) o
  obtain ⟨f0, f1, t0, t1, ne, e0, e1, s0, s1, d0, d1⟩ := hc
  obtain ⟨r, hr⟩ : ∃ r, PN.ov c n = r := ⟨_, rfl⟩
  rw [hr]
  obtain ⟨x0, x1, x2, x3, x4⟩ := c
  simp only [PN.ov] at *
  by_cases hl : x3 ≤ n
  · rw [if_pos hl] at hr
    subst hr
    go_enter Try.func28, Try.ntmps28
    go_wp2
    go_ret
    exact ⟨rfl, hB _⟩
  · rw [if_neg hl] at hr
    by_cases h2 : n < x2
    · obtain rfl : r = x2 + x4 := by omega
      clear hr
      go_enter Try.func28, Try.ntmps28
      go_wp2
      go_ret
      exact ⟨rfl, hB _⟩
    · obtain rfl : r = n + x4 := by omega
      clear hr
      go_enter Try.func28, Try.ntmps28
      go_wp2
      go_ret
      exact ⟨rfl, hB _⟩
theorem PN.ov_no {c : I5} {n : Int} (h : c.a3 ≤ n) : PN.ov c n = -1 ∧ PN.arr c (.fin n) = .inf := by simp [PN.ov, PN.arr, h]
theorem PN.ov_yes {c : I5} {n : Int} (h : ¬ c.a3 ≤ n) : PN.arr c (.fin n) = .fin (PN.ov c n) := by simp [PN.ov, PN.arr, h]
end Go.Proofs.Ytickoajkppgdaaa
