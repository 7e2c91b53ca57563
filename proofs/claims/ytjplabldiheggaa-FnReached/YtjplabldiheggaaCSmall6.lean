import Derived.Test.YtjplabldiheggaaRows
import Derived.Test.YtjplabldiheggaaCPlan
import Derived.WalkKit
import Derived.WalkSpells
import Derived.WalkLawsBesides
import Derived.Outline
/- impl.isWithin. -/
namespace Go.Proofs.Ytjplabldiheggaa
open Go.RowKit
set_option maxHeartbeats 400000 in
set_option maxRecDepth 100000 in
theorem within_any (n lo hi : Int) (w : World) : Calls Try.prog 39 #[.int .i64 n, .int .i64 lo, .int .i64 hi] w fun e w' => e = .returned (.bool (decide (lo ≤ n ∧ n ≤ hi))) ∧ w = w' := by
  by_cases h1 : lo ≤ n
  · go_enter Try.func39, Try.ntmps39
    go_wp2
    go_ret
    exact ⟨retB6 (by simp [h1]), rfl⟩
  · go_enter Try.func39, Try.ntmps39
    go_wp2
    go_ret
    exact ⟨retB6 (by rw [decide_eq_false (by omega : ¬ lo ≤ n)]; rfl), rfl⟩
end Go.Proofs.Ytjplabldiheggaa

/- Small functions of chapter 6: which nodes and times there are. -/
namespace Go.Proofs.Ytjplabldiheggaa
open Go.RowKit
namespace PN
def whenOk (n : Int) : Bool := decide (0 ≤ n ∧ n ≤ 1000)
def nodeOk (n : Int) : Bool := decide (0 ≤ n ∧ n ≤ 7)
theorem node_yes {n : Int} (h : nodeOk n = true) : 0 ≤ n ∧ n ≤ 7 := by simpa only [nodeOk, decide_eq_true_eq] using h
theorem when_yes {n : Int} (h : whenOk n = true) : 0 ≤ n ∧ n ≤ 1000 := by simpa only [whenOk, decide_eq_true_eq] using h
end PN
theorem CS6.own_base {w : World} {base base' e sz n : Nat} {v : Value} {xs : List Value} (h : w.ownsRow base e sz v n xs) (hb : base' ≤ base) : w.ownsRow base' e sz v n xs := by
  refine ⟨h.1, ?_⟩
  rcases h.2 with h' | ⟨g, cap, cur, h1, h2, h3⟩
  · exact .inl h'
  · exact .inr ⟨g, cap, cur, h1, by omega, h3⟩
set_option maxHeartbeats 400000 in
set_option maxRecDepth 100000 in
theorem whenS_any (n : Int) (w : World) : Calls Try.prog 73 #[.int .i64 n] w fun e w' => e = .returned (.bool (PN.whenOk n)) ∧ w = w' := by
  go_enter Try.func73, Try.ntmps73
  go_wp2
  all_goals go_ret
  all_goals refine ⟨retB6 ?_, rfl⟩
  all_goals (simp only [PN.whenOk]; rw [Bool.eq_iff_iff]; simp only [decide_eq_true_eq, Bool.false_eq_true, false_iff] at *; omega)
set_option maxHeartbeats 400000 in
set_option maxRecDepth 100000 in
theorem nodeS_any (n : Int) (w : World) : Calls Try.prog 72 #[.int .i64 n] w fun e w' => e = .returned (.bool (PN.nodeOk n)) ∧ w = w' := by
  go_enter Try.func72, Try.ntmps72
  go_wp2
  all_goals go_ret
  all_goals refine ⟨retB6 ?_, rfl⟩
  all_goals (simp only [PN.nodeOk]; rw [Bool.eq_iff_iff]; simp only [decide_eq_true_eq, Bool.false_eq_true, false_iff] at *; omega)
set_option maxHeartbeats 400000 in
set_option maxRecDepth 100000 in
theorem nodeI_any (n : Int) (w : World) : Calls Try.prog 52 #[.int .i64 n] w fun e w' => e = .returned (.bool (PN.nodeOk n)) ∧ w = w' := by
  go_enter Try.func52, Try.ntmps52
  go_wp2
  all_goals go_ret
  all_goals refine ⟨retB6 ?_, rfl⟩
  all_goals (simp only [PN.nodeOk]; rw [Bool.eq_iff_iff]; simp only [decide_eq_true_eq, Bool.false_eq_true, false_iff] at *; omega)
set_option maxHeartbeats 400000 in
set_option maxRecDepth 100000 in
theorem whenI_any (n : Int) (w : World) : Calls Try.prog 53 #[.int .i64 n] w fun e w' => e = .returned (.bool (PN.whenOk n)) ∧ w = w' := by
  go_enter Try.func53, Try.ntmps53
  go_wp2
  all_goals go_ret
  all_goals refine ⟨retB6 ?_, rfl⟩
  all_goals (simp only [PN.whenOk]; rw [Bool.eq_iff_iff]; simp only [decide_eq_true_eq, Bool.false_eq_true, false_iff] at *; omega)
end Go.Proofs.Ytjplabldiheggaa
