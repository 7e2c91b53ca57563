import Derived.Test.YtjplabldiheggaaMEG
import Derived.Test.YtjplabldiheggaaRows
import Derived.WalkKit
import Derived.WalkSpells
import Derived.WalkLawsBesides
import Derived.Outline
import Derived.Test.YtjplabldiheggaaM5
/- A truth value that is returned: a plain fact, over whatever program. -/
namespace Go.Proofs.Ytjplabldiheggaa
theorem retB7 {a b : Bool} (h : a = b) : Ending.returned (.bool a) = .returned (.bool b) := by rw [h]
theorem retI7 {a b : Int} (h : a = b) : Ending.returned (.int .i64 a) = .returned (.int .i64 b) := by rw [h]
end Go.Proofs.Ytjplabldiheggaa

/- impl.isWithin. -/
namespace Go.Proofs.Ytjplabldiheggaa
open Go.RowKit
set_option maxHeartbeats 400000 in
set_option maxRecDepth 100000 in
theorem within7_any (n lo hi : Int) (w : World) : Calls Try.prog 39 #[.int .i64 n, .int .i64 lo, .int .i64 hi] w fun e w' => e = .returned (.bool (decide (lo ≤ n ∧ n ≤ hi))) ∧ w = w' := by
  by_cases h1 : lo ≤ n
  · go_enter Try.func39, Try.ntmps39
    go_wp2
    go_ret
    exact ⟨retB7 (by simp [h1]), rfl⟩
  · go_enter Try.func39, Try.ntmps39
    go_wp2
    go_ret
    exact ⟨retB7 (by rw [decide_eq_false (by omega : ¬ lo ≤ n)]; rfl), rfl⟩
end Go.Proofs.Ytjplabldiheggaa

/- Whether a number is in a row: plain facts. -/
namespace Go.Proofs.Ytjplabldiheggaa
open Go.RowKit
namespace EG
def noUp (zs : List Int) (x : Int) (k : Nat) : Prop := ∀ j, j < k → zs.getD j 0 ≠ x
def hasB (zs : List Int) (x : Int) : Bool := decide (x ∈ zs)
theorem hasB_yes {zs : List Int} {x : Int} {k : Nat} (hk : k < zs.length) (h : zs.getD k 0 = x) : hasB zs x = true := by
  rw [hasB, decide_eq_true_eq, ← h, List.getD_eq_getElem?_getD, List.getElem?_eq_getElem hk]; exact List.getElem_mem hk
theorem hasB_no {zs : List Int} {x : Int} (h : noUp zs x zs.length) : hasB zs x = false := by
  rw [hasB, decide_eq_false_iff_not]; intro hx
  obtain ⟨i, hi, rfl⟩ := List.mem_iff_getElem.1 hx
  exact h i hi (by rw [List.getD_eq_getElem?_getD, List.getElem?_eq_getElem hi]; rfl)
theorem noUp_succ {zs : List Int} {x : Int} {k : Nat} (h : noUp zs x k) (h1 : zs.getD k 0 ≠ x) : noUp zs x (k + 1) := by
  intro j hj
  by_cases e : j = k
  · subst e; exact h1
  · exact h j (by omega)
end EG
end Go.Proofs.Ytjplabldiheggaa
