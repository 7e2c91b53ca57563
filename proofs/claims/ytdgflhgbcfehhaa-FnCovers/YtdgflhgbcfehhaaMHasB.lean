/- Whether a number is in a row: plain facts. -/
import Derived.Test.YtdgflhgbcfehhaaRows
import Derived.Test.YtdgflhgbcfehhaaM5
import Derived.Test.YtdgflhgbcfehhaaMRetB
namespace Go.Proofs.Ytdgflhgbcfehhaa
open Go.RowKit
namespace EG
def noUp (zs : List Int) (x : Int) (k : Nat) : Prop := ∀ j, j < k → zs.getD j 0 ≠ x
def hasB (zs : List Int) (x : Int) : Bool := decide (x ∈ zs)
theorem hasB_yes {zs : List Int} {x : Int} {k : Nat} (hk : k < zs.length) (h : zs.getD k 0 = x) : hasB zs x = true := by
  rw [hasB, decide_eq_true_eq, ← h, List.getD_eq_getElem?_getD, List.getElem?_eq_getElem hk]; exact List.getElem_mem hk
theorem hasB_no {zs : List Int} {x : Int} (h : noUp zs x zs.length) : hasB zs x = false := by
  rw [hasB, decide_eq_false_iff_not]; intro hx
  obtain ⟨i, hi, rfl⟩ := List.mem_iff_getElem.1 hx
  exact h i hi (by rw [List.getD_eq_getElem?_getD, List.getElem?_eq_getElem hi]; rfl)
theorem noUp_succ {zs : List Int} {x : Int} {k : Nat} (h : noUp zs x k) (h1 : zs.getD k 0 ≠ x) : noUp zs x (k + 1) := by
  intro j hj
  by_cases e : j = k
  · subst e; exact h1
  · exact h j (by omega)
end EG
end Go.Proofs.Ytdgflhgbcfehhaa
