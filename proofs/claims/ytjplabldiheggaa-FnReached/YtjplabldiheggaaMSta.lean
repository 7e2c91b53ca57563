/- Whether one can start: plain facts. -/
import Derived.Test.YtjplabldiheggaaMPN
namespace Go.Proofs.Ytjplabldiheggaa
open Go.RowKit
namespace PN
def startOk (xs : List I5) (f n : Int) : Bool := okP xs && decide (0 ≤ f ∧ f ≤ 7) && decide (0 ≤ n ∧ n ≤ 1000)
theorem start_is {xs : List I5} {f n : Int} (h : startOk xs f n = true) : okP xs = true ∧ 0 ≤ f ∧ f ≤ 7 ∧ 0 ≤ n ∧ n ≤ 1000 := by
  simp only [startOk, Bool.and_eq_true, decide_eq_true_eq] at h
  exact ⟨h.1.1, h.1.2.1, h.1.2.2, h.2.1, h.2.2⟩
end PN
end Go.Proofs.Ytjplabldiheggaa
