/- Bundles that fit a plan, plain facts. -/
import Derived.Test.YtjplabldiheggaaMB1
import Derived.Test.YtjplabldiheggaaMPN
import Derived.Test.YtjplabldiheggaaCSmall6
namespace Go.Proofs.Ytjplabldiheggaa
open Go.RowKit
namespace GP
open PN
/-- Whether a bundle fits a plan. -/
def fitsB (xs : List I5) (b : Bd) : Bool := okP xs && B1.good b && decide (b.tl = 0) && nodeOk b.fr && whenOk b.md
theorem fits_is {xs : List I5} {b : Bd} (h : fitsB xs b = true) : okP xs = true ∧ B1.good b = true ∧ b.tl = 0 ∧ (0 ≤ b.fr ∧ b.fr ≤ 7) ∧ (0 ≤ b.md ∧ b.md ≤ 1000) ∧ (1 ≤ b.lf ∧ b.lf ≤ 1000000) ∧ (0 ≤ b.hp ∧ b.hp ≤ 30) := by
  simp only [fitsB, Bool.and_eq_true, decide_eq_true_eq] at h
  obtain ⟨⟨⟨⟨h1, h2⟩, h3⟩, h4⟩, h5⟩ := h
  have hg : B1.head b = true := by simp only [B1.good, Bool.and_eq_true] at h2; exact h2.1.1
  simp only [B1.head, Bool.and_eq_true] at hg
  exact ⟨h1, h2, h3, node_yes h4, when_yes h5, B1.inB_is hg.1.2, B1.inB_is hg.2⟩
end GP
end Go.Proofs.Ytjplabldiheggaa
