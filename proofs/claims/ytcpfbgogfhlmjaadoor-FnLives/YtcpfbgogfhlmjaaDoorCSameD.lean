/- What SameBundle answers: plain facts. -/
import Derived.Test.YtcpfbgogfhlmjaaDoorCIdBase
namespace Go.Proofs.YtcpfbgogfhlmjaaDoor
open Go.RowKit
/-- What SameBundle answers. -/
def sameOk (a b : Bd) : Bool := B1.good a && B1.good b
def sameB (a b : Bd) : Bool := sameOk a b && ((idR a).toList == (idR b).toList)
theorem ret_bbS {a b c d : Bool} (h1 : a = c) (h2 : b = d) : Ending.returned (.tuple #[.bool a, .bool b]) = .returned (.tuple #[.bool c, .bool d]) := by rw [h1, h2]
theorem same_no {a b : Bd} (h : B1.good a = false ∨ B1.good b = false) : false = sameB a b ∧ false = sameOk a b := by
  have : sameOk a b = false := by rcases h with h | h <;> simp [sameOk, h]
  exact ⟨by simp [sameB, this], this.symm⟩
theorem same_yes {a b : Bd} (h : B1.good a = true) (h' : B1.good b = true) : ((idR a).toList == (idR b).toList) = sameB a b ∧ true = sameOk a b := by
  have : sameOk a b = true := by simp [sameOk, h, h']
  exact ⟨by simp [sameB, this], this.symm⟩
end Go.Proofs.YtcpfbgogfhlmjaaDoor
