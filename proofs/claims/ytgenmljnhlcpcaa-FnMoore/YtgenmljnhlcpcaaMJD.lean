/- Jobs: plain facts, over whatever program. -/
import Derived.Test.YtgenmljnhlcpcaaMI2
namespace Go.Proofs.Ytgenmljnhlcpcaa
namespace JD
open Go.RowKit
/-- A job that there may be. -/
def okE (c : I2) : Bool := decide (1 ≤ c.a0 ∧ c.a0 ≤ 100 ∧ 1 ≤ c.a1 ∧ c.a1 ≤ 1000)
def okUp (xs : List I2) (k : Nat) : Prop := ∀ j, j < k → okE (MI2.at_ xs j) = true
def okP (xs : List I2) : Bool := decide (xs.length ≤ 10) && xs.all okE
theorem all_iff (xs : List I2) : xs.all okE = true ↔ okUp xs xs.length := by
  rw [List.all_eq_true]
  constructor
  · intro h j hj
    rw [MI2.at_eq xs j hj]; exact h _ (List.getElem_mem hj)
  · intro h x hx
    obtain ⟨j, hj, rfl⟩ := List.mem_iff_getElem.1 hx
    rw [← MI2.at_eq xs j hj]; exact h j hj
theorem okP_iff (xs : List I2) : okP xs = true ↔ xs.length ≤ 10 ∧ okUp xs xs.length := by
  unfold okP; rw [Bool.and_eq_true, decide_eq_true_eq, all_iff]
theorem okP_no_len {xs : List I2} (h : 10 < xs.length) : okP xs = false := by
  rw [Bool.eq_false_iff]; intro e; have := (okP_iff xs).1 e; omega
theorem okP_no {xs : List I2} {k : Nat} (hk : k < xs.length) (h : okE (MI2.at_ xs k) = false) : okP xs = false := by
  rw [Bool.eq_false_iff]; intro e; have := ((okP_iff xs).1 e).2 k hk; rw [h] at this; cases this
theorem okUp_succ {xs : List I2} {k : Nat} (h : okUp xs k) (hc : okE (MI2.at_ xs k) = true) : okUp xs (k + 1) := by
  intro j hj
  by_cases e : j = k
  · subst e; exact hc
  · exact h j (by omega)
/-- What a good job is. -/
structure Good (c : I2) : Prop where
  l0 : 1 ≤ c.a0
  l1 : c.a0 ≤ 100
  d0 : 1 ≤ c.a1
  d1 : c.a1 ≤ 1000
theorem good_of {c : I2} (h : okE c = true) : Good c := by
  simp only [okE, decide_eq_true_eq] at h
  obtain ⟨a, b, c, d⟩ := h
  exact ⟨a, b, c, d⟩
theorem okP_good {xs : List I2} (h : okP xs = true) {k : Nat} (hk : k < xs.length) : Good (MI2.at_ xs k) := good_of (((okP_iff xs).1 h).2 k hk)
end JD
end Go.Proofs.Ytgenmljnhlcpcaa
