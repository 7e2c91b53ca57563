/- Plans: plain facts, over whatever program. -/
import Derived.Test.YtjplabldiheggaaMI5
namespace Go.Proofs.Ytjplabldiheggaa
namespace PN
open Go.RowKit
/-- A contact that a plan may have. -/
def okC (c : I5) : Bool := decide (0 ≤ c.a0 ∧ c.a0 ≤ 7 ∧ 0 ≤ c.a1 ∧ c.a1 ≤ 7 ∧ c.a0 ≠ c.a1 ∧ 0 ≤ c.a3 ∧ c.a3 ≤ 1000 ∧ 0 ≤ c.a2 ∧ c.a2 < c.a3 ∧ 0 ≤ c.a4 ∧ c.a4 ≤ 100)
/-- The first k contacts of a plan are such. -/
def okUp (xs : List I5) (k : Nat) : Prop := ∀ j, j < k → okC (MI5.at_ xs j) = true
def okP (xs : List I5) : Bool := decide (xs.length ≤ 20) && xs.all okC
theorem all_iff (xs : List I5) : xs.all okC = true ↔ okUp xs xs.length := by
  rw [List.all_eq_true]
  constructor
  · intro h j hj
    rw [MI5.at_eq xs j hj]; exact h _ (List.getElem_mem hj)
  · intro h x hx
    obtain ⟨j, hj, rfl⟩ := List.mem_iff_getElem.1 hx
    rw [← MI5.at_eq xs j hj]; exact h j hj
theorem okP_iff (xs : List I5) : okP xs = true ↔ xs.length ≤ 20 ∧ okUp xs xs.length := by
  unfold okP; rw [Bool.and_eq_true, decide_eq_true_eq, all_iff]
theorem okP_no_len {xs : List I5} (h : 20 < xs.length) : okP xs = false := by
  rw [Bool.eq_false_iff]; intro e; have := (okP_iff xs).1 e; omega
theorem okP_no {xs : List I5} {k : Nat} (hk : k < xs.length) (h : okC (MI5.at_ xs k) = false) : okP xs = false := by
  rw [Bool.eq_false_iff]; intro e; have := ((okP_iff xs).1 e).2 k hk; rw [h] at this; cases this
theorem okUp_succ {xs : List I5} {k : Nat} (h : okUp xs k) (hc : okC (MI5.at_ xs k) = true) : okUp xs (k + 1) := by
  intro j hj
  by_cases e : j = k
  · subst e; exact hc
  · exact h j (by omega)
/-- What a good contact is. -/
structure Good (c : I5) : Prop where
  f0 : 0 ≤ c.a0
  f1 : c.a0 ≤ 7
  t0 : 0 ≤ c.a1
  t1 : c.a1 ≤ 7
  ne : c.a0 ≠ c.a1
  e0 : 0 ≤ c.a3
  e1 : c.a3 ≤ 1000
  s0 : 0 ≤ c.a2
  s1 : c.a2 < c.a3
  d0 : 0 ≤ c.a4
  d1 : c.a4 ≤ 100
theorem good_of {c : I5} (h : okC c = true) : Good c := by
  simp only [okC, decide_eq_true_eq] at h
  obtain ⟨a, b, c, d, e, f, g, h, i, j, k⟩ := h
  exact ⟨a, b, c, d, e, f, g, h, i, j, k⟩
theorem okP_good {xs : List I5} (h : okP xs = true) {k : Nat} (hk : k < xs.length) : Good (MI5.at_ xs k) := good_of (((okP_iff xs).1 h).2 k hk)
end PN
end Go.Proofs.Ytjplabldiheggaa
