/- Edges: plain facts, over whatever program. -/
import Derived.Test.YtdgflhgbcfehhaaMI3
namespace Go.Proofs.Ytdgflhgbcfehhaa
namespace EG
open Go.RowKit
/-- An edge that there may be. -/
def okE (c : I3) : Bool := decide (0 ≤ c.a0 ∧ c.a0 ≤ 7 ∧ 0 ≤ c.a1 ∧ c.a1 ≤ 7 ∧ c.a0 ≠ c.a1 ∧ 0 ≤ c.a2 ∧ c.a2 ≤ 1000)
def okUp (xs : List I3) (k : Nat) : Prop := ∀ j, j < k → okE (MI3.at_ xs j) = true
def okP (xs : List I3) : Bool := decide (xs.length ≤ 24) && xs.all okE
theorem all_iff (xs : List I3) : xs.all okE = true ↔ okUp xs xs.length := by
  rw [List.all_eq_true]
  constructor
  · intro h j hj
    rw [MI3.at_eq xs j hj]; exact h _ (List.getElem_mem hj)
  · intro h x hx
    obtain ⟨j, hj, rfl⟩ := List.mem_iff_getElem.1 hx
    rw [← MI3.at_eq xs j hj]; exact h j hj
theorem okP_iff (xs : List I3) : okP xs = true ↔ xs.length ≤ 24 ∧ okUp xs xs.length := by
  unfold okP; rw [Bool.and_eq_true, decide_eq_true_eq, all_iff]
theorem okP_no_len {xs : List I3} (h : 24 < xs.length) : okP xs = false := by
  rw [Bool.eq_false_iff]; intro e; have := (okP_iff xs).1 e; omega
theorem okP_no {xs : List I3} {k : Nat} (hk : k < xs.length) (h : okE (MI3.at_ xs k) = false) : okP xs = false := by
  rw [Bool.eq_false_iff]; intro e; have := ((okP_iff xs).1 e).2 k hk; rw [h] at this; cases this
theorem okUp_succ {xs : List I3} {k : Nat} (h : okUp xs k) (hc : okE (MI3.at_ xs k) = true) : okUp xs (k + 1) := by
  intro j hj
  by_cases e : j = k
  · subst e; exact hc
  · exact h j (by omega)
/-- What a good edge is. -/
structure Good (c : I3) : Prop where
  f0 : 0 ≤ c.a0
  f1 : c.a0 ≤ 7
  t0 : 0 ≤ c.a1
  t1 : c.a1 ≤ 7
  ne : c.a0 ≠ c.a1
  c0 : 0 ≤ c.a2
  c1 : c.a2 ≤ 1000
theorem good_of {c : I3} (h : okE c = true) : Good c := by
  simp only [okE, decide_eq_true_eq] at h
  obtain ⟨a, b, c, d, e, f, g⟩ := h
  exact ⟨a, b, c, d, e, f, g⟩
theorem okP_good {xs : List I3} (h : okP xs = true) {k : Nat} (hk : k < xs.length) : Good (MI3.at_ xs k) := good_of (((okP_iff xs).1 h).2 k hk)
/-- Numbers that rise below n: the first k. -/
def riseUp (n : Nat) (os : List Int) (k : Nat) : Prop := ∀ i, i < k → 0 ≤ os.getD i 0 ∧ os.getD i 0 < n ∧ (0 < i → os.getD (i - 1) 0 < os.getD i 0)
open Classical in
noncomputable def rises (n : Nat) (os : List Int) : Bool := decide (riseUp n os os.length)
theorem rises_yes {n : Nat} {os : List Int} (h : riseUp n os os.length) : rises n os = true := by simpa only [rises, decide_eq_true_eq] using h
theorem rises_is {n : Nat} {os : List Int} (h : rises n os = true) : riseUp n os os.length := by simpa only [rises, decide_eq_true_eq] using h
theorem rises_no {n : Nat} {os : List Int} {k : Nat} (hk : k < os.length) (h : ¬ (0 ≤ os.getD k 0 ∧ os.getD k 0 < n ∧ (0 < k → os.getD (k - 1) 0 < os.getD k 0))) : rises n os = false := by
  simp only [rises, decide_eq_false_iff_not]; intro e; exact h (e k hk)
theorem riseUp_succ {n : Nat} {os : List Int} {k : Nat} (h : riseUp n os k) (h1 : 0 ≤ os.getD k 0 ∧ os.getD k 0 < n ∧ (0 < k → os.getD (k - 1) 0 < os.getD k 0)) : riseUp n os (k + 1) := by
  intro i hi
  by_cases e : i = k
  · subst e; exact h1
  · exact h i (by omega)
end EG
end Go.Proofs.Ytdgflhgbcfehhaa
