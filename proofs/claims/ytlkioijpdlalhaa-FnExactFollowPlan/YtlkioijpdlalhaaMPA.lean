/- Going along a row of contacts: plain facts. -/
import Derived.Test.YtlkioijpdlalhaaCFloat
import Derived.Test.YtlkioijpdlalhaaMSta
import Derived.Test.YtlkioijpdlalhaaC6Row
namespace Go.Proofs.Ytlkioijpdlalhaa
open Go.RowKit
namespace PN
open FL
/-- When one is there behind the first k contacts of a row. -/
def mo (xs : List I5) (os : List Int) (n : Int) : Nat → Mo
  | 0 => .fin n
  | k + 1 => arr (ofN xs (os.getD k 0)) (mo xs os n k)
theorem good_of_in {xs : List I5} {os : List Int} (h : okP xs = true) (hi : inUp xs.length os os.length) {k : Nat} (hk : k < os.length) : Good (ofN xs (os.getD k 0)) := by
  have := hi k hk
  exact okP_good h (by omega)
theorem mo_okT {xs : List I5} {os : List Int} {n : Int} (h : okP xs = true) (hi : inUp xs.length os os.length) (h0 : 0 ≤ n) (h1 : n ≤ 1000) (k : Nat) (hk : k ≤ os.length) : okT (mo xs os n k) := by
  induction k with
  | zero => simp only [mo, okT]; omega
  | succ k ih => exact arr_okT (good_of_in h hi (by omega)) (ih (by omega))
theorem mo_inf {xs : List I5} {os : List Int} {n : Int} {k : Nat} (h : mo xs os n k = .inf) (d : Nat) : mo xs os n (k + d) = .inf := by
  induction d with
  | zero => exact h
  | succ d ih => show arr _ (mo xs os n (k + d)) = _; rw [ih]; rfl
def headOk (xs : List I5) (f : Int) (os : List Int) : Bool := os.isEmpty || decide ((ofN xs (os.getD 0 0)).a0 = f)
noncomputable def wayOk (xs : List I5) (f n : Int) (os : List Int) : Bool := startOk xs f n && rowB xs os && headOk xs f os
noncomputable def arrM (xs : List I5) (f n : Int) (os : List Int) : Mo := if wayOk xs f n os = true then mo xs os n os.length else .inf
theorem arrM_no {xs : List I5} {f n : Int} {os : List Int} (h : wayOk xs f n os = false) : arrM xs f n os = .inf := by simp [arrM, h]
theorem arrM_yes {xs : List I5} {f n : Int} {os : List Int} (h : wayOk xs f n os = true) : arrM xs f n os = mo xs os n os.length := by simp [arrM, h]
theorem rowB_is {xs : List I5} {os : List Int} (h : rowB xs os = true) : inUp xs.length os os.length ∧ chUp xs os os.length ∧ os.length ≤ 20 := by
  simp only [rowB, Bool.and_eq_true, decide_eq_true_eq] at h
  exact ⟨(inP_iff _ _).1 h.1.1, chain_is h.1.2, h.2⟩
/-- The node where one is behind the first k contacts. -/
def nodeAt (xs : List I5) (f : Int) (os : List Int) : Nat → Int
  | 0 => f
  | k + 1 => (ofN xs (os.getD k 0)).a1
/-- The first k contacts lead on from a node. -/
def goUp (xs : List I5) (f : Int) (os : List Int) (k : Nat) : Prop := ∀ i, i < k → (ofN xs (os.getD i 0)).a0 = nodeAt xs f os i
theorem goUp_iff {xs : List I5} {f : Int} {os : List Int} : goUp xs f os os.length ↔ (headOk xs f os = true ∧ chUp xs os os.length) := by
  constructor
  · intro h
    refine ⟨?_, fun i hi => (h (i + 1) hi).symm⟩
    unfold headOk
    cases os with
    | nil => rfl
    | cons o os =>
      simp only [Bool.or_eq_true, decide_eq_true_eq]
      exact .inr (h 0 (by simp))
  · rintro ⟨h1, h2⟩ i hi
    cases i with
    | zero =>
      unfold headOk at h1
      cases os with
      | nil => simp at hi
      | cons o os => show (ofN xs _).a0 = f; simpa using h1
    | succ i => exact (h2 i hi).symm
theorem goUp_succ {xs : List I5} {f : Int} {os : List Int} {k : Nat} (h : goUp xs f os k) (h1 : (ofN xs (os.getD k 0)).a0 = nodeAt xs f os k) : goUp xs f os (k + 1) := by
  intro i hi
  by_cases e : i = k
  · subst e; exact h1
  · exact h i (by omega)
theorem way_go {xs : List I5} {f n : Int} {os : List Int} (h1 : startOk xs f n = true) (h2 : inP xs.length os = true) (h3 : os.length ≤ 20) (h4 : goUp xs f os os.length) : wayOk xs f n os = true := by
  obtain ⟨a, b⟩ := goUp_iff.1 h4
  simp [wayOk, h1, rowB, h2, h3, a, chain_yes b]
theorem way_no {xs : List I5} {f n : Int} {os : List Int} {k : Nat} (hk : k < os.length) (h : (ofN xs (os.getD k 0)).a0 ≠ nodeAt xs f os k) : wayOk xs f n os = false := by
  rw [Bool.eq_false_iff]
  intro e
  simp only [wayOk, Bool.and_eq_true] at e
  exact h (goUp_iff.2 ⟨e.2, (rowB_is e.1.2).2.1⟩ k hk)
end PN
end Go.Proofs.Ytlkioijpdlalhaa
