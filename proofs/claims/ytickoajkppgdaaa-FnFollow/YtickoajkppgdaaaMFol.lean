/- Going on by the plan, step by step: plain facts. -/
import Derived.Test.YtickoajkppgdaaaMStep
import Derived.Test.YtickoajkppgdaaaM5
namespace Go.Proofs.Ytickoajkppgdaaa
open Go.RowKit
namespace GP
open PN FL
/-- From a node and a time on, so many steps at most; what was gone is kept. -/
def fol (xs : List I5) (b : Bd) (t : Int) : Nat → List Int → Int → Int → Option (List Int × Int)
  | 0, _, _, _ => none
  | f + 1, os, v, n => if v = t then some (os, n) else if stepOk xs b v n t = true then fol xs b t f (os ++ [stepK xs b v n t]) (ofN xs (stepK xs b v n t)).a1 (stepT xs b v n t) else none
def folA (xs : List I5) (b : Bd) (t : Int) : Option (List Int × Int) := if fitsB xs b = true then fol xs b t 21 [] b.fr b.md else none
def folL : Option (List Int × Int) → List Int
  | some (os, _) => os
  | none => []
def folN : Option (List Int × Int) → Int
  | some (_, n) => n
  | none => 0
theorem fol_end {xs : List I5} {b : Bd} {t : Int} (f : Nat) (os : List Int) (n : Int) : fol xs b t (f + 1) os t n = some (os, n) := by simp [fol]
theorem fol_stop {xs : List I5} {b : Bd} {t : Int} {f : Nat} {os : List Int} {v n : Int} (hv : v ≠ t) (h : stepOk xs b v n t = false) : fol xs b t (f + 1) os v n = none := by simp [fol, hv, h]
theorem fol_full {xs : List I5} {b : Bd} {t : Int} {os : List Int} {v n : Int} (hv : v ≠ t) : fol xs b t 1 os v n = none := by simp [fol, hv]
theorem fol_step {xs : List I5} {b : Bd} {t : Int} {f : Nat} {os : List Int} {v n : Int} (hv : v ≠ t) (h : stepOk xs b v n t = true) : fol xs b t (f + 1) os v n = fol xs b t f (os ++ [stepK xs b v n t]) (ofN xs (stepK xs b v n t)).a1 (stepT xs b v n t) := by simp [fol, hv, h]
theorem fol_len {xs : List I5} {b : Bd} {t : Int} : ∀ (f : Nat) (os : List Int) (v n : Int), (folL (fol xs b t f os v n)).length ≤ os.length + f
  | 0, os, _, _ => by simp [fol, folL]
  | f + 1, os, v, n => by
    rw [fol]
    split
    · simp [folL]
    · split
      · have := fol_len (xs := xs) (b := b) (t := t) f (os ++ [stepK xs b v n t]) (ofN xs (stepK xs b v n t)).a1 (stepT xs b v n t)
        simp only [List.length_append, List.length_singleton] at this
        omega
      · simp [folL]
theorem folA_len (xs : List I5) (b : Bd) (t : Int) : (folL (folA xs b t)).length ≤ 1048576 := by
  unfold folA
  split
  · have := fol_len (xs := xs) (b := b) (t := t) 21 [] b.fr b.md
    simp only [List.length_nil] at this
    omega
  · simp [folL]
theorem folA_no {xs : List I5} {b : Bd} {t : Int} (h : fitsB xs b = false) : folA xs b t = none := by simp [folA, h]
theorem folA_yes {xs : List I5} {b : Bd} {t : Int} (h : fitsB xs b = true) : fol xs b t 21 [] b.fr b.md = folA xs b t := by simp [folA, h]
/-- Nothing leads to what is no node. -/
theorem folA_node {xs : List I5} {b : Bd} {t : Int} (h : nodeOk t = false) : folA xs b t = none := by
  unfold folA
  split
  · next hf =>
    obtain ⟨_, _, _, hn, _⟩ := fits_is hf
    have ht : ¬ (0 ≤ t ∧ t ≤ 7) := by simpa [nodeOk] using h
    have hs : stepOk xs b b.fr b.md t = false := by
      have ha : askOk xs b.fr b.md t = false := by
        unfold askOk
        rw [decide_eq_false ht, Bool.and_false]
      unfold stepOk
      rw [route_no ha]
      simp [tellB]
    exact fol_stop (f := 20) (fun e => ht (e ▸ hn)) hs
  · rfl
/-- The contact of a step is one of the plan. -/
theorem step_in {xs : List I5} {b : Bd} {f n t : Int} (h : stepOk xs b f n t = true) : ∃ i : Nat, stepK xs b f n t = (i : Int) ∧ i < xs.length := by
  have hk := (step_yes h).1
  simp only [stepOk, Bool.and_eq_true, decide_eq_true_eq] at h
  obtain ⟨_, _, ⟨h0, h1⟩, _⟩ := first_of h.1.1.2 h.1.2
  exact ⟨(stepK xs b f n t).toNat, by rw [hk]; omega, by rw [hk]; omega⟩
end GP
end Go.Proofs.Ytickoajkppgdaaa
