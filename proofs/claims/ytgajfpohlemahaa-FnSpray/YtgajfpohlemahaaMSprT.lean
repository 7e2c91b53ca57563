/- What nodes with tokens have together, and who they are: plain facts. -/
import Derived.Test.YtgajfpohlemahaaMSprG
namespace Go.Proofs.Ytgajfpohlemahaa
open Go.RowKit
namespace SP
def sf {m : Nat} (zs : List Int) (l : List (Fin m)) : Int := l.foldl (fun s x => s + zs.getD x.val 0) 0
theorem sf_snoc {m : Nat} (zs : List Int) (l : List (Fin m)) (x : Fin m) : sf zs (l ++ [x]) = sf zs l + zs.getD x.val 0 := by simp [sf, List.foldl_append]
theorem sf_up (zs : List Int) (m k : Nat) (hk : k ≤ m) : sf zs (up m (has zs) k) = sm zs k := by
  induction k with
  | zero => rfl
  | succ k ih =>
    have ih := ih (by omega)
    by_cases hz : zs.getD k 0 = 0
    · rw [up_no (decide_eq_false fun h => h hz), sm, hz, ih, Int.add_zero]
    · rw [up_yes (by omega : k < m) (decide_eq_true hz), sf_snoc, sm, ih]
theorem good_each {zs : List Int} {t : Int} (h : good zs t = true) : ∀ j : Nat, j < zs.length → 0 ≤ zs.getD j 0 ∧ zs.getD j 0 ≤ 64 := fun j hj => by
  by_cases hb : 0 ≤ zs.getD j 0 ∧ zs.getD j 0 ≤ 64
  · exact hb
  · rw [good_bad hj hb] at h; cases h
theorem good_len {zs : List Int} {t : Int} (h : good zs t = true) : 2 ≤ zs.length ∧ zs.length ≤ 8 := (of_decide_eq_true h).1
theorem good_to {zs : List Int} {t : Int} (h : good zs t = true) : 0 ≤ t ∧ t < zs.length := (of_decide_eq_true h).2.1
/-- Numbers of nodes. -/
def nv {m : Nat} (l : List (Fin m)) : List Int := l.map fun x => (x.val : Int)
theorem nv_snoc {m : Nat} (l : List (Fin m)) (x : Fin m) : nv (l ++ [x]) = nv l ++ [(x.val : Int)] := by simp [nv]
theorem nv_len {m : Nat} (l : List (Fin m)) : (nv l).length = l.length := by simp [nv]
/-- The specification's way: nodes with more than no tokens. -/
def cr (zs : List Int) : Nat → List Int
  | 0 => []
  | k + 1 => if 0 < zs.getD k 0 then cr zs k ++ [(k : Int)] else cr zs k
theorem cr_up {zs : List Int} (h : ∀ j : Nat, j < zs.length → 0 ≤ zs.getD j 0 ∧ zs.getD j 0 ≤ 64) (k : Nat) (hk : k ≤ zs.length) : nv (up zs.length (has zs) k) = cr zs k := by
  induction k with
  | zero => rfl
  | succ k ih =>
    have ih := ih (by omega)
    have hj := h k (by omega)
    by_cases hz : zs.getD k 0 = 0
    · rw [up_no (decide_eq_false fun h => h hz), cr, if_neg (by omega), ih]
    · rw [up_yes (by omega : k < zs.length) (decide_eq_true hz), nv_snoc, cr, if_pos (by omega), ih]
theorem cr_len (zs : List Int) (k : Nat) : (cr zs k).length ≤ k := by
  induction k with
  | zero => simp [cr]
  | succ k ih =>
    rw [cr]
    split
    · simp; omega
    · omega
end SP
end Go.Proofs.Ytgajfpohlemahaa
