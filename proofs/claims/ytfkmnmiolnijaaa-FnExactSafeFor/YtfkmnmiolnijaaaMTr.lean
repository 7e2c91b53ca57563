/- Trees told by who is above each node: which rows are trees; the numbers of those for whom something is so. -/
import Derived.Test.YtfkmnmiolnijaaaRows
import Derived.Test.YtfkmnmiolnijaaaM5
import Derived.Test.YtfkmnmiolnijaaaMRetB
namespace Go.Proofs.Ytfkmnmiolnijaaa
open Go.RowKit
namespace TR
/-- Those numbers, rising, for whom it is so. -/
def those (n : Nat) (P : Nat → Bool) : List Int := ((List.range n).filter P).map fun (i : Nat) => (i : Int)
theorem those_succ (n : Nat) (P : Nat → Bool) : those (n + 1) P = if P n = true then those n P ++ [(n : Int)] else those n P := by
  unfold those
  rw [List.range_succ, List.filter_append, List.map_append]
  by_cases c : P n = true
  · rw [if_pos c, List.filter_cons, if_pos c]; rfl
  · rw [if_neg c, List.filter_cons, if_neg c]; exact List.append_nil _
theorem those_yes {n : Nat} {P : Nat → Bool} (h : P n = true) : those (n + 1) P = those n P ++ [(n : Int)] := by rw [those_succ, if_pos h]
theorem those_no {n : Nat} {P : Nat → Bool} (h : P n = false) : those (n + 1) P = those n P := by rw [those_succ, h]; rfl
theorem those_len (n : Nat) (P : Nat → Bool) : (those n P).length ≤ n := by
  unfold those
  have := List.length_filter_le P (List.range n)
  simpa using this
theorem those_congr {n : Nat} {P Q : Nat → Bool} (h : ∀ i, i < n → P i = Q i) : those n P = those n Q := by
  unfold those
  rw [List.filter_congr (fun i hi => h i (List.mem_range.1 hi))]
theorem those_mem (n : Nat) (P : Nat → Bool) (x : Int) : x ∈ those n P ↔ ∃ i : Nat, i < n ∧ P i = true ∧ x = i := by
  simp only [those, List.mem_map, List.mem_filter, List.mem_range]
  constructor
  · rintro ⟨i, ⟨h1, h2⟩, rfl⟩; exact ⟨i, h1, h2, rfl⟩
  · rintro ⟨i, h1, h2, rfl⟩; exact ⟨i, ⟨h1, h2⟩, rfl⟩
theorem those_lt (n : Nat) (P : Nat → Bool) : (those n P).Pairwise (· < ·) := by
  unfold those
  refine List.Pairwise.map _ (R := (· < ·)) (fun a b h => by omega) (List.Pairwise.filter _ List.pairwise_lt_range)
theorem own_snoc {w : World} {B n : Nat} {v : Value} {l : List Int} {z : Int} (h : w.ownsRow B 3 1 v (l.length + 1) (M4.iv l ++ [.int .i64 z])) (hn : (l ++ [z]).length = n) : w.ownsRow B 3 1 v n (M4.iv (l ++ [z])) := by
  subst hn
  simpa [M4.iv] using h
theorem own_mono {w : World} {B B' e sz n : Nat} {v : Value} {xs : List Value} (h : w.ownsRow B e sz v n xs) (hb : B' ≤ B) : w.ownsRow B' e sz v n xs := by
  refine ⟨h.1, ?_⟩
  rcases h.2 with h' | ⟨g', cap, cur, hv, hB, rest⟩
  · exact .inl h'
  · exact .inr ⟨g', cap, cur, hv, by omega, rest⟩
/-- Who is above the node i is as it must be. -/
def At (xs : List Int) (i : Nat) : Prop := if i = 0 then xs.getD i 0 = -1 else 0 ≤ xs.getD i 0 ∧ xs.getD i 0 < i
instance (xs : List Int) (i : Nat) : Decidable (At xs i) := by unfold At; exact inferInstance
def Up (xs : List Int) (k : Nat) : Prop := ∀ i, i < k → At xs i
instance (xs : List Int) (k : Nat) : Decidable (Up xs k) := by unfold Up; exact inferInstance
theorem Up.succ {xs : List Int} {k : Nat} (h : Up xs k) (ha : At xs k) : Up xs (k + 1) := fun i hi => by
  by_cases e : i = k
  · rw [e]; exact ha
  · exact h i (by omega)
def tree (xs : List Int) : Bool := decide ((1 ≤ xs.length ∧ xs.length ≤ 8) ∧ Up xs xs.length)
theorem tree_iff (xs : List Int) : tree xs = true ↔ (1 ≤ xs.length ∧ xs.length ≤ 8) ∧ Up xs xs.length := by simp [tree]
theorem tree_len {xs : List Int} (h : ¬ (1 ≤ xs.length ∧ xs.length ≤ 8)) : tree xs = false := by
  simp only [tree, decide_eq_false_iff_not]; exact fun c => h c.1
theorem tree_no {xs : List Int} {i : Nat} (hi : i < xs.length) (h : ¬ At xs i) : tree xs = false := by
  simp only [tree, decide_eq_false_iff_not]; exact fun c => h (c.2 i hi)
theorem tree_yes {xs : List Int} (hl : 1 ≤ xs.length ∧ xs.length ≤ 8) (h : Up xs xs.length) : tree xs = true := (tree_iff xs).2 ⟨hl, h⟩
theorem at_zero (xs : List Int) : At xs 0 ↔ xs.getD 0 0 = -1 := by simp [At]
theorem at_pos (xs : List Int) {i : Nat} (h : 0 < i) : At xs i ↔ 0 ≤ xs.getD i 0 ∧ xs.getD i 0 < i := by unfold At; rw [if_neg (by omega)]
theorem up_one {xs : List Int} (h : xs.getD 0 0 = -1) : Up xs 1 := fun i hi => by
  obtain rfl : i = 0 := by omega
  exact (at_zero xs).2 h
/-- The numbers of a node's children. -/
def kids (xs : List Int) (node : Int) : List Int := those xs.length fun i => decide (0 < i) && decide (xs.getD i 0 = node)
theorem kids_is {xs : List Int} {node : Int} (h : tree xs = true) (hn : 0 ≤ node) : those xs.length (fun i => decide (xs.getD i 0 = node)) = kids xs node := by
  obtain ⟨hl, hu⟩ := (tree_iff xs).1 h
  refine those_congr fun i hi => ?_
  cases i with
  | zero =>
    have := (at_zero xs).1 (hu 0 hi)
    simp only [this, Nat.lt_irrefl, decide_false, Bool.false_and, decide_eq_false_iff_not]
    omega
  | succ i => simp
end TR
end Go.Proofs.Ytfkmnmiolnijaaa
