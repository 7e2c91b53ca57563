/- A number put to its place in a rising row: plain facts. -/
import Derived.Test.YtjplabldiheggaaM4
namespace Go.Proofs.Ytjplabldiheggaa
namespace EG
/-- Put to its place. -/
def putS : List Int → Int → List Int
  | [], n => [n]
  | x :: l, n => if x < n then x :: putS l n else n :: x :: l
theorem putS_perm : ∀ (l : List Int) (n : Int), (putS l n).Perm (l ++ [n])
  | [], n => List.Perm.refl _
  | x :: l, n => by
    rw [putS]; split
    · exact (putS_perm l n).cons x
    · exact (List.perm_append_comm (l₁ := [n]) (l₂ := x :: l))
theorem putS_sorted : ∀ (l : List Int) (n : Int), l.Pairwise (· ≤ ·) → (putS l n).Pairwise (· ≤ ·)
  | [], n, _ => by simp [putS]
  | x :: l, n, h => by
    rw [List.pairwise_cons] at h
    rw [putS]; split
    · rename_i hx
      rw [List.pairwise_cons]
      refine ⟨fun y hy => ?_, putS_sorted l n h.2⟩
      have := (putS_perm l n).mem_iff.1 hy
      rcases List.mem_append.1 this with hy | hy
      · exact h.1 y hy
      · rw [List.mem_singleton.1 hy]; omega
    · rename_i hx
      rw [List.pairwise_cons, List.pairwise_cons]
      refine ⟨fun y hy => ?_, h.1, h.2⟩
      rcases List.mem_cons.1 hy with rfl | hy
      · omega
      · have := h.1 y hy; omega
theorem putS_at : ∀ (l : List Int) (n : Int) (k : Nat), k ≤ l.length → (∀ j, j < k → l.getD j 0 < n) → (k < l.length → n ≤ l.getD k 0) → putS l n = l.take k ++ n :: l.drop k
  | [], n, k, hk, h1, h2 => by simp [putS]
  | x :: l, n, 0, hk, h1, h2 => by
    have := h2 (by simp)
    rw [putS, if_neg (by simpa using this)]; rfl
  | x :: l, n, k + 1, hk, h1, h2 => by
    have h0 : x < n := by simpa using h1 0 (by omega)
    rw [putS, if_pos h0, putS_at l n k (by simpa using hk) (fun j hj => by simpa using h1 (j + 1) (by omega)) (fun hj => by simpa using h2 (by simpa using hj))]
    rfl
end EG
end Go.Proofs.Ytjplabldiheggaa
