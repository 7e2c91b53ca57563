/- Chosen jobs first, then the others, each by due time: plain facts; rows sorted. -/
import Derived.Test.YtgenmljnhlcpcaaMJT
import Derived.Test.YtgenmljnhlcpcaaMJO
import Derived.Test.YtgenmljnhlcpcaaCHasS
namespace Go.Proofs.Ytgenmljnhlcpcaa
namespace JD
open Go.RowKit
theorem sort_is {l l' : List Int} (h : l.Perm l') (hs : l'.Pairwise (· ≤ ·)) : l.mergeSort (fun x y => decide (x ≤ y)) = l' := by
  have tr : ∀ a b c : Int, decide (a ≤ b) = true → decide (b ≤ c) = true → decide (a ≤ c) = true := fun a b c h1 h2 => by simp only [decide_eq_true_eq] at *; omega
  have to : ∀ a b : Int, (decide (a ≤ b) || decide (b ≤ a)) = true := fun a b => by simp only [Bool.or_eq_true, decide_eq_true_eq]; omega
  refine List.Perm.eq_of_pairwise (le := fun a b => a ≤ b) (fun a b _ _ h1 h2 => by omega) ?_ hs ((List.mergeSort_perm l _).trans h)
  have := List.pairwise_mergeSort tr to l
  exact this.imp fun h => by simpa using h
theorem nums_up (n : Nat) : (nums n).Pairwise (· < ·) := by
  unfold nums
  rw [List.pairwise_map]
  exact (List.pairwise_lt_range (n := n)).imp (fun h => by omega)
theorem up_only {l l' : List Int} (h : l.Pairwise (· < ·)) (h' : l'.Pairwise (· < ·)) (hm : ∀ z, z ∈ l ↔ z ∈ l') : l = l' := by
  have n1 : l.Nodup := h.imp (fun k => by omega)
  have n2 : l'.Nodup := h'.imp (fun k => by omega)
  refine List.Perm.eq_of_pairwise (le := fun a b => a < b) (fun a b _ _ h1 h2 => by omega) h h' ((List.perm_ext_iff_of_nodup n1 n2).2 hm)
theorem nums_chosen {n : Nat} {os : List Int} (h : EG.rises n os = true) : (nums n).filter (EG.hasB os) = os := by
  obtain ⟨h1, h2⟩ := (rises_iff n os).1 h
  refine up_only ((nums_up n).filter _) h2 (fun z => ?_)
  rw [List.mem_filter, nums_mem, EG.hasB, decide_eq_true_eq]
  exact ⟨fun k => k.2, fun k => ⟨h1 z k, k⟩⟩
/-- Those that are not chosen. -/
def rest (n : Nat) (os : List Int) : List Int := (nums n).filter (fun z => !EG.hasB os z)
theorem rest_succ (n : Nat) (os : List Int) : rest (n + 1) os = rest n os ++ (if EG.hasB os (n : Int) = true then [] else [(n : Int)]) := by
  unfold rest
  rw [nums_succ, List.filter_append]
  cases h : EG.hasB os (n : Int) <;> simp [h]
theorem rest_len (n : Nat) (os : List Int) : (rest n os).length ≤ n := by
  have := List.length_filter_le (fun z => !EG.hasB os z) (nums n)
  rw [nums_len] at this; exact this
theorem rest_mem {n : Nat} {os : List Int} {z : Int} (h : z ∈ rest n os) : 0 ≤ z ∧ z < n := (nums_mem n z).1 (List.mem_filter.1 h).1
def chN (os : List Int) (z : Int) : Nat := if EG.hasB os z = true then 0 else 1
theorem ch_lt (os : List Int) (z : Int) : chN os z < 2 := by unfold chN; split <;> omega
theorem order_is {xs : List I2} {os : List Int} (h : EG.rises xs.length os = true) : srt (chN os) (byD xs) 2 = srt (dueN xs) os 1001 ++ srt (dueN xs) (rest xs.length os) 1001 := by
  rw [srt_two (chN os) (EG.hasB os) (byD xs) (fun z => rfl)]
  unfold byD
  rw [srt_filter, srt_filter, nums_chosen h]
  rfl
/-- The answer. -/
noncomputable def ordOk (xs : List I2) (os : List Int) : Bool := okP xs && EG.rises xs.length os
noncomputable def ordL (xs : List I2) (os : List Int) : List Int := if ordOk xs os = true then srt (chN os) (byD xs) 2 else []
theorem ordL_no {xs : List I2} {os : List Int} (h : ordOk xs os = false) : ordL xs os = [] := by simp [ordL, h]
theorem ordL_yes {xs : List I2} {os : List Int} (h : ordOk xs os = true) : ordL xs os = srt (chN os) (byD xs) 2 := by simp [ordL, h]
theorem ordOk_is {xs : List I2} {os : List Int} (h : ordOk xs os = true) : okP xs = true ∧ EG.rises xs.length os = true := by unfold ordOk at h; rwa [Bool.and_eq_true] at h
theorem ordL_len1 {xs : List I2} {os : List Int} (h : ordOk xs os = true) : (ordL xs os).length = xs.length := by
  rw [ordL_yes h, srt_all _ (fun z _ => ch_lt os z), byD_len (ordOk_is h).1]
theorem ordL_len (xs : List I2) (os : List Int) : (ordL xs os).length ≤ 1048576 := by
  cases h : ordOk xs os
  · rw [ordL_no h]; simp
  · rw [ordL_len1 h]; have := ((okP_iff xs).1 (ordOk_is h).1).1; omega
theorem rise_small {xs : List I2} {os : List Int} (h : ordOk xs os = true) : os.length ≤ 10 := by
  obtain ⟨h1, h2⟩ := ordOk_is h
  have := nums_chosen h2
  have h3 := List.length_filter_le (EG.hasB os) (nums xs.length)
  rw [this, nums_len] at h3
  have := ((okP_iff xs).1 h1).1
  omega
theorem rise_rng {xs : List I2} {os : List Int} (h : ordOk xs os = true) : ∀ z, z ∈ os → 0 ≤ z ∧ z < xs.length := ((rises_iff _ _).1 (ordOk_is h).2).1
theorem rise_count {xs : List I2} {os : List Int} (h : ordOk xs os = true) : os.length + (rest xs.length os).length = xs.length := by
  have h1 := ordL_len1 h
  rw [ordL_yes h, order_is (ordOk_is h).2, List.length_append] at h1
  have h2 : (srt (dueN xs) os 1001).length = os.length := srt_all _ (fun z hz => due_lt (ordOk_is h).1 (rise_rng h z hz).1 (rise_rng h z hz).2)
  have h3 : (srt (dueN xs) (rest xs.length os) 1001).length = (rest xs.length os).length := srt_all _ (fun z hz => due_lt (ordOk_is h).1 (rest_mem hz).1 (rest_mem hz).2)
  omega
end JD
end Go.Proofs.Ytgenmljnhlcpcaa
