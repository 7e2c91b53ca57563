/- GoodBucket, the program's and the specification's. -/
import Derived.Test.YteedppngiknjlaaDoorRows
import Derived.Test.YteedppngiknjlaaDoorCBk0
import Derived.Test.YteedppngiknjlaaDoorCBkT
import Derived.WalkKit
import Derived.WalkSpells
import Derived.WalkLawsBesides
import Derived.Outline
namespace Go.Proofs.YteedppngiknjlaaDoor
open Go.RowKit
set_option linter.unusedSimpArgs false in
set_option maxHeartbeats 800000 in
set_option maxRecDepth 100000 in
theorem goodBS_any (b : Bk) (w : World) (R : Bool) (hR : Hid (BK.goodB b = R)) :
    Calls Tryd.prog 24 #[b.v] w fun e w' => e = .returned (.bool R) ∧ Below w.heap.size w w' := by
  obtain ⟨p, u, l, t⟩ := b
  have hB : ∀ o, Below w.heap.size w (w.alloc o) := fun o => (Below.refl _ w).alloc (Nat.le_refl _) o
  have SZ : Hid (∀ W : World, Calls Tryd.prog 39 #[.int .i64 p, .int .i64 u] W fun e w' => e = .returned (.bool (BK.okS p u)) ∧ W = w') := fun W => sizesS_any p u W
  cases hs : BK.okS p u
  · have hF : Hid (R = false) := by show R = false; rw [← hR.out]; simp only [BK.goodB, hs, Bool.false_and]
    rw [hs] at SZ
    clear hR hs
    go_enter Tryd.func24, Tryd.ntmps24
    go_wp2_with fail
    refine (SZ.out _).mono ?_
    rintro e w1 ⟨rfl, rfl⟩
    go_wp2
    go_ret
    exact ⟨retB13 hF.out.symm, hB _⟩
  · obtain ⟨m, hm⟩ : ∃ m, p * u = m := ⟨_, rfl⟩
    have hms := BK.mul_small hs
    rw [hm] at hms
    obtain ⟨hm1, hm2⟩ := hms
    have hR2 : Hid (decide (0 ≤ l ∧ l ≤ m ∧ 0 ≤ t ∧ t ≤ 1000000) = R) := by
      show decide _ = R
      rw [← hR.out]; simp only [BK.goodB, hs, hm, BK.okT, Bool.true_and]
      rw [Bool.eq_iff_iff]; simp only [Bool.and_eq_true, decide_eq_true_eq]; omega
    rw [hs] at SZ
    clear hR hs
    go_enter Tryd.func24, Tryd.ntmps24
    go_wp2_with fail
    refine (SZ.out _).mono ?_
    rintro e w1 ⟨rfl, rfl⟩
    go_wp2
    all_goals go_ret
    all_goals refine ⟨retB13 ?_, hB _⟩
    all_goals (rw [← hR2.out]; clear hR2 hB SZ)
    all_goals (rw [Bool.eq_iff_iff]; simp only [Bool.and_eq_true, decide_eq_true_eq, Bool.false_eq_true, false_iff] at *; omega)
set_option linter.unusedSimpArgs false in
set_option maxHeartbeats 800000 in
set_option maxRecDepth 100000 in
theorem goodBI_any (b : Bk) (w : World) (R : Bool) (hR : Hid (BK.goodB b = R)) :
    Calls Tryd.prog 12 #[b.v] w fun e w' => e = .returned (.bool R) ∧ Below w.heap.size w w' := by
  obtain ⟨p, u, l, t⟩ := b
  have hB : ∀ o, Below w.heap.size w (w.alloc o) := fun o => (Below.refl _ w).alloc (Nat.le_refl _) o
  have SZ : Hid (∀ W : World, Calls Tryd.prog 28 #[.int .i64 p, .int .i64 u] W fun e w' => e = .returned (.bool (BK.okS p u)) ∧ W = w') := fun W => sizesI_any p u W
  cases hs : BK.okS p u
  · have hF : Hid (R = false) := by show R = false; rw [← hR.out]; simp only [BK.goodB, hs, Bool.false_and]
    rw [hs] at SZ
    clear hR hs
    go_enter Tryd.func12, Tryd.ntmps12
    go_wp2_with fail
    refine (SZ.out _).mono ?_
    rintro e w1 ⟨rfl, rfl⟩
    go_wp2
    go_ret
    exact ⟨retB13 hF.out.symm, hB _⟩
  · obtain ⟨m, hm⟩ : ∃ m, p * u = m := ⟨_, rfl⟩
    have hms := BK.mul_small hs
    rw [hm] at hms
    obtain ⟨hm1, hm2⟩ := hms
    have hR2 : Hid (decide (0 ≤ l ∧ l ≤ m ∧ 0 ≤ t ∧ t ≤ 1000000) = R) := by
      show decide _ = R
      rw [← hR.out]; simp only [BK.goodB, hs, hm, BK.okT, Bool.true_and]
      rw [Bool.eq_iff_iff]; simp only [Bool.and_eq_true, decide_eq_true_eq]; omega
    rw [hs] at SZ
    clear hR hs
    go_enter Tryd.func12, Tryd.ntmps12
    go_wp2_with fail
    refine (SZ.out _).mono ?_
    rintro e w1 ⟨rfl, rfl⟩
    go_wp2
    all_goals go_ret
    all_goals refine ⟨retB13 ?_, hB _⟩
    all_goals (rw [← hR2.out]; clear hR2 hB SZ)
    all_goals (rw [Bool.eq_iff_iff]; simp only [Bool.and_eq_true, decide_eq_true_eq, Bool.false_eq_true, false_iff] at *; omega)
end Go.Proofs.YteedppngiknjlaaDoor
