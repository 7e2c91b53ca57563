/- Numbers of a row of so many: areNumbersOf of the program. -/
import Derived.Test.YtlkioijpdlalhaaRows
import Derived.Test.YtlkioijpdlalhaaM5
import Derived.Test.YtlkioijpdlalhaaMRetB
import Derived.WalkKit
import Derived.WalkSpells
import Derived.WalkLawsBesides
import Derived.Outline
namespace Go.Proofs.Ytlkioijpdlalhaa
open Go.RowKit
namespace PN
/-- The first k numbers are of a plan of n contacts. -/
def inUp (n : Nat) (os : List Int) (k : Nat) : Prop := ∀ i, i < k → 0 ≤ os.getD i 0 ∧ os.getD i 0 < n
def inP (n : Nat) (os : List Int) : Bool := os.all fun o => decide (0 ≤ o ∧ o < n)
theorem inP_iff (n : Nat) (os : List Int) : inP n os = true ↔ inUp n os os.length := by
  unfold inP inUp
  rw [List.all_eq_true]
  constructor
  · intro h i hi
    have := h _ (List.getElem_mem hi)
    rw [decide_eq_true_eq] at this
    rw [List.getD_eq_getElem?_getD, List.getElem?_eq_getElem hi]; exact this
  · intro h x hx
    obtain ⟨i, hi, rfl⟩ := List.mem_iff_getElem.1 hx
    have := h i hi
    rw [List.getD_eq_getElem?_getD, List.getElem?_eq_getElem hi] at this
    rw [decide_eq_true_eq]; exact this
theorem inUp_succ {n : Nat} {os : List Int} {k : Nat} (h : inUp n os k) (h1 : 0 ≤ os.getD k 0 ∧ os.getD k 0 < n) : inUp n os (k + 1) := by
  intro i hi
  by_cases e : i = k
  · subst e; exact h1
  · exact h i (by omega)
theorem inP_no {n : Nat} {os : List Int} {k : Nat} (hk : k < os.length) (h : ¬ (0 ≤ os.getD k 0 ∧ os.getD k 0 < n)) : inP n os = false := by
  rw [Bool.eq_false_iff]; intro e; exact h ((inP_iff n os).1 e k hk)
end PN
set_option maxHeartbeats 400000 in
set_option maxRecDepth 100000 in
theorem within9_any (n lo hi : Int) (w : World) : Calls Try.prog 46 #[.int .i64 n, .int .i64 lo, .int .i64 hi] w fun e w' => e = .returned (.bool (decide (lo ≤ n ∧ n ≤ hi))) ∧ w = w' := by
  by_cases h1 : lo ≤ n
  · go_enter Try.func46, Try.ntmps46
    go_wp2
    go_ret
    exact ⟨retB7 (by simp [h1]), rfl⟩
  · go_enter Try.func46, Try.ntmps46
    go_wp2
    go_ret
    exact ⟨retB7 (by rw [decide_eq_false (by omega : ¬ lo ≤ n)]; rfl), rfl⟩
set_option maxHeartbeats 1600000 in
set_option maxRecDepth 100000 in
theorem areNumbersOf_any (b : Option Addr) (cb : Nat) (n : Nat) (os : List Int) (w : World) (hn : n ≤ 1048576) (ho : os.length ≤ 1048576) (hos : M4.IntsAt w b os) (R : Bool) (hR : Hid (PN.inP n os = R)) :
    Calls Try.prog 51 #[.slice b os.length cb, .int .i64 (n : Int)] w fun e w' => e = .returned (.bool R) ∧ w = w' := by
  go_enter Try.func51, Try.ntmps51
  go_wp2
  go_loopw [9] (fun iv wr => ∃ k : Nat, iv = .int .i64 k ∧ k ≤ os.length ∧ Hid (PN.inUp n os k) ∧ w = wr) (fun iv _ => (os.length - intOf iv).toNat)
  case atStart => exact ⟨0, rfl, by omega, show Hid _ from fun i hi => by omega, rfl⟩
  case round =>
    obtain ⟨k, rfl, hk, hT, rfl⟩ := hrel
    by_cases hlk : k < os.length
    · obtain ⟨b1, off1, rfl, hlt1, hc1⟩ := hos.at hlk
      have HY : Hid _ := fun h => PN.inUp_succ hT.out (k := k) h
      have HN : Hid _ := fun h => PN.inP_no (n := n) hlk h
      clear hos hT
      generalize os.getD k 0 = o at *
      by_cases h0 : 0 ≤ o ∧ o < n
      · have hT : Hid _ := HY.out h0
        have h1 : decide (0 ≤ o ∧ o ≤ (n : Int) - 1) = true := by simp only [decide_eq_true_eq]; omega
        clear HN HY hR h0
        go_wp2_with fail
        refine (within9_any _ _ _ _).mono ?_
        rintro e w' ⟨rfl, rfl⟩
        rw [h1]
        go_wp2
        go_roundw
        case rel => exact ⟨k + 1, by go_num, by omega, hT, trivial⟩
        case measure => simp [intOf]; omega
      · have hF : Hid (R = false) := by rw [← hR.out, HN.out h0]; simp [Hid]
        have h1 : decide (0 ≤ o ∧ o ≤ (n : Int) - 1) = false := by simp only [decide_eq_false_iff_not]; omega
        clear HN HY hR h0
        go_wp2_with fail
        refine (within9_any _ _ _ _).mono ?_
        rintro e w' ⟨rfl, rfl⟩
        rw [h1]
        go_wp2
        go_ret
        exact ⟨retB7 hF.out.symm, rfl⟩
    · obtain rfl : k = os.length := by omega
      have hF : Hid (R = true) := by rw [← hR.out]; exact (PN.inP_iff n os).2 hT.out
      clear hos hT hR
      go_wp2
      go_ret
      exact ⟨retB7 hF.out.symm, rfl⟩
end Go.Proofs.Ytlkioijpdlalhaa
