/- areTwoOf. -/
import Derived.Test.YtfkmnmiolnijaaaRows
import Derived.Test.YtfkmnmiolnijaaaM5
import Derived.Test.YtfkmnmiolnijaaaCWith7
import Derived.WalkKit
import Derived.WalkSpells
import Derived.WalkLawsBesides
import Derived.Outline
namespace Go.Proofs.Ytfkmnmiolnijaaa
open Go.RowKit
namespace SP
def two (n a b : Int) : Bool := decide ((0 ≤ a ∧ a ≤ n - 1) ∧ (0 ≤ b ∧ b ≤ n - 1) ∧ a ≠ b)
end SP
set_option maxHeartbeats 800000 in
set_option maxRecDepth 100000 in
theorem areTwoOf_any (n a b : Int) (w : World) (h1 : 0 ≤ n) (h2 : n ≤ 1048576) : Calls Try.prog 59 #[.int .i64 n, .int .i64 a, .int .i64 b] w fun e w' => e = .returned (.bool (SP.two n a b)) ∧ w = w' := by
  have IW : Hid (∀ (n lo hi : Int) (W : World), Calls Try.prog 30 #[.int .i64 n, .int .i64 lo, .int .i64 hi] W fun e w' => e = .returned (.bool (decide (lo ≤ n ∧ n ≤ hi))) ∧ W = w') := fun n lo hi W => within7_any n lo hi W
  by_cases ha : 0 ≤ a ∧ a ≤ n - 1
  · have ea : decide (0 ≤ a ∧ a ≤ n - 1) = true := decide_eq_true ha
    by_cases hb : 0 ≤ b ∧ b ≤ n - 1
    · have eb : decide (0 ≤ b ∧ b ≤ n - 1) = true := decide_eq_true hb
      by_cases hab : a = b
      · have e : SP.two n a b = false := decide_eq_false fun h => h.2.2 hab
        rw [e]
        have e3 : (a == b) = true := by simp [hab]
        clear e ha hb hab
        go_enter Try.func59, Try.ntmps59
        go_wp2_with fail
        refine (IW.out _ _ _ _).mono ?_
        rintro e w1 ⟨rfl, rfl⟩
        rw [ea]
        go_wp2_with fail
        refine (IW.out _ _ _ _).mono ?_
        rintro e w1 ⟨rfl, rfl⟩
        rw [eb]
        go_wp2
        go_ret
        exact ⟨M4.ret_bool (by simp_all), rfl⟩
      · have e : SP.two n a b = true := decide_eq_true ⟨ha, hb, hab⟩
        rw [e]
        have e3 : (a == b) = false := by simp [hab]
        clear e ha hb
        go_enter Try.func59, Try.ntmps59
        go_wp2_with fail
        refine (IW.out _ _ _ _).mono ?_
        rintro e w1 ⟨rfl, rfl⟩
        rw [ea]
        go_wp2_with fail
        refine (IW.out _ _ _ _).mono ?_
        rintro e w1 ⟨rfl, rfl⟩
        rw [eb]
        go_wp2
        go_ret
        exact ⟨M4.ret_bool (by simp_all), rfl⟩
    · have eb : decide (0 ≤ b ∧ b ≤ n - 1) = false := decide_eq_false hb
      have e : SP.two n a b = false := decide_eq_false fun h => hb h.2.1
      rw [e]
      clear e ha hb
      go_enter Try.func59, Try.ntmps59
      go_wp2_with fail
      refine (IW.out _ _ _ _).mono ?_
      rintro e w1 ⟨rfl, rfl⟩
      rw [ea]
      go_wp2_with fail
      refine (IW.out _ _ _ _).mono ?_
      rintro e w1 ⟨rfl, rfl⟩
      rw [eb]
      go_wp2
      go_ret
      exact ⟨rfl, rfl⟩
  · have ea : decide (0 ≤ a ∧ a ≤ n - 1) = false := decide_eq_false ha
    have e : SP.two n a b = false := decide_eq_false fun h => ha h.1
    rw [e]
    clear e ha
    go_enter Try.func59, Try.ntmps59
    go_wp2_with fail
    refine (IW.out _ _ _ _).mono ?_
    rintro e w1 ⟨rfl, rfl⟩
    rw [ea]
    go_wp2
    go_ret
    exact ⟨rfl, rfl⟩
end Go.Proofs.Ytfkmnmiolnijaaa
