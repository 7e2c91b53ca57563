/- isStart, the program's. -/
import Derived.Test.YtickoajkppgdaaaRows
import Derived.Test.YtickoajkppgdaaaCPlan
import Derived.Test.YtickoajkppgdaaaMSta
import Derived.Test.YtickoajkppgdaaaCSmall6
import Derived.WalkKit
import Derived.WalkSpells
import Derived.WalkLawsBesides
import Derived.Outline
import Derived.Deep.RegionHeld3
namespace Go.Proofs.Ytickoajkppgdaaa
open Go.RowKit
set_option maxHeartbeats 800000 in
set_option maxRecDepth 100000 in
theorem isStart_any (a : Option Addr) (ca : Nat) (xs : List I5) (f n : Int) (w : World) (hn : xs.length ≤ 1048576) (hin : MI5.RowAt w a xs) :
    Calls Try.prog 18 #[.slice a xs.length ca, .int .i64 f, .int .i64 n] w fun e w' => e = .returned (.bool (PN.startOk xs f n)) ∧ Below w.heap.size w w' := by
  have GP : Hid (∀ W : World, MI5.RowAt W a xs → Calls Try.prog 34 #[.slice a xs.length ca] W fun e w' => e = .returned (.bool (PN.okP xs)) ∧ Below W.heap.size W w') := fun W h => implGoodPlan_any a ca xs W hn h _ rfl
  have HI : Hid (MI5.RowAt w a xs) := hin
  have NI : Hid (∀ W : World, Calls Try.prog 19 #[.int .i64 f] W fun e w' => e = .returned (.bool (decide (0 ≤ f ∧ f ≤ 7))) ∧ W = w') := fun W => nodeI_any f W
  have WI : Hid (∀ W : World, Calls Try.prog 36 #[.int .i64 n] W fun e w' => e = .returned (.bool (decide (0 ≤ n ∧ n ≤ 1000))) ∧ W = w') := fun W => whenI_any n W
  clear hin
  obtain ⟨R, hR⟩ : ∃ R, PN.startOk xs f n = R := ⟨_, rfl⟩
  rw [hR]
  simp only [PN.startOk] at hR
  generalize decide (0 ≤ f ∧ f ≤ 7) = q1 at *
  generalize decide (0 ≤ n ∧ n ≤ 1000) = q2 at *
  generalize PN.okP xs = q0 at *
  have HR : Hid _ := hR
  clear hR
  go_enter Try.func18, Try.ntmps18
  go_wp2_with fail
  refine (GP.out _ HI.out).mono ?_
  rintro e w1 ⟨rfl, hb1⟩
  clear GP HI
  cases q0 with
  | false =>
    obtain rfl : R = false := by rw [← HR.out]; rfl
    go_wp2
    go_ret
    exact ⟨rfl, hb1⟩
  | true =>
    go_wp2_with fail
    refine (NI.out _).mono ?_
    rintro e w' ⟨rfl, rfl⟩
    cases q1 with
    | false =>
      obtain rfl : R = false := by rw [← HR.out]; rfl
      go_wp2
      go_ret
      exact ⟨rfl, hb1⟩
    | true =>
      go_wp2_with fail
      refine (WI.out _).mono ?_
      rintro e w' ⟨rfl, rfl⟩
      obtain rfl : R = q2 := by rw [← HR.out]; rfl
      go_wp2
      go_ret
      exact ⟨rfl, hb1⟩
end Go.Proofs.Ytickoajkppgdaaa
