/- MostIn, the program's and the specification's. -/
import Derived.Test.YtfdjmmoomokccaaRows
import Derived.Test.YtfdjmmoomokccaaCBk0
import Derived.Test.YtfdjmmoomokccaaCBkT
import Derived.WalkKit
import Derived.WalkSpells
import Derived.WalkLawsBesides
import Derived.Outline
namespace Go.Proofs.Ytfdjmmoomokccaa
open Go.RowKit
set_option linter.unusedSimpArgs false in
set_option maxHeartbeats 800000 in
set_option maxRecDepth 100000 in
theorem mostS_any (p u n : Int) (w : World) :
    Calls Try.prog 20 #[.int .i64 p, .int .i64 u, .int .i64 n] w fun e w' => e = .returned (.tuple #[.int .i64 (BK.mostI p u n), .bool (BK.okS p u && BK.okT n)]) ∧ w = w' := by
  have SZ : Hid (∀ W : World, Calls Try.prog 22 #[.int .i64 p, .int .i64 u] W fun e w' => e = .returned (.bool (BK.okS p u)) ∧ W = w') := fun W => sizesS_any p u W
  have TM : Hid (∀ W : World, Calls Try.prog 25 #[.int .i64 n] W fun e w' => e = .returned (.bool (BK.okT n)) ∧ W = w') := fun W => timeS_any n W
  cases hs : BK.okS p u
  · have hF : Hid (0 = BK.mostI p u n) := show 0 = BK.mostI p u n by simp [BK.mostI, hs]
    rw [hs] at SZ
    clear hs TM
    rw [Bool.false_and]
    generalize BK.mostI p u n = x at *
    go_enter Try.func20, Try.ntmps20
    go_wp2_with fail
    refine (SZ.out _).mono ?_
    rintro e w1 ⟨rfl, rfl⟩
    go_wp2
    go_ret2
    exact ⟨retIB13 hF.out rfl, rfl⟩
  · obtain ⟨p1, p2, u1, u2⟩ := BK.okS_iff.1 hs
    rw [Bool.true_and]
    cases ht : BK.okT n
    · have hF : Hid (0 = BK.mostI p u n) := show 0 = BK.mostI p u n by simp [BK.mostI, ht]
      rw [hs] at SZ
      rw [ht] at TM
      clear hs ht
      generalize BK.mostI p u n = x at *
      go_enter Try.func20, Try.ntmps20
      go_wp2_with fail
      refine (SZ.out _).mono ?_
      rintro e w1 ⟨rfl, rfl⟩
      go_wp2_with fail
      refine (TM.out _).mono ?_
      rintro e w1 ⟨rfl, rfl⟩
      go_wp2
      go_ret2
      exact ⟨retIB13 hF.out rfl, rfl⟩
    · obtain ⟨t1, t2⟩ := BK.okT_iff.1 ht
      have hF : Hid (u + n.tdiv p = BK.mostI p u n) := show u + n.tdiv p = BK.mostI p u n by simp [BK.mostI, hs, ht]
      have hq : 0 ≤ n.tdiv p ∧ n.tdiv p ≤ 1000000 := ⟨Int.tdiv_nonneg t1 (by omega), Int.le_trans (Int.tdiv_le_self _ t1) t2⟩
      rw [hs] at SZ
      rw [ht] at TM
      clear hs ht
      generalize BK.mostI p u n = x at *
      go_enter Try.func20, Try.ntmps20
      go_wp2_with fail
      refine (SZ.out _).mono ?_
      rintro e w1 ⟨rfl, rfl⟩
      go_wp2_with fail
      refine (TM.out _).mono ?_
      rintro e w1 ⟨rfl, rfl⟩
      clear SZ TM
      go_wp2
      go_ret2
      exact ⟨retIB13 hF.out rfl, rfl⟩
set_option linter.unusedSimpArgs false in
set_option maxHeartbeats 800000 in
set_option maxRecDepth 100000 in
theorem mostI_any (p u n : Int) (w : World) :
    Calls Try.prog 21 #[.int .i64 p, .int .i64 u, .int .i64 n] w fun e w' => e = .returned (.tuple #[.int .i64 (BK.mostI p u n), .bool (BK.okS p u && BK.okT n)]) ∧ w = w' := by
  have SZ : Hid (∀ W : World, Calls Try.prog 23 #[.int .i64 p, .int .i64 u] W fun e w' => e = .returned (.bool (BK.okS p u)) ∧ W = w') := fun W => sizesI_any p u W
  have TM : Hid (∀ W : World, Calls Try.prog 27 #[.int .i64 n] W fun e w' => e = .returned (.bool (BK.okT n)) ∧ W = w') := fun W => timeI_any n W
  cases hs : BK.okS p u
  · have hF : Hid (0 = BK.mostI p u n) := show 0 = BK.mostI p u n by simp [BK.mostI, hs]
    rw [hs] at SZ
    clear hs TM
    rw [Bool.false_and]
    generalize BK.mostI p u n = x at *
    go_enter Try.func21, Try.ntmps21
    go_wp2_with fail
    refine (SZ.out _).mono ?_
    rintro e w1 ⟨rfl, rfl⟩
    go_wp2
    go_ret2
    exact ⟨retIB13 hF.out rfl, rfl⟩
  · obtain ⟨p1, p2, u1, u2⟩ := BK.okS_iff.1 hs
    rw [Bool.true_and]
    cases ht : BK.okT n
    · have hF : Hid (0 = BK.mostI p u n) := show 0 = BK.mostI p u n by simp [BK.mostI, ht]
      rw [hs] at SZ
      rw [ht] at TM
      clear hs ht
      generalize BK.mostI p u n = x at *
      go_enter Try.func21, Try.ntmps21
      go_wp2_with fail
      refine (SZ.out _).mono ?_
      rintro e w1 ⟨rfl, rfl⟩
      go_wp2_with fail
      refine (TM.out _).mono ?_
      rintro e w1 ⟨rfl, rfl⟩
      go_wp2
      go_ret2
      exact ⟨retIB13 hF.out rfl, rfl⟩
    · obtain ⟨t1, t2⟩ := BK.okT_iff.1 ht
      have hF : Hid (u + n.tdiv p = BK.mostI p u n) := show u + n.tdiv p = BK.mostI p u n by simp [BK.mostI, hs, ht]
      have hq : 0 ≤ n.tdiv p ∧ n.tdiv p ≤ 1000000 := ⟨Int.tdiv_nonneg t1 (by omega), Int.le_trans (Int.tdiv_le_self _ t1) t2⟩
      rw [hs] at SZ
      rw [ht] at TM
      clear hs ht
      generalize BK.mostI p u n = x at *
      go_enter Try.func21, Try.ntmps21
      go_wp2_with fail
      refine (SZ.out _).mono ?_
      rintro e w1 ⟨rfl, rfl⟩
      go_wp2_with fail
      refine (TM.out _).mono ?_
      rintro e w1 ⟨rfl, rfl⟩
      clear SZ TM
      go_wp2
      go_ret2
      exact ⟨retIB13 hF.out rfl, rfl⟩
end Go.Proofs.Ytfdjmmoomokccaa
