/- Whether a number is in a row: slices.Index, slices.Contains of the program. -/
import Derived.Test.YtfkmnmiolnijaaaRows
import Derived.Test.YtfkmnmiolnijaaaMHasB
import Derived.Test.YtfkmnmiolnijaaaM5
import Derived.Test.YtfkmnmiolnijaaaMRetB
import Derived.WalkKit
import Derived.WalkSpells
import Derived.WalkLawsBesides
import Derived.Outline
namespace Go.Proofs.Ytfkmnmiolnijaaa
open Go.RowKit
set_option maxHeartbeats 1600000 in
set_option maxRecDepth 100000 in
theorem indexI_any (a : Option Addr) (cap : Nat) (zs : List Int) (x : Int) (w : World) (ho : zs.length ≤ 1048576) (hos : M4.IntsAt w a zs) :
    Calls Try.prog 65 #[.slice a zs.length cap, .int .i64 x] w fun e w' => ∃ i : Int, e = .returned (.int .i64 i) ∧ decide (0 ≤ i) = EG.hasB zs x ∧ w = w' := by
  go_enter Try.func65, Try.ntmps65
  go_wp2
  go_loopw [8] (fun iv wr => ∃ k : Nat, iv = .int .i64 k ∧ k ≤ zs.length ∧ Hid (EG.noUp zs x k) ∧ w = wr) (fun iv _ => (zs.length - intOf iv).toNat)
  case atStart => exact ⟨0, rfl, by omega, show Hid _ from fun j hj => by omega, rfl⟩
  case round =>
    obtain ⟨k, rfl, hk, hT, rfl⟩ := hrel
    by_cases hlk : k < zs.length
    · obtain ⟨b1, off1, rfl, hlt1, hc1⟩ := hos.at hlk
      have HY : Hid _ := fun h => EG.hasB_yes (x := x) hlk h
      have HN : Hid _ := fun h => EG.noUp_succ hT.out (k := k) h
      clear hos hT
      generalize zs.getD k 0 = y at *
      by_cases hxy : y = x
      · have hF : Hid _ := HY.out hxy
        subst hxy
        clear HY HN
        go_wp2
        go_ret
        exact ⟨k, rfl, by rw [hF.out]; simp, rfl⟩
      · have hT : Hid _ := HN.out hxy
        clear HY HN
        go_wp2
        go_roundw
        case rel => exact ⟨k + 1, by go_num, by omega, hT, trivial⟩
        case measure => simp [intOf]; omega
    · obtain rfl : k = zs.length := by omega
      have hF : Hid _ := EG.hasB_no hT.out
      clear hos hT
      go_wp2
      go_ret
      exact ⟨-1, rfl, by rw [hF.out]; rfl, rfl⟩
set_option maxHeartbeats 400000 in
set_option maxRecDepth 100000 in
theorem containsI_any (a : Option Addr) (cap : Nat) (zs : List Int) (x : Int) (w : World) (ho : zs.length ≤ 1048576) (hos : M4.IntsAt w a zs) :
    Calls Try.prog 51 #[.slice a zs.length cap, .int .i64 x] w fun e w' => e = .returned (.bool (EG.hasB zs x)) ∧ w = w' := by
  have IX : Hid _ := indexI_any a cap zs x w ho hos
  clear hos
  go_enter Try.func51, Try.ntmps51
  go_wp2_with fail
  refine Calls.mono IX.out ?_
  rintro e w1 ⟨i, rfl, hi, rfl⟩
  clear IX
  go_wp2
  go_ret
  exact ⟨retB7 (by first | rfl | exact hi), rfl⟩
end Go.Proofs.Ytfkmnmiolnijaaa
