/- Trees told by who is above each node: isTree of the program. -/
import Derived.Test.YtfkmnmiolnijaaaRows
import Derived.Test.YtfkmnmiolnijaaaMTr
import Derived.Test.YtfkmnmiolnijaaaCWith7
import Derived.WalkKit
import Derived.WalkSpells
import Derived.WalkLawsBesides
import Derived.Outline
import Derived.Deep.QuietTactic
import Derived.BigQuiet
namespace Go.Proofs.Ytfkmnmiolnijaaa
open Go.RowKit
set_option maxHeartbeats 1600000 in
set_option maxRecDepth 100000 in
theorem isTree_any (a : Option Addr) (ca : Nat) (xs : List Int) (w : World) (hz : xs.length ≤ 1048576) (hin : M4.IntsAt w a xs) :
    Calls Try.prog 42 #[.slice a xs.length ca] w fun e w' => e = .returned (.bool (TR.tree xs)) ∧ w = w' := by
  by_cases hl : 1 ≤ xs.length ∧ xs.length ≤ 8
  · have h1 : decide ((1 : Int) ≤ (xs.length : Int) ∧ (xs.length : Int) ≤ 8) = true := by simp; omega
    obtain ⟨b0, off0, ha0, hlt0, hc0⟩ := hin.at (k := 0) (by omega)
    subst ha0
    rw [Nat.add_zero] at hc0
    by_cases hx : xs.getD 0 0 = -1
    · have hU : Hid (TR.Up xs 1) := TR.up_one hx
      rw [hx] at hc0
      have HI : Hid _ := hin
      clear hin
      go_enter Try.func42, Try.ntmps42
      go_wp2_with (go_at_call 30; refine (within7_any _ _ _ _).mono ?_; rintro e w2 ⟨rfl, rfl⟩; rw [h1])
      clear h1
      go_loopw [3] (fun iv wr => ∃ k : Nat, iv = .int .i64 k ∧ 1 ≤ k ∧ k ≤ xs.length ∧ Hid (TR.Up xs k) ∧ w = wr) (fun iv _ => (xs.length - intOf iv).toNat)
      case atStart => exact ⟨1, rfl, by omega, by omega, hU, rfl⟩
      case round =>
        obtain ⟨k, rfl, hk1, hk, hT, rfl⟩ := hrel
        by_cases hlk : k < xs.length
        · have HN : Hid _ := fun h => TR.tree_no hlk h
          have HY : Hid _ := fun h => TR.Up.succ hT.out (k := k) h
          have HA : Hid _ := TR.at_pos xs (i := k) (by omega)
          obtain ⟨b1, off1, ha1, hlt1, hc1⟩ := M4.IntsAt.at HI.out hlk
          cases ha1
          clear HI hT hU hc0
          generalize xs.getD k 0 = o at *
          by_cases h0 : 0 ≤ o ∧ o < k
          · have hT : Hid _ := HY.out (HA.out.2 h0)
            have h2 : decide (0 ≤ o ∧ o ≤ (k : Int) - 1) = true := by simp; omega
            clear HN HY HA h0
            go_wp2_with (go_at_call 30; refine (within7_any _ _ _ _).mono ?_; rintro e w2 ⟨rfl, rfl⟩; rw [h2])
            go_roundw
            case rel => exact ⟨k + 1, by go_num, by omega, by omega, hT, trivial⟩
            case measure => simp [intOf]; omega
          · have hF : Hid _ := HN.out (fun c => h0 (HA.out.1 c))
            have h2 : decide (0 ≤ o ∧ o ≤ (k : Int) - 1) = false := by simp; omega
            clear HN HY HA h0
            go_wp2_with (go_at_call 30; refine (within7_any _ _ _ _).mono ?_; rintro e w2 ⟨rfl, rfl⟩; rw [h2])
            go_ret
            exact ⟨retB7 hF.out.symm, rfl⟩
        · obtain rfl : k = xs.length := by omega
          have hF : Hid (TR.tree xs = true) := TR.tree_yes hl hT.out
          clear HI hT hU hc0
          go_wp2
          go_ret
          exact ⟨retB7 hF.out.symm, rfl⟩
    · have hF : Hid (TR.tree xs = false) := TR.tree_no (i := 0) (by omega) (fun c => hx ((TR.at_zero xs).1 c))
      clear hin
      generalize xs.getD 0 0 = o at *
      go_enter Try.func42, Try.ntmps42
      go_wp2_with (go_at_call 30; refine (within7_any _ _ _ _).mono ?_; rintro e w2 ⟨rfl, rfl⟩; rw [h1])
      go_ret
      exact ⟨retB7 hF.out.symm, rfl⟩
  · have hF : Hid (TR.tree xs = false) := TR.tree_len hl
    have h1 : decide ((1 : Int) ≤ (xs.length : Int) ∧ (xs.length : Int) ≤ 8) = false := by simp; omega
    clear hin
    go_enter Try.func42, Try.ntmps42
    go_wp2_with (go_at_call 30; refine (within7_any _ _ _ _).mono ?_; rintro e w2 ⟨rfl, rfl⟩; rw [h1])
    go_ret
    exact ⟨retB7 hF.out.symm, rfl⟩
end Go.Proofs.Ytfkmnmiolnijaaa
