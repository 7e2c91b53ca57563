/- Trees told by who is above each node: l16Tree of the specification. -/
import Derived.Test.YtfkmnmiolnijaaaRows
import Derived.Test.YtfkmnmiolnijaaaMTr
import Derived.Test.YtfkmnmiolnijaaaCL1In
import Derived.WalkKit
import Derived.WalkSpells
import Derived.WalkLawsBesides
import Derived.Outline
import Derived.Deep.QuietTactic
import Derived.BigQuiet
namespace Go.Proofs.Ytfkmnmiolnijaaa
open Go.RowKit
set_option maxHeartbeats 1600000 in
set_option maxRecDepth 100000 in
theorem l16Tree_any (a : Option Addr) (ca : Nat) (xs : List Int) (w : World) (hz : xs.length ≤ 1048576) (hin : M4.IntsAt w a xs) :
    Calls Try.prog 15 #[.slice a xs.length ca] w fun e w' => e = .returned (.bool (TR.tree xs)) ∧ w = w' := by
  have HI : Hid _ := hin
  clear hin
  go_enter Try.func15, Try.ntmps15
  go_wp2
  go_loopw [7] (fun iv wr => ∃ k : Nat, iv = .int .i64 k ∧ k ≤ xs.length ∧ Hid (TR.Up xs k) ∧ w = wr) (fun iv _ => (xs.length - intOf iv).toNat)
  case atStart => exact ⟨0, rfl, by omega, show Hid _ from fun i hi => by omega, rfl⟩
  case round =>
    obtain ⟨k, rfl, hk, hT, rfl⟩ := hrel
    by_cases hlk : k < xs.length
    · have HN : Hid _ := fun h => TR.tree_no hlk h
      have HY : Hid _ := fun h => TR.Up.succ hT.out (k := k) h
      obtain ⟨b1, off1, rfl, hlt1, hc1⟩ := M4.IntsAt.at HI.out hlk
      cases k with
      | zero =>
        have HA : Hid _ := TR.at_zero xs
        clear HI hT
        generalize xs.getD 0 0 = o at *
        rw [Nat.add_zero] at hc1
        rw [show ((0 : Nat) : Int) = 0 from rfl]
        by_cases h0 : o = -1
        · have hT : Hid _ := HY.out (HA.out.2 h0)
          subst h0
          clear HN HY HA
          go_wp2
          go_roundw
          case rel => exact ⟨1, by go_num, by omega, hT, trivial⟩
          case measure => simp [intOf]; omega
        · have hF : Hid _ := HN.out (fun c => h0 (HA.out.1 c))
          have h2 : (o == -1) = false := by simp [h0]
          clear HN HY HA
          go_wp2
          go_ret
          exact ⟨retB7 hF.out.symm, rfl⟩
      | succ k =>
        have HA : Hid _ := TR.at_pos xs (i := k + 1) (by omega)
        clear HI hT
        generalize xs.getD (k + 1) 0 = o at *
        rw [show ((k + 1 : Nat) : Int) = (k : Int) + 1 from rfl] at *
        have h5 : ((k : Int) + 1 == 0) = false := by simp; omega
        by_cases h0 : o = -1
        · have hF : Hid _ := HN.out (fun c => by have := (HA.out.1 c).1; omega)
          subst h0
          clear HN HY HA
          go_wp2
          go_ret
          exact ⟨retB7 hF.out.symm, rfl⟩
        · have h2 : (o == -1) = false := by simp [h0]
          by_cases h3 : o < -1
          · have hF : Hid _ := HN.out (fun c => by have := (HA.out.1 c).1; omega)
            clear HN HY HA
            go_wp2
            go_ret
            exact ⟨retB7 hF.out.symm, rfl⟩
          · have h4 : decide (o < -1) = false := by simp; omega
            by_cases h6 : (k : Int) + 1 ≤ o
            · have hF : Hid _ := HN.out (fun c => by have := (HA.out.1 c).2; omega)
              have h7 : decide ((k : Int) + 1 ≤ o) = true := by simp; omega
              clear HN HY HA
              go_wp2
              go_ret
              exact ⟨retB7 hF.out.symm, rfl⟩
            · have hT : Hid _ := HY.out (HA.out.2 ⟨by omega, by omega⟩)
              have h7 : decide ((k : Int) + 1 ≤ o) = false := by simp; omega
              clear HN HY HA
              go_wp2
              go_roundw
              case rel => exact ⟨k + 2, by go_num, by omega, hT, trivial⟩
              case measure => simp [intOf]; omega
    · obtain rfl : k = xs.length := by omega
      clear HI
      by_cases hl : 1 ≤ xs.length ∧ xs.length ≤ 8
      · have hF : Hid (TR.tree xs = true) := TR.tree_yes hl hT.out
        have h1 : decide ((1 : Int) ≤ (xs.length : Int)) = true := by simp; omega
        have h2 : decide ((xs.length : Int) ≤ 8) = true := by simp; omega
        clear hT
        go_wp2
        go_ret
        exact ⟨retB7 hF.out.symm, rfl⟩
      · have hF : Hid (TR.tree xs = false) := TR.tree_len hl
        clear hT
        by_cases h1 : 1 ≤ xs.length
        · have h2 : decide ((1 : Int) ≤ (xs.length : Int)) = true := by simp; omega
          have h3 : decide ((xs.length : Int) ≤ 8) = false := by simp; omega
          go_wp2
          go_ret
          exact ⟨retB7 hF.out.symm, rfl⟩
        · have h2 : decide ((1 : Int) ≤ (xs.length : Int)) = false := by simp; omega
          go_wp2
          go_ret
          exact ⟨retB7 hF.out.symm, rfl⟩
end Go.Proofs.Ytfkmnmiolnijaaa
