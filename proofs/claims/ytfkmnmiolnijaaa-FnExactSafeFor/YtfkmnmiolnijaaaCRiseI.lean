/- Numbers that rise: areRising of the program. -/
import Derived.Test.YtfkmnmiolnijaaaRows
import Derived.Test.YtfkmnmiolnijaaaM5
import Derived.Test.YtfkmnmiolnijaaaCWith7
import Derived.WalkKit
import Derived.WalkSpells
import Derived.WalkLawsBesides
import Derived.Outline
import Derived.Deep.QuietTactic
import Derived.BigQuiet
namespace Go.Proofs.Ytfkmnmiolnijaaa
open Go.RowKit
namespace EG
theorem ints_at2 {w : World} {a : Option Addr} {zs : List Int} (h : M4.IntsAt w a zs) {k : Nat} (hk : k + 1 < zs.length) : ∃ b off, a = some ⟨b, off, none⟩ ∧ b < w.heap.size ∧ w.cell? ⟨b, off + k, none⟩ = some (.int .i64 (zs.getD k 0)) ∧ w.cell? ⟨b, off + (k + 1), none⟩ = some (.int .i64 (zs.getD (k + 1) 0)) := by
  rcases h with rfl | ⟨b, off, rfl, hlt, hc⟩
  · simp at hk
  · exact ⟨b, off, rfl, hlt, hc k (by omega), hc (k + 1) hk⟩
end EG
set_option maxHeartbeats 1600000 in
set_option maxRecDepth 100000 in
theorem areRising_any (b : Option Addr) (cb : Nat) (n : Nat) (os : List Int) (w : World) (_hn : n ≤ 1048576) (ho : os.length ≤ 1048576) (hos : M4.IntsAt w b os) (R : Bool) (hR : Hid (EG.rises n os = R)) :
    Calls Try.prog 55 #[.slice b os.length cb, .int .i64 ((n : Int) - 1)] w fun e w' => e = .returned (.bool R) ∧ w = w' := by
  go_enter Try.func55, Try.ntmps55
  go_wp2
  go_loopw [9] (fun iv wr => ∃ k : Nat, iv = .int .i64 k ∧ k ≤ os.length ∧ Hid (EG.riseUp n os k) ∧ w = wr) (fun iv _ => (os.length - intOf iv).toNat)
  case atStart => exact ⟨0, rfl, by omega, show Hid _ from fun i hi => by omega, rfl⟩
  case round =>
    obtain ⟨k, rfl, hk, hT, rfl⟩ := hrel
    by_cases hlk : k < os.length
    · have HN : Hid _ := fun h => EG.rises_no (n := n) hlk h
      have HY : Hid _ := fun h => EG.riseUp_succ hT.out (k := k) h
      cases k with
      | zero =>
        obtain ⟨b1, off1, rfl, hlt1, hc1⟩ := hos.at hlk
        clear hos hT
        rw [Nat.add_zero] at hc1
        generalize os.getD 0 0 = o at *
        rw [show ((0 : Nat) : Int) = 0 from rfl]
        by_cases h0 : 0 ≤ o ∧ o < n
        · have hT : Hid _ := HY.out ⟨h0.1, h0.2, fun h => by omega⟩
          have h1 : decide (0 ≤ o ∧ o ≤ (n : Int) - 1) = true := by simp; omega
          clear HN HY hR h0
          go_wp2_with (go_at_call 30; refine (within7_any _ _ _ _).mono ?_; rintro e w2 ⟨rfl, rfl⟩; rw [h1])
          go_roundw
          case rel => exact ⟨1, by go_num, by omega, hT, trivial⟩
          case measure => simp [intOf]; omega
        · have hF : Hid (R = false) := by show R = false; rw [← hR.out]; exact HN.out (by omega)
          have h1 : decide (0 ≤ o ∧ o ≤ (n : Int) - 1) = false := by simp; omega
          clear HN HY hR h0
          go_wp2_with (go_at_call 30; refine (within7_any _ _ _ _).mono ?_; rintro e w2 ⟨rfl, rfl⟩; rw [h1])
          go_ret
          exact ⟨retB7 hF.out.symm, rfl⟩
      | succ k =>
        obtain ⟨b1, off1, rfl, hlt1, hc0, hc1⟩ := EG.ints_at2 hos hlk
        clear hos hT
        rw [Nat.add_sub_cancel] at HN HY
        generalize os.getD k 0 = p at *
        generalize os.getD (k + 1) 0 = o at *
        rw [show ((k + 1 : Nat) : Int) = (k : Int) + 1 from rfl]
        by_cases h0 : 0 ≤ o ∧ o < n
        · have h1 : decide (0 ≤ o ∧ o ≤ (n : Int) - 1) = true := by simp; omega
          by_cases hpo : o ≤ p
          · have hF : Hid (R = false) := by show R = false; rw [← hR.out]; exact HN.out (fun h => by have := h.2.2 (by omega); omega)
            have h2 : decide (o ≤ p) = true := by simp [hpo]
            clear HN HY hR h0 hpo
            go_wp2_with (go_at_call 30; refine (within7_any _ _ _ _).mono ?_; rintro e w2 ⟨rfl, rfl⟩; rw [h1])
            go_ret
            exact ⟨retB7 hF.out.symm, rfl⟩
          · have hT : Hid _ := HY.out ⟨h0.1, h0.2, fun h => by omega⟩
            have h2 : decide (o ≤ p) = false := by simp; omega
            clear HN HY hR h0 hpo
            go_wp2_with (go_at_call 30; refine (within7_any _ _ _ _).mono ?_; rintro e w2 ⟨rfl, rfl⟩; rw [h1])
            go_roundw
            case rel => exact ⟨k + 2, by go_num, by omega, hT, trivial⟩
            case measure => simp [intOf]; omega
        · have hF : Hid (R = false) := by show R = false; rw [← hR.out]; exact HN.out (by omega)
          have h1 : decide (0 ≤ o ∧ o ≤ (n : Int) - 1) = false := by simp; omega
          clear HN HY hR h0
          go_wp2_with (go_at_call 30; refine (within7_any _ _ _ _).mono ?_; rintro e w2 ⟨rfl, rfl⟩; rw [h1])
          go_ret
          exact ⟨retB7 hF.out.symm, rfl⟩
    · obtain rfl : k = os.length := by omega
      have hF : Hid (R = true) := by show R = true; rw [← hR.out]; exact EG.rises_yes hT.out
      clear hos hT hR
      go_wp2
      go_ret
      exact ⟨retB7 hF.out.symm, rfl⟩
end Go.Proofs.Ytfkmnmiolnijaaa
