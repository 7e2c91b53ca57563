/- l6Row, the specification's. -/
import Derived.Test.YtobdgmopflccfaaRows
import Derived.Test.YtobdgmopflccfaaC6Row
import Derived.WalkKit
import Derived.WalkSpells
import Derived.WalkLawsBesides
import Derived.Outline
import Derived.Deep.QuietTactic
import Derived.BigQuiet
namespace Go.Proofs.Ytobdgmopflccfaa
open Go.RowKit
set_option maxHeartbeats 3200000 in
set_option maxRecDepth 100000 in
theorem l6Row_any (a b : Option Addr) (ca cb : Nat) (xs : List I5) (os : List Int) (w : World) (_hn : xs.length ≤ 1048576) (ho : os.length ≤ 1048576) (hin : MI5.RowAt w a xs) (hos : M4.IntsAt w b os) (R : Bool) (hR : Hid (PN.rowB xs os = R)) :
    Calls Try.prog 41 #[.slice a xs.length ca, .slice b os.length cb] w fun e w' => e = .returned (.bool R) ∧ Below w.heap.size w w' := by
  go_enter Try.func41, Try.ntmps41
  go_wp2
  go_loopw [9] (fun iv wr => ∃ k : Nat, iv = .int .i64 k ∧ k ≤ os.length ∧ Hid (PN.inUp xs.length os k ∧ PN.chUp xs os k) ∧ Below w.heap.size w wr) (fun iv _ => (os.length - intOf iv).toNat)
  case atStart => exact ⟨0, rfl, by omega, show Hid _ from ⟨fun i hi => by omega, fun i hi => by omega⟩, Below.refl _ _⟩
  case round =>
    obtain ⟨k, rfl, hk, hT, hb⟩ := hrel
    by_cases hlk : k < os.length
    · have HOS : Hid (M4.IntsAt wr b os) := hos.below hb
      have HIN : Hid (MI5.RowAt wr a xs) := hin.below hb
      clear hos hin
      obtain ⟨b1, off1, hbb, hlt1, hc1⟩ := M4.IntsAt.at HOS.out hlk
      have HN : Hid _ := fun h => PN.inP_no (n := xs.length) hlk h
      obtain ⟨o, hoo⟩ : ∃ o, os.getD k 0 = o := ⟨_, rfl⟩
      rw [hoo] at hc1
      have HO : Hid _ := hoo
      clear hoo
      by_cases h1 : 0 ≤ o
      · obtain ⟨j, rfl⟩ := Int.eq_ofNat_of_zero_le h1
        by_cases h2 : j < xs.length
        · have h2' : decide (xs.length ≤ j) = false := by simp; omega
          have h1' : decide ((j : Int) < 0) = false := by simp
          have hU : Hid (PN.inUp xs.length os (k + 1)) := PN.inUp_succ hT.out.1 (by rw [HO.out]; omega)
          cases k with
          | zero =>
            have hT' : Hid (PN.inUp xs.length os 1 ∧ PN.chUp xs os 1) := ⟨hU.out, fun i hi => by omega⟩
            clear hT hR HIN HOS HN HO
            subst hbb
            rw [Nat.add_zero] at hc1
            rw [show ((0 : Nat) : Int) = 0 from rfl]
            go_wp2
            go_quiet (fail)
            go_wp2
            go_roundw
            case rel => exact ⟨1, by go_num, by omega, hT', below_drewN hb _⟩
            case measure => simp [intOf]; omega
          | succ k =>
            clear hc1 hlt1 hbb
            obtain ⟨b1, off1, rfl, hlt1, hc0, hc1⟩ := PN.ints_at2 HOS.out hlk
            obtain ⟨hp0, hp1⟩ := hT.out.1 k (by omega)
            obtain ⟨i, hi⟩ := Int.eq_ofNat_of_zero_le hp0
            have hil : i < xs.length := by omega
            obtain ⟨b2, off2, rfl, hlt2, d1, d0⟩ := PN.row_at2 HIN.out hil h2
            rw [HO.out] at hc1
            rw [hi] at hc0
            have e1 : PN.ofN xs (os.getD k 0) = MI5.at_ xs i := by rw [hi]; rfl
            have e2 : PN.ofN xs (os.getD (k + 1) 0) = MI5.at_ xs j := by rw [HO.out]; rfl
            have CY : Hid ((MI5.at_ xs i).a1 = (MI5.at_ xs j).a0 → PN.chUp xs os (k + 2)) := fun h => PN.chUp_succ hT.out.2 (by rw [e1, e2]; exact h)
            have CN : Hid ((MI5.at_ xs i).a1 ≠ (MI5.at_ xs j).a0 → PN.chain xs os = false) := fun h => PN.chain_no hlk (by rw [e1, e2]; exact h)
            clear HOS HIN hT HN HO e1 e2 hp0 hp1 hi
            generalize (MI5.at_ xs i).a1 = y at *
            generalize (MI5.at_ xs j).a0 = x at *
            by_cases hyx : y = x
            · have hT' : Hid (PN.inUp xs.length os (k + 2) ∧ PN.chUp xs os (k + 2)) := ⟨hU.out, CY.out hyx⟩
              have hne : (y != x) = false := by simp [hyx]
              clear CY CN hU hR hyx
              rw [show ((k + 1 : Nat) : Int) = (k : Int) + 1 from rfl]
              go_wp2
              go_quiet (fail)
              go_wp2
              go_roundw
              case rel => exact ⟨k + 2, by go_num, by omega, hT', below_drewN hb _⟩
              case measure => simp [intOf]; omega
            · have hF : Hid (R = false) := by show R = false; rw [← hR.out]; unfold PN.rowB; rw [CN.out hyx]; simp
              have hne : (y != x) = true := by simp [hyx]
              clear CY CN hU hR hyx
              rw [show ((k + 1 : Nat) : Int) = (k : Int) + 1 from rfl]
              go_wp2
              go_quiet (fail)
              go_wp2
              go_ret
              exact ⟨retB6 hF.out.symm, below_drewN hb _⟩
        · have hF : Hid (R = false) := by show R = false; rw [← hR.out]; unfold PN.rowB; rw [HN.out (by rw [HO.out]; omega)]; simp
          have h2' : decide (xs.length ≤ j) = true := by simp; omega
          have h1' : decide ((j : Int) < 0) = false := by simp
          clear hT hR HIN HOS HN HO
          subst hbb
          go_wp2
          go_quiet (fail)
          go_wp2
          go_ret
          exact ⟨retB6 hF.out.symm, below_drewN hb _⟩
      · have hF : Hid (R = false) := by show R = false; rw [← hR.out]; unfold PN.rowB; rw [HN.out (by rw [HO.out]; omega)]; simp
        have h1' : decide (o < 0) = true := by simp; omega
        clear hT hR HIN HOS HN HO
        subst hbb
        go_wp2
        go_quiet (fail)
        go_wp2
        go_ret
        exact ⟨retB6 hF.out.symm, below_drewN hb _⟩
    · obtain rfl : k = os.length := by omega
      have hF : Hid (R = decide ((os.length : Int) ≤ 20)) := by
        rw [← hR.out]; simp only [PN.rowB, (PN.inP_iff _ _).2 hT.out.1, PN.chain_yes hT.out.2, Bool.true_and]
        exact decide_eq_decide.2 (by omega)
      clear hin hos hT hR
      go_wp2
      go_ret
      exact ⟨retB6 hF.out.symm, hb⟩
end Go.Proofs.Ytobdgmopflccfaa
