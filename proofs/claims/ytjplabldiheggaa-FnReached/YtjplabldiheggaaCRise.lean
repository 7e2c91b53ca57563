/- Numbers that rise: l1Some of the specification. -/
import Derived.Test.YtjplabldiheggaaRows
import Derived.Test.YtjplabldiheggaaM5
import Derived.Test.YtjplabldiheggaaCRiseI
import Derived.WalkKit
import Derived.WalkSpells
import Derived.WalkLawsBesides
import Derived.Outline
import Derived.Deep.QuietTactic
import Derived.BigQuiet
namespace Go.Proofs.Ytjplabldiheggaa
open Go.RowKit
set_option maxHeartbeats 1600000 in
set_option maxRecDepth 100000 in
theorem l1Some_any (b : Option Addr) (cb : Nat) (n : Nat) (os : List Int) (w : World) (_hn : n ≤ 1048576) (ho : os.length ≤ 1048576) (hos : M4.IntsAt w b os) (R : Bool) (hR : Hid (EG.rises n os = R)) :
    Calls Try.prog 44 #[.slice b os.length cb, .int .i64 n] w fun e w' => e = .returned (.bool R) ∧ Below w.heap.size w w' := by
  go_enter Try.func44, Try.ntmps44
  go_wp2
  go_loopw [9] (fun iv wr => ∃ k : Nat, iv = .int .i64 k ∧ k ≤ os.length ∧ Hid (EG.riseUp n os k) ∧ Below w.heap.size w wr) (fun iv _ => (os.length - intOf iv).toNat)
  case atStart => exact ⟨0, rfl, by omega, show Hid _ from fun i hi => by omega, Below.refl _ _⟩
  case round =>
    obtain ⟨k, rfl, hk, hT, hb⟩ := hrel
    replace hos := hos.below hb
    by_cases hlk : k < os.length
    · have HN : Hid _ := fun h => EG.rises_no (n := n) hlk h
      have HY : Hid _ := fun h => EG.riseUp_succ hT.out (k := k) h
      cases k with
      | zero =>
        obtain ⟨b1, off1, rfl, hlt1, hc1⟩ := hos.at hlk
        clear hos hT
        rw [Nat.add_zero] at hc1
        generalize os.getD 0 0 = o at *
        rw [show ((0 : Nat) : Int) = 0 from rfl]
        by_cases h0 : 0 ≤ o
        · obtain ⟨j, rfl⟩ := Int.eq_ofNat_of_zero_le h0
          have h1 : decide ((j : Int) < 0) = false := by simp
          by_cases h3 : j < n
          · have hT : Hid _ := HY.out ⟨h0, by omega, fun h => by omega⟩
            have h2 : decide (n ≤ j) = false := by simp; omega
            clear HN HY hR h0
            go_wp2
            go_roundw
            case rel => exact ⟨1, by go_num, by omega, hT, hb⟩
            case measure => simp [intOf]; omega
          · have hF : Hid (R = false) := by show R = false; rw [← hR.out]; exact HN.out (by omega)
            have h2 : decide (n ≤ j) = true := by simp; omega
            clear HN HY hR h0
            go_wp2
            go_ret
            exact ⟨retB7 hF.out.symm, hb⟩
        · have hF : Hid (R = false) := by show R = false; rw [← hR.out]; exact HN.out (by omega)
          have h1 : decide (o < 0) = true := by simp; omega
          clear HN HY hR h0
          go_wp2
          go_ret
          exact ⟨retB7 hF.out.symm, hb⟩
      | succ k =>
        obtain ⟨b1, off1, rfl, hlt1, hc0, hc1⟩ := EG.ints_at2 hos hlk
        clear hos hT
        rw [Nat.add_sub_cancel] at HN HY
        generalize os.getD k 0 = p at *
        generalize os.getD (k + 1) 0 = o at *
        rw [show ((k + 1 : Nat) : Int) = (k : Int) + 1 from rfl]
        by_cases h0 : 0 ≤ o
        · obtain ⟨j, rfl⟩ := Int.eq_ofNat_of_zero_le h0
          have h1 : decide ((j : Int) < 0) = false := by simp
          by_cases h3 : j < n
          · have h2 : decide (n ≤ j) = false := by simp; omega
            by_cases hpo : (j : Int) ≤ p
            · have hF : Hid (R = false) := by show R = false; rw [← hR.out]; exact HN.out (fun h => by have := h.2.2 (by omega); omega)
              have h4 : decide ((j : Int) ≤ p) = true := by simp [hpo]
              clear HN HY hR h0 hpo
              go_wp2
              go_ret
              exact ⟨retB7 hF.out.symm, hb⟩
            · have hT : Hid _ := HY.out ⟨h0, by omega, fun h => by omega⟩
              have h4 : decide ((j : Int) ≤ p) = false := by simp; omega
              clear HN HY hR h0 hpo
              go_wp2
              go_roundw
              case rel => exact ⟨k + 2, by go_num, by omega, hT, hb⟩
              case measure => simp [intOf]; omega
          · have hF : Hid (R = false) := by show R = false; rw [← hR.out]; exact HN.out (by omega)
            have h2 : decide (n ≤ j) = true := by simp; omega
            clear HN HY hR h0
            go_wp2
            go_ret
            exact ⟨retB7 hF.out.symm, hb⟩
        · have hF : Hid (R = false) := by show R = false; rw [← hR.out]; exact HN.out (by omega)
          have h1 : decide (o < 0) = true := by simp; omega
          clear HN HY hR h0
          go_wp2
          go_ret
          exact ⟨retB7 hF.out.symm, hb⟩
    · obtain rfl : k = os.length := by omega
      have hF : Hid (R = true) := by show R = true; rw [← hR.out]; exact EG.rises_yes hT.out
      clear hos hT hR
      go_wp2
      go_ret
      exact ⟨retB7 hF.out.symm, hb⟩
end Go.Proofs.Ytjplabldiheggaa
