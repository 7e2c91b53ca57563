/- l7Put of the specification where the number may be there already. -/
import Derived.Test.YtggoaoieephbkaaRows
import Derived.Test.YtggoaoieephbkaaCPut
import Derived.Test.YtggoaoieephbkaaMGp
import Derived.WalkKit
import Derived.WalkSpells
import Derived.WalkLawsBesides
import Derived.Outline
namespace Go.Proofs.Ytggoaoieephbkaa
open Go.RowKit
namespace GP
theorem has_at {os : List Int} {n : Int} {k : Nat} (hup : os.Pairwise (· < ·)) (hn : n ∈ os) (hT : EG.ltUp os n k) (hlk : ¬ (k < os.length ∧ os.getD k 0 < n)) : k < os.length ∧ os.getD k 0 = n := by
  obtain ⟨j, hj, rfl⟩ := List.mem_iff_getElem.1 hn
  have hkj : k ≤ j := by
    rcases Nat.lt_or_ge j k with h | h
    · have := hT j h; rw [getD_at hj] at this; omega
    · exact h
  have hkl : k < os.length := by omega
  refine ⟨hkl, ?_⟩
  rcases Nat.lt_or_eq_of_le hkj with h | rfl
  · have := List.pairwise_iff_getElem.1 hup k j hkl hj h
    exact absurd ⟨hkl, by rw [getD_at hkl]; exact this⟩ hlk
  · exact getD_at hkl
end GP
set_option linter.unusedSimpArgs false in
set_option maxHeartbeats 1600000 in
set_option maxRecDepth 100000 in
theorem l7Put_has (a : Option Addr) (ca : Nat) (os : List Int) (n : Int) (w : World) (ho : os.length ≤ 1000) (hup : os.Pairwise (· < ·)) (hn : n ∈ os) (hin : M4.IntsAt w a os) :
    Calls Try.prog 11 #[.slice a os.length ca, .int .i64 n] w fun e w' => e = .returned (.slice a os.length ca) ∧ w = w' := by
  have HH : Hid _ := fun (k : Nat) (h : EG.ltUp os n k) (h2 : _) => GP.has_at (k := k) hup hn h h2
  clear hup hn
  go_enter Try.func11, Try.ntmps11
  go_wp2
  go_loopw [5] (fun iv wr => ∃ k : Nat, iv = .int .i64 k ∧ k ≤ os.length ∧ Hid (EG.ltUp os n k) ∧ w = wr) (fun iv _ => (os.length - intOf iv).toNat)
  case atStart => exact ⟨0, rfl, by omega, show Hid _ from fun j hj => by omega, rfl⟩
  case round =>
    obtain ⟨k, rfl, hk, hT, rfl⟩ := hrel
    by_cases hlk : k < os.length ∧ os.getD k 0 < n
    · obtain ⟨hlk, hon⟩ := hlk
      obtain ⟨b1, off1, rfl, hlt1, hc⟩ := hin.at hlk
      have HT : Hid _ := EG.ltUp_succ hT.out hon
      have hq : decide (os.getD k 0 < n) = true := by simp; exact hon
      clear hT hin hon HH
      generalize os.getD k 0 = o at *
      go_wp2
      go_roundw
      case rel => exact ⟨k + 1, by go_num, by omega, HT, trivial⟩
      case measure => simp [intOf]; omega
    · obtain ⟨hkl, hon⟩ := HH.out k hT.out hlk
      obtain ⟨b1, off1, rfl, hlt1, hc⟩ := hin.at hkl
      rw [hon] at hc
      have hq : decide (n < n) = false := by simp
      have hq2 : (n == n) = true := by simp
      clear hT hin hon HH hlk
      go_wp2
      go_ret
      exact ⟨rfl, rfl⟩
/-- Whatever row the call owns, whether the number is there or not. -/
theorem l7Put_up (base : Nat) (v : Value) (os : List Int) (n : Int) (w : World) (ho : os.length ≤ 1000) (hup : os.Pairwise (· < ·)) (hb : base ≤ w.heap.size) (hown : w.ownsRow base 3 1 v os.length (M4.iv os)) :
    Calls Try.prog 11 #[v, .int .i64 n] w fun e w' => ∃ a1 c1, e = .returned (.slice a1 (GP.putT os n).length c1) ∧ w'.ownsRow base 3 1 (.slice a1 (GP.putT os n).length c1) (GP.putT os n).length (M4.iv (GP.putT os n)) ∧ Below w.heap.size w w' := by
  by_cases h : n ∈ os
  · have he : GP.putT os n = os := by unfold GP.putT; rw [if_pos h]
    rw [he]
    obtain ⟨a, cap, rfl, hin⟩ := M5.own_view hown
    exact (l7Put_has a cap os n w ho hup h hin).mono (by rintro e w' ⟨rfl, rfl⟩; exact ⟨a, cap, rfl, hown, Below.refl _ _⟩)
  · have he : GP.putT os n = EG.putS os n := by unfold GP.putT; rw [if_neg h]
    rw [he]
    exact (l7Put_any base v os n w ho h hown).mono (by rintro e w' ⟨a1, c1, rfl, h1, h2⟩; exact ⟨a1, c1, rfl, TR.own_mono h1 hb, h2⟩)
end Go.Proofs.Ytggoaoieephbkaa
