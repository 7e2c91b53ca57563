/- The specification's l1Take at a place within a text of at most 400 bytes. -/
import Derived.Test.YtapojeehidhhnaaRows
import Derived.Test.YtapojeehidhhnaaRet3
import Derived.Test.YtapojeehidhhnaaCL1Value
import Derived.WalkKit
import Derived.WalkSpells
import Derived.WalkLawsBesides
import Derived.Outline
namespace Go.Proofs.Ytapojeehidhhnaa
open Go.RowKit
set_option maxHeartbeats 800000 in
set_option maxRecDepth 100000 in
theorem l1Take_in (s : ByteArray) (a : Nat) (w : World) (hs : s.size ≤ 400) (ha : a < s.size) (T : M3.R) (hT : Hid (M3.tkS (M3.gb s) s.size a a 0 = T)) :
    Calls Try.prog 20 #[.string s, .int .i64 (a : Int)] w fun e w' => e = .returned (.tuple #[.int .i64 (T.1 : Int), .int .i64 (T.2.1 : Int), .bool T.2.2]) ∧ w = w' := by
  go_enter Try.func20, Try.ntmps20
  go_wp2
  go_loop [7, 8] (fun nv iv => ∃ m k : Nat, nv = .int .i64 m ∧ iv = .int .i64 k ∧ k ≤ s.size ∧ a ≤ k ∧ m ≤ 1000000000000 ∧ Hid (m < 128 ^ (k - a)) ∧ Hid (M3.tkS (M3.gb s) s.size a k m = T)) (fun _ iv => (s.size - intOf iv).toNat)
  case atStart => exact ⟨0, a, rfl, rfl, by omega, by omega, by omega, show Hid _ from Nat.pow_pos (by omega), hT⟩
  case round =>
    obtain ⟨m, k, rfl, rfl, hk, hka, hm, hM, hR⟩ := hrel
    by_cases hl : k < s.size
    · by_cases h5 : k < a + 5
      · have hg := M3.gb_eq s k hl
        have hlt := M3.gb_lt s k
        have hR1 := hR.out
        rw [M3.tkS] at hR1
        generalize M3.gb s k = c at *
        have ho := M3.or7i m c (by omega)
        have ha7 := M3.and127b c hlt
        have hm1 : Hid (m * 128 + c % 128 < 128 ^ (k + 1 - a)) := by
          have e : k + 1 - a = (k - a) + 1 := by omega
          have := hM.out
          show _ < _
          rw [e, Nat.pow_succ]; omega
        have hm2 : m * 128 + c % 128 ≤ 1000000000000 := by
          have h1 := hm1.out
          have h2 : 128 ^ (k + 1 - a) ≤ 128 ^ 5 := Nat.pow_le_pow_right (by omega) (by omega)
          omega
        by_cases h1 : k = a
        · subst h1
          by_cases h2 : c = 128
          · simp only [hl, h5, h2, and_self, if_true] at hR1
            have HR : Hid (M3.no = T) := hR1
            subst h2
            clear hR1 hR hM hm1
            go_wp2
            go_ret3
            exact ⟨ret3 HR.out, rfl⟩
          · simp only [hl, h5, h2, and_self, and_false, if_true, if_false] at hR1
            have hck : ((c : Int) == 128) = false := by simp; omega
            by_cases hc : c < 128
            · by_cases hv : m * 128 + c % 128 ≤ 1000000000
              · simp only [hc, hv, if_true] at hR1
                have HR : Hid (_ = T) := hR1
                have hok : okN ((m : Int) * 128 + (c : Int) % 128) = true := by simp [okN]; omega
                clear hR1 hR hM hm1
                go_wp2_with (go_at_call 16; refine (l1Value_any _ _).mono ?_; rintro e w' ⟨rfl, rfl⟩)
                go_ret3
                exact ⟨ret3 HR.out, rfl⟩
              · simp only [hc, hv, if_true, if_false] at hR1
                have HR : Hid (_ = T) := hR1
                have hok : okN ((m : Int) * 128 + (c : Int) % 128) = false := by simp [okN]; omega
                clear hR1 hR hM hm1
                go_wp2_with (go_at_call 16; refine (l1Value_any _ _).mono ?_; rintro e w' ⟨rfl, rfl⟩)
                go_ret3
                exact ⟨ret3 HR.out, rfl⟩
            · simp only [hc, if_false] at hR1
              have HR : Hid (_ = T) := hR1
              clear hR1 hR hM
              go_wp2
              go_round
              case rel => exact ⟨m * 128 + c % 128, k + 1, by go_num, by go_num, by omega, by omega, hm2, hm1, HR⟩
              case measure => simp [intOf]; omega
        · simp only [hl, h5, h1, and_self, false_and, if_true, if_false] at hR1
          have hck : ((k : Int) == (a : Int)) = false := by simp; omega
          by_cases hc : c < 128
          · by_cases hv : m * 128 + c % 128 ≤ 1000000000
            · simp only [hc, hv, if_true] at hR1
              have HR : Hid (_ = T) := hR1
              have hok : okN ((m : Int) * 128 + (c : Int) % 128) = true := by simp [okN]; omega
              clear hR1 hR hM hm1
              go_wp2_with (go_at_call 16; refine (l1Value_any _ _).mono ?_; rintro e w' ⟨rfl, rfl⟩)
              go_ret3
              exact ⟨ret3 HR.out, rfl⟩
            · simp only [hc, hv, if_true, if_false] at hR1
              have HR : Hid (_ = T) := hR1
              have hok : okN ((m : Int) * 128 + (c : Int) % 128) = false := by simp [okN]; omega
              clear hR1 hR hM hm1
              go_wp2_with (go_at_call 16; refine (l1Value_any _ _).mono ?_; rintro e w' ⟨rfl, rfl⟩)
              go_ret3
              exact ⟨ret3 HR.out, rfl⟩
          · simp only [hc, if_false] at hR1
            have HR : Hid (_ = T) := hR1
            clear hR1 hR hM
            go_wp2
            go_round
            case rel => exact ⟨m * 128 + c % 128, k + 1, by go_num, by go_num, by omega, by omega, hm2, hm1, HR⟩
            case measure => simp [intOf]; omega
      · have hR1 := hR.out
        rw [M3.tkS] at hR1
        simp only [h5, and_false, if_false] at hR1
        have HR : Hid (M3.no = T) := hR1
        clear hR1 hR hM
        go_wp2
        go_ret3
        exact ⟨ret3 HR.out, rfl⟩
    · have hR1 := hR.out
      rw [M3.tkS] at hR1
      simp only [hl, false_and, if_false] at hR1
      have HR : Hid (M3.no = T) := hR1
      clear hR1 hR hM
      go_wp2
      go_ret3
      exact ⟨ret3 HR.out, rfl⟩
end Go.Proofs.Ytapojeehidhhnaa
