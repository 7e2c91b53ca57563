/- impl.TakeSdnv where a number may begin. -/
import Derived.Test.YtapojeehidhhnaaRows
import Derived.Test.YtapojeehidhhnaaRet3
import Derived.WalkKit
import Derived.WalkSpells
import Derived.WalkLawsBesides
import Derived.Outline
namespace Go.Proofs.Ytapojeehidhhnaa
open Go.RowKit
set_option maxHeartbeats 800000 in
set_option maxRecDepth 100000 in
theorem implTake_in (s : ByteArray) (a : Nat) (w : World) (hs : s.size ≤ 400) (ha : a < s.size) (T : M3.R) (hT : Hid (M3.tkI (M3.gb s) s.size a 0 = T)) (h128 : M3.gb s a ≠ 128) :
    Calls Try.prog 10 #[.string s, .int .i64 (a : Int)] w fun e w' => e = .returned (.tuple #[.int .i64 (T.1 : Int), .int .i64 (T.2.1 : Int), .bool T.2.2]) ∧ w = w' := by
  have hga := M3.gb_eq s a ha
  have hlt := M3.gb_lt s a
  generalize hc : M3.gb s a = c at *
  clear hc
  have hb : ((c : Int) == 128) = false := by simp; omega
  go_enter Try.func10, Try.ntmps10
  go_wp2
  go_loop [7, 8] (fun nv iv => ∃ m k : Nat, nv = .int .i64 m ∧ iv = .int .i64 k ∧ k ≤ s.size ∧ m ≤ 1000000000 ∧ Hid (M3.tkI (M3.gb s) s.size k m = T)) (fun _ iv => (s.size - intOf iv).toNat)
  case atStart => exact ⟨0, a, rfl, rfl, by omega, by omega, hT⟩
  case round =>
    clear hga hlt hb h128
    obtain ⟨m, k, rfl, rfl, hk, hm, hR⟩ := hrel
    by_cases hl : k < s.size
    · have hg := M3.gb_eq s k hl
      have hlt := M3.gb_lt s k
      have hR1 := hR.out
      rw [M3.tkI] at hR1
      generalize M3.gb s k = c at *
      have ho := M3.or7i m c (by omega)
      by_cases hv : 1000000000 < m * 128 + c % 128
      · simp only [hl, hv, if_true] at hR1
        have HR : Hid (M3.no = T) := hR1
        clear hR1 hR
        go_wp2
        go_ret3
        exact ⟨ret3 HR.out, rfl⟩
      · by_cases hc : c < 128
        · simp only [hl, hv, hc, if_true, if_false] at hR1
          have HR : Hid (_ = T) := hR1
          clear hR1 hR
          go_wp2
          go_ret3
          exact ⟨ret3 HR.out, rfl⟩
        · simp only [hl, hv, hc, if_true, if_false] at hR1
          have HR : Hid (_ = T) := hR1
          clear hR1 hR
          go_wp2
          go_round
          case rel => exact ⟨m * 128 + c % 128, k + 1, by go_num, by go_num, by omega, by omega, HR⟩
          case measure => simp [intOf]; omega
    · have hR1 := hR.out
      rw [M3.tkI] at hR1
      simp only [hl, if_false] at hR1
      have HR : Hid (M3.no = T) := hR1
      clear hR1 hR
      go_wp2
      go_ret3
      exact ⟨ret3 HR.out, rfl⟩
end Go.Proofs.Ytapojeehidhhnaa
