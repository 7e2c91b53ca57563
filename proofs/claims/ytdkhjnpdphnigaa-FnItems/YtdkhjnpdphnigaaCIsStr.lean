/- impl.isStringItem and impl.isPlain. -/
import Derived.Test.YtdkhjnpdphnigaaRows
import Derived.Test.YtdkhjnpdphnigaaM13
import Derived.WalkKit
import Derived.WalkSpells
import Derived.WalkLawsBesides
import Derived.Outline
namespace Go.Proofs.Ytdkhjnpdphnigaa
open Go.RowKit
def strOk (x : It) : Bool := decide (x.text.size ≤ 60) && decide (x.num = 0) && decide (x.many = 0)
set_option maxHeartbeats 800000 in
set_option maxRecDepth 100000 in
theorem isStringItem_any (x : It) (w : World) (hs : x.text.size ≤ 1048576) : Calls Try.prog 50 #[x.v] w fun e w' => e = .returned (.bool (strOk x)) ∧ Below w.heap.size w w' := by
  obtain ⟨x0, x1, x2, x3⟩ := x
  simp only at hs
  have hB : ∀ o, Below w.heap.size w (w.alloc o) := fun o => (Below.refl _ w).alloc (Nat.le_refl _) o
  by_cases h1 : x2.size ≤ 60
  · by_cases h2 : x1 = 0
    · subst h2
      have HR : Hid (decide (x3 = 0) = strOk ⟨x0, 0, x2, x3⟩) := by show _ = _; simp [strOk, h1]
      go_enter Try.func50, Try.ntmps50
      go_wp2
      go_ret
      exact ⟨M4.ret_bool ((show (x3 == 0) = decide (x3 = 0) by by_cases h : x3 = 0 <;> simp [h]).trans HR.out), hB _⟩
    · have HR : Hid (false = strOk ⟨x0, x1, x2, x3⟩) := by show _ = _; simp [strOk, h2]
      have h2b : (x1 == 0) = false := by simp [h2]
      clear h2
      go_enter Try.func50, Try.ntmps50
      go_wp2
      go_ret
      exact ⟨M4.ret_bool HR.out, hB _⟩
  · have HR : Hid (false = strOk ⟨x0, x1, x2, x3⟩) := by show _ = _; simp [strOk, h1]
    go_enter Try.func50, Try.ntmps50
    go_wp2
    go_ret
    exact ⟨M4.ret_bool HR.out, hB _⟩
set_option maxHeartbeats 800000 in
set_option maxRecDepth 100000 in
theorem isPlain_any (s : ByteArray) (w : World) (hs : s.size ≤ 1048576) : Calls Try.prog 51 #[.string s] w fun e w' => e = .returned (.bool (M12.plain s)) ∧ w = w' := by
  go_enter Try.func51, Try.ntmps51
  go_wp2
  go_loop [3] (fun iv => ∃ j : Nat, iv = .int .i64 j ∧ j ≤ s.size ∧ Hid (∀ i, i < j → 32 ≤ M3.gb s i ∧ M3.gb s i ≤ 126)) (fun iv => (s.size - intOf iv).toNat)
  case atStart => exact ⟨0, rfl, by omega, show Hid _ from fun i hi => by omega⟩
  case round =>
    obtain ⟨j, rfl, hj, hP⟩ := hrel
    by_cases hjl : j < s.size
    · have hg := M3.gb_eq s j hjl
      have hlt2 := M3.gb_lt s j
      have HP1 : Hid _ := fun (h : 32 ≤ M3.gb s j ∧ M3.gb s j ≤ 126) i (hi : i < j + 1) => (if e : i = j then e ▸ h else hP.out i (by omega) : 32 ≤ M3.gb s i ∧ M3.gb s i ≤ 126)
      have HP2 : Hid _ := fun h => M12.plain_no (s := s) hjl h
      generalize M3.gb s j = c at *
      by_cases h32 : c < 32
      · have HR : Hid _ := HP2.out (by omega)
        clear HP1 HP2 hP
        go_wp2
        go_ret
        exact ⟨M4.ret_bool HR.out.symm, rfl⟩
      · by_cases h126 : 126 < c
        · have HR : Hid _ := HP2.out (by omega)
          clear HP1 HP2 hP
          go_wp2
          go_ret
          exact ⟨M4.ret_bool HR.out.symm, rfl⟩
        · have HP : Hid _ := HP1.out (by omega)
          clear HP1 HP2 hP
          go_wp2
          go_round
          case rel => first | exact ⟨j + 1, by go_num, by omega, HP⟩ | exact ⟨_, .int .i64 ((j : Int) + 1), ⟨j + 1, by go_num, by omega, HP⟩, rfl, rfl⟩
          case measure => simp [intOf]; omega
    · obtain rfl : j = s.size := by omega
      have HR : Hid _ := M12.plain_yes hP.out
      clear hP
      go_wp2
      go_ret
      exact ⟨M4.ret_bool HR.out.symm, rfl⟩
end Go.Proofs.Ytdkhjnpdphnigaa
