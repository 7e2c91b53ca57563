/- The specification's l2Value at an item that is a number. -/
import Derived.Test.YtdkhjnpdphnigaaRows
import Derived.Test.YtdkhjnpdphnigaaM12
import Derived.Test.YtdkhjnpdphnigaaCL1Value
import Derived.WalkKit
import Derived.WalkSpells
import Derived.WalkLawsBesides
import Derived.Outline
import Derived.Deep.QuietTactic
import Derived.BigQuiet
namespace Go.Proofs.Ytdkhjnpdphnigaa
open Go.RowKit
set_option maxHeartbeats 1600000 in
set_option maxRecDepth 100000 in
theorem l2Value_num (a : Option Addr) (cap : Nat) (xs : List It) (k d : Nat) (w : World) (hl : xs.length ≤ 1048576) (_ : d ≤ 5) (hk : k < xs.length) (hin : M11.ItemsAt w a xs) (h1 : (M11.at_ xs k).kind = 1) (o : M12.O)
    (hy : Hid (M12.leaf (M11.at_ xs k) = true → o = some (1, 0))) (hn : Hid (M12.leaf (M11.at_ xs k) = false → o = none)) :
    Calls Try.prog 29 #[.slice a xs.length cap, .int .i64 (k : Int), .int .i64 (d : Int)] w fun e w' => M12.res k d o e ∧ Below w.heap.size w w' := by
  obtain ⟨b, off, rfl, hlt, c0, c1, c2, c3⟩ := hin.at hk
  have hlf := M12.leaf1 h1
  have hy' := hy.out
  have hn' := hn.out
  rw [hlf] at hy' hn'
  generalize M11.at_ xs k = x at *
  obtain ⟨x0, x1, x2, x3⟩ := x
  simp only at h1 hy' hn' c0 c1 c2 c3
  subst h1
  have HY : Hid _ := hy'
  have HN : Hid _ := hn'
  clear hy' hn' hlf hy hn hin
  have hB : Below w.heap.size w (w.alloc (.cells #[.int .i64 1, .int .i64 x1, .string x2, .int .i64 x3] 43)) := (Below.refl _ w).alloc (Nat.le_refl _) _
  cases hb : okN x1
  · have HR : Hid _ := HN.out (by simp [hb])
    have IN : Hid (∀ W : World, Calls Try.prog 41 #[.int .i64 x1] W fun e w' => e = .returned (.bool false) ∧ W = w') := fun W => by have := l1Value_any x1 W; rwa [hb] at this
    clear hb HY HN
    go_enter Try.func29, Try.ntmps29
    go_wp2
    go_quiet ((go_at_call 41; exact (IN.out _).mono (by rintro e w' ⟨rfl, rfl⟩; exact ⟨rfl, _, rfl⟩)))
    go_wp2
    exact bodyPost_ret (v := .tuple #[.int .i64 ((k : Int) + 1), .int .i64 (d), .bool false]) (by simp [results, Try.results29, go_sem]) rfl ⟨M12.res_no HR.out _ _, below_drewN hB _⟩
  · have IN : Hid (∀ W : World, Calls Try.prog 41 #[.int .i64 x1] W fun e w' => e = .returned (.bool true) ∧ W = w') := fun W => by have := l1Value_any x1 W; rwa [hb] at this
    by_cases ht : x2 = ⟨#[]⟩
    · subst ht
      by_cases hm : x3 = 0
      · subst hm
        have HR : Hid _ := HY.out (by simp [hb])
        clear hb HY HN
        go_enter Try.func29, Try.ntmps29
        go_wp2
        go_quiet ((go_at_call 41; exact (IN.out _).mono (by rintro e w' ⟨rfl, rfl⟩; exact ⟨rfl, _, rfl⟩)))
        go_wp2
        exact bodyPost_ret (v := .tuple #[.int .i64 ((k : Int) + 1), .int .i64 (d), .bool true]) (by simp [results, Try.results29, go_sem]) rfl ⟨M12.res_yes HR.out (by omega) (by omega), below_drewN hB _⟩
      · have HR : Hid _ := HN.out (by simp [hm])
        have hm2 : (x3 == 0) = false := by simp [hm]
        clear hb HY HN hm
        go_enter Try.func29, Try.ntmps29
        go_wp2
        go_quiet ((go_at_call 41; exact (IN.out _).mono (by rintro e w' ⟨rfl, rfl⟩; exact ⟨rfl, _, rfl⟩)))
        go_wp2
        exact bodyPost_ret (v := .tuple #[.int .i64 ((k : Int) + 1), .int .i64 (d), .bool false]) (by simp [results, Try.results29, go_sem]) rfl ⟨M12.res_no HR.out _ _, below_drewN hB _⟩
    · have HR : Hid _ := HN.out (by simp [ht])
      have ht2 : (x2.toList == (⟨#[]⟩ : ByteArray).toList) = false := M8.beq_no ht
      have ht3 : (x2.toList == []) = false := M8.nil_no ht
      clear hb HY HN ht
      go_enter Try.func29, Try.ntmps29
      go_wp2
      go_quiet ((go_at_call 41; exact (IN.out _).mono (by rintro e w' ⟨rfl, rfl⟩; exact ⟨rfl, _, rfl⟩)))
      go_wp2
      exact bodyPost_ret (v := .tuple #[.int .i64 ((k : Int) + 1), .int .i64 (d), .bool false]) (by simp [results, Try.results29, go_sem]) rfl ⟨M12.res_no HR.out _ _, below_drewN hB _⟩
end Go.Proofs.Ytdkhjnpdphnigaa
