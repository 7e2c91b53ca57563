/- The specification's l2Value at an item that is a text. -/
import Derived.Test.YtdkhjnpdphnigaaRows
import Derived.Test.YtdkhjnpdphnigaaM12
import Derived.WalkKit
import Derived.WalkSpells
import Derived.WalkLawsBesides
import Derived.Outline
import Derived.Deep.QuietTactic
import Derived.BigQuiet
namespace Go.Proofs.Ytdkhjnpdphnigaa
open Go.RowKit
set_option maxHeartbeats 3200000 in
set_option maxRecDepth 100000 in
theorem l2Value_k2 (a : Option Addr) (cap : Nat) (xs : List It) (k d : Nat) (w : World) (hl : xs.length ≤ 1048576) (_ : d ≤ 5) (hk : k < xs.length) (hts : (M11.at_ xs k).text.size ≤ 1048576) (hin : M11.ItemsAt w a xs) (h1 : (M11.at_ xs k).kind = 2) (o : M12.O)
    (hy : Hid (M12.leaf (M11.at_ xs k) = true → o = some (1, 0))) (hn : Hid (M12.leaf (M11.at_ xs k) = false → o = none)) :
    Calls Try.prog 29 #[.slice a xs.length cap, .int .i64 (k : Int), .int .i64 (d : Int)] w fun e w' => M12.res k d o e ∧ Below w.heap.size w w' := by
  obtain ⟨b, off, rfl, hlt, c0, c1, c2, c3⟩ := hin.at hk
  have hlf := M12.leaf2 h1
  have hy' := hy.out
  have hn' := hn.out
  rw [hlf] at hy' hn'
  generalize M11.at_ xs k = x at *
  obtain ⟨x0, x1, x2, x3⟩ := x
  simp only at h1 hy' hn' c0 c1 c2 c3 hts
  subst h1
  have HY : Hid _ := hy'
  have HN : Hid _ := hn'
  clear hy' hn' hlf hy hn hin
  have hB : Below w.heap.size w (w.alloc (.cells #[.int .i64 2, .int .i64 x1, .string x2, .int .i64 x3] 43)) := (Below.refl _ w).alloc (Nat.le_refl _) _
  go_enter Try.func29, Try.ntmps29
  go_wp2
  go_loop [10] (fun iv => ∃ j : Nat, iv = .int .i64 j ∧ j ≤ x2.size) (fun iv => (x2.size - intOf iv).toNat)
  case atStart => exact ⟨0, rfl, by omega⟩
  case round =>
    obtain ⟨j, rfl, hj⟩ := hrel
    by_cases hjl : j < x2.size
    · go_wp2
      go_round
      case rel => exact ⟨j + 1, by go_num, by omega⟩
      case measure => simp [intOf]; omega
    · obtain rfl : j = x2.size := by omega
      by_cases hs6 : x2.size ≤ 60
      · have ds : decide ((x2.size : Int) ≤ 60) = true := by simp; omega
        by_cases hn0 : x1 = 0
        · subst hn0
          by_cases hm : x3 = 0
          · subst hm
            have HR : Hid _ := HY.out (by simp [hs6])
            clear HY HN hs6
            go_wp2
            go_quiet (fail)
            go_wp2
            exact bodyPost_ret (v := .tuple #[.int .i64 ((k : Int) + 1), .int .i64 (d), .bool true]) (by simp [results, Try.results29, go_sem]) rfl ⟨M12.res_yes HR.out (by omega) (by omega), below_drewN hB _⟩
          · have HR : Hid _ := HN.out (by simp [hm])
            have hm2 : (x3 == 0) = false := by simp [hm]
            clear HY HN hs6 hm
            go_wp2
            go_quiet (fail)
            go_wp2
            exact bodyPost_ret (v := .tuple #[.int .i64 ((k : Int) + 1), .int .i64 (d), .bool false]) (by simp [results, Try.results29, go_sem]) rfl ⟨M12.res_no HR.out _ _, below_drewN hB _⟩
        · have HR : Hid _ := HN.out (by simp [hn0])
          have hn2 : (x1 == 0) = false := by simp [hn0]
          clear HY HN hs6 hn0
          go_wp2
          go_quiet (fail)
          go_wp2
          exact bodyPost_ret (v := .tuple #[.int .i64 ((k : Int) + 1), .int .i64 (d), .bool false]) (by simp [results, Try.results29, go_sem]) rfl ⟨M12.res_no HR.out _ _, below_drewN hB _⟩
      · have ds : decide ((x2.size : Int) ≤ 60) = false := by simp; omega
        have HR : Hid _ := HN.out (by simp [hs6])
        clear HY HN hs6
        go_wp2
        go_quiet (fail)
        go_wp2
        exact bodyPost_ret (v := .tuple #[.int .i64 ((k : Int) + 1), .int .i64 (d), .bool false]) (by simp [results, Try.results29, go_sem]) rfl ⟨M12.res_no HR.out _ _, below_drewN hB _⟩
set_option maxHeartbeats 3200000 in
set_option maxRecDepth 100000 in
theorem l2Value_k3 (a : Option Addr) (cap : Nat) (xs : List It) (k d : Nat) (w : World) (hl : xs.length ≤ 1048576) (_ : d ≤ 5) (hk : k < xs.length) (hts : (M11.at_ xs k).text.size ≤ 1048576) (hin : M11.ItemsAt w a xs) (h1 : (M11.at_ xs k).kind = 3) (o : M12.O)
    (hy : Hid (M12.leaf (M11.at_ xs k) = true → o = some (1, 0))) (hn : Hid (M12.leaf (M11.at_ xs k) = false → o = none)) :
    Calls Try.prog 29 #[.slice a xs.length cap, .int .i64 (k : Int), .int .i64 (d : Int)] w fun e w' => M12.res k d o e ∧ Below w.heap.size w w' := by
  obtain ⟨b, off, rfl, hlt, c0, c1, c2, c3⟩ := hin.at hk
  have hlf := M12.leaf3 h1
  have hy' := hy.out
  have hn' := hn.out
  rw [hlf] at hy' hn'
  generalize M11.at_ xs k = x at *
  obtain ⟨x0, x1, x2, x3⟩ := x
  simp only at h1 hy' hn' c0 c1 c2 c3 hts
  subst h1
  have HY : Hid _ := hy'
  have HN : Hid _ := hn'
  clear hy' hn' hlf hy hn hin
  have hB : Below w.heap.size w (w.alloc (.cells #[.int .i64 3, .int .i64 x1, .string x2, .int .i64 x3] 43)) := (Below.refl _ w).alloc (Nat.le_refl _) _
  go_enter Try.func29, Try.ntmps29
  go_wp2
  go_loop [10] (fun iv => ∃ j : Nat, iv = .int .i64 j ∧ j ≤ x2.size ∧ Hid (∀ i, i < j → 32 ≤ M3.gb x2 i ∧ M3.gb x2 i ≤ 126)) (fun iv => (x2.size - intOf iv).toNat)
  case atStart => exact ⟨0, rfl, by omega, show Hid _ from fun i hi => by omega⟩
  case round =>
    obtain ⟨j, rfl, hj, hP⟩ := hrel
    by_cases hjl : j < x2.size
    · have hg := M3.gb_eq x2 j hjl
      have hlt2 := M3.gb_lt x2 j
      have HP1 : Hid _ := fun (h : 32 ≤ M3.gb x2 j ∧ M3.gb x2 j ≤ 126) i (hi : i < j + 1) => (if e : i = j then e ▸ h else hP.out i (by omega) : 32 ≤ M3.gb x2 i ∧ M3.gb x2 i ≤ 126)
      have HP2 : Hid _ := fun h => M12.plain_no (s := x2) hjl h
      generalize M3.gb x2 j = c at *
      by_cases h32 : c < 32
      · have HR : Hid _ := HN.out (by rw [HP2.out (by omega)]; simp)
        clear HP1 HP2 hP HY HN
        go_wp2
        exact bodyPost_ret (v := .tuple #[.int .i64 (0), .int .i64 (0), .bool false]) (by simp [results, Try.results29, go_sem]) rfl ⟨M12.res_no HR.out _ _, hB⟩
      · by_cases h126 : 126 < c
        · have HR : Hid _ := HN.out (by rw [HP2.out (by omega)]; simp)
          clear HP1 HP2 hP HY HN
          go_wp2
          exact bodyPost_ret (v := .tuple #[.int .i64 (0), .int .i64 (0), .bool false]) (by simp [results, Try.results29, go_sem]) rfl ⟨M12.res_no HR.out _ _, hB⟩
        · have HP : Hid _ := HP1.out (by omega)
          clear HP1 HP2 hP HY HN
          go_wp2
          go_round
          case rel => exact ⟨_, _, _, .int .i64 ((j : Int) + 1), ⟨j + 1, by go_num, by omega, HP⟩, rfl, rfl, rfl, rfl⟩
          case measure => simp [intOf]; omega
    · obtain rfl : j = x2.size := by omega
      have HPl : Hid _ := M12.plain_yes hP.out
      clear hP
      by_cases hs6 : x2.size ≤ 60
      · have ds : decide ((x2.size : Int) ≤ 60) = true := by simp; omega
        by_cases hn0 : x1 = 0
        · subst hn0
          by_cases hm : x3 = 0
          · subst hm
            have HR : Hid _ := HY.out (by rw [HPl.out]; simp [hs6])
            clear HY HN hs6
            go_wp2
            go_quiet (fail)
            go_wp2
            exact bodyPost_ret (v := .tuple #[.int .i64 ((k : Int) + 1), .int .i64 (d), .bool true]) (by simp [results, Try.results29, go_sem]) rfl ⟨M12.res_yes HR.out (by omega) (by omega), below_drewN hB _⟩
          · have HR : Hid _ := HN.out (by simp [hm])
            have hm2 : (x3 == 0) = false := by simp [hm]
            clear HY HN hs6 hm
            go_wp2
            go_quiet (fail)
            go_wp2
            exact bodyPost_ret (v := .tuple #[.int .i64 ((k : Int) + 1), .int .i64 (d), .bool false]) (by simp [results, Try.results29, go_sem]) rfl ⟨M12.res_no HR.out _ _, below_drewN hB _⟩
        · have HR : Hid _ := HN.out (by simp [hn0])
          have hn2 : (x1 == 0) = false := by simp [hn0]
          clear HY HN hs6 hn0
          go_wp2
          go_quiet (fail)
          go_wp2
          exact bodyPost_ret (v := .tuple #[.int .i64 ((k : Int) + 1), .int .i64 (d), .bool false]) (by simp [results, Try.results29, go_sem]) rfl ⟨M12.res_no HR.out _ _, below_drewN hB _⟩
      · have ds : decide ((x2.size : Int) ≤ 60) = false := by simp; omega
        have HR : Hid _ := HN.out (by simp [hs6])
        clear HY HN hs6
        go_wp2
        go_quiet (fail)
        go_wp2
        exact bodyPost_ret (v := .tuple #[.int .i64 ((k : Int) + 1), .int .i64 (d), .bool false]) (by simp [results, Try.results29, go_sem]) rfl ⟨M12.res_no HR.out _ _, below_drewN hB _⟩
end Go.Proofs.Ytdkhjnpdphnigaa
