import Derived.Test.YtcpfbgogfhlmjaaDoorRows
import Derived.Test.YtcpfbgogfhlmjaaDoorM12
import Derived.Test.YtcpfbgogfhlmjaaDoorCL1Value
import Derived.WalkKit
import Derived.WalkSpells
import Derived.WalkLawsBesides
import Derived.Outline
import Derived.Deep.QuietTactic
import Derived.BigQuiet
import Derived.Test.YtcpfbgogfhlmjaaDoorCL2Bytes
import Derived.Test.YtcpfbgogfhlmjaaDoorSlF
import Derived.Test.YtcpfbgogfhlmjaaDoorM10
import Derived.Test.YtcpfbgogfhlmjaaDoorMR
import Derived.Test.YtcpfbgogfhlmjaaDoorCL2Head
import Derived.Lib.ConvBytes
import Derived.Test.YtcpfbgogfhlmjaaDoorCImplRead
/- The specification's l2Value at an item that is a number. -/
namespace Go.Proofs.YtcpfbgogfhlmjaaDoor
open Go.RowKit
set_option maxHeartbeats 1600000 in
set_option maxRecDepth 100000 in
theorem l2Value_num (a : Option Addr) (cap : Nat) (xs : List It) (k d : Nat) (w : World) (hl : xs.length ≤ 1048576) (_ : d ≤ 5) (hk : k < xs.length) (hin : M11.ItemsAt w a xs) (h1 : (M11.at_ xs k).kind = 1) (o : M12.O)
    (hy : Hid (M12.leaf (M11.at_ xs k) = true → o = some (1, 0))) (hn : Hid (M12.leaf (M11.at_ xs k) = false → o = none)) :
    Calls Tryd.prog 85 #[.slice a xs.length cap, .int .i64 (k : Int), .int .i64 (d : Int)] w fun e w' => M12.res k d o e ∧ Below w.heap.size w w' := by
  obtain ⟨b, off, rfl, hlt, c0, c1, c2, c3⟩ := hin.at hk
  have hlf := M12.leaf1 h1
  have hy' := hy.out
  have hn' := hn.out
  rw [hlf] at hy' hn'
  generalize M11.at_ xs k = x at *
  obtain ⟨x0, x1, x2, x3⟩ := x
  simp only at h1 hy' hn' c0 c1 c2 c3
  subst h1
  have HY : Hid _ := hy'
  have HN : Hid _ := hn'
  clear hy' hn' hlf hy hn hin
  have hB : Below w.heap.size w (w.alloc (.cells #[.int .i64 1, .int .i64 x1, .string x2, .int .i64 x3] 65)) := (Below.refl _ w).alloc (Nat.le_refl _) _
  cases hb : okN x1
  · have HR : Hid _ := HN.out (by simp [hb])
    have IN : Hid (∀ W : World, Calls Tryd.prog 75 #[.int .i64 x1] W fun e w' => e = .returned (.bool false) ∧ W = w') := fun W => by have := l1Value_any x1 W; rwa [hb] at this
    clear hb HY HN
    go_enter Tryd.func85, Tryd.ntmps85
    go_wp2
    go_quiet ((go_at_call 75; exact (IN.out _).mono (by rintro e w' ⟨rfl, rfl⟩; exact ⟨rfl, _, rfl⟩)))
    go_wp2
    exact bodyPost_ret (v := .tuple #[.int .i64 ((k : Int) + 1), .int .i64 (d), .bool false]) (by simp [results, Tryd.results85, go_sem]) rfl ⟨M12.res_no HR.out _ _, below_drewN hB _⟩
  · have IN : Hid (∀ W : World, Calls Tryd.prog 75 #[.int .i64 x1] W fun e w' => e = .returned (.bool true) ∧ W = w') := fun W => by have := l1Value_any x1 W; rwa [hb] at this
    by_cases ht : x2 = ⟨#[]⟩
    · subst ht
      by_cases hm : x3 = 0
      · subst hm
        have HR : Hid _ := HY.out (by simp [hb])
        clear hb HY HN
        go_enter Tryd.func85, Tryd.ntmps85
        go_wp2
        go_quiet ((go_at_call 75; exact (IN.out _).mono (by rintro e w' ⟨rfl, rfl⟩; exact ⟨rfl, _, rfl⟩)))
        go_wp2
        exact bodyPost_ret (v := .tuple #[.int .i64 ((k : Int) + 1), .int .i64 (d), .bool true]) (by simp [results, Tryd.results85, go_sem]) rfl ⟨M12.res_yes HR.out (by omega) (by omega), below_drewN hB _⟩
      · have HR : Hid _ := HN.out (by simp [hm])
        have hm2 : (x3 == 0) = false := by simp [hm]
        clear hb HY HN hm
        go_enter Tryd.func85, Tryd.ntmps85
        go_wp2
        go_quiet ((go_at_call 75; exact (IN.out _).mono (by rintro e w' ⟨rfl, rfl⟩; exact ⟨rfl, _, rfl⟩)))
        go_wp2
        exact bodyPost_ret (v := .tuple #[.int .i64 ((k : Int) + 1), .int .i64 (d), .bool false]) (by simp [results, Tryd.results85, go_sem]) rfl ⟨M12.res_no HR.out _ _, below_drewN hB _⟩
    · have HR : Hid _ := HN.out (by simp [ht])
      have ht2 : (x2.toList == (⟨#[]⟩ : ByteArray).toList) = false := M8.beq_no ht
      have ht3 : (x2.toList == []) = false := M8.nil_no ht
      clear hb HY HN ht
      go_enter Tryd.func85, Tryd.ntmps85
      go_wp2
      go_quiet ((go_at_call 75; exact (IN.out _).mono (by rintro e w' ⟨rfl, rfl⟩; exact ⟨rfl, _, rfl⟩)))
      go_wp2
      exact bodyPost_ret (v := .tuple #[.int .i64 ((k : Int) + 1), .int .i64 (d), .bool false]) (by simp [results, Tryd.results85, go_sem]) rfl ⟨M12.res_no HR.out _ _, below_drewN hB _⟩
end Go.Proofs.YtcpfbgogfhlmjaaDoor

/- The specification's l2Value at an item that is a text. -/
namespace Go.Proofs.YtcpfbgogfhlmjaaDoor
open Go.RowKit
set_option maxHeartbeats 3200000 in
set_option maxRecDepth 100000 in
theorem l2Value_k2 (a : Option Addr) (cap : Nat) (xs : List It) (k d : Nat) (w : World) (hl : xs.length ≤ 1048576) (_ : d ≤ 5) (hk : k < xs.length) (hts : (M11.at_ xs k).text.size ≤ 1048576) (hin : M11.ItemsAt w a xs) (h1 : (M11.at_ xs k).kind = 2) (o : M12.O)
    (hy : Hid (M12.leaf (M11.at_ xs k) = true → o = some (1, 0))) (hn : Hid (M12.leaf (M11.at_ xs k) = false → o = none)) :
    Calls Tryd.prog 85 #[.slice a xs.length cap, .int .i64 (k : Int), .int .i64 (d : Int)] w fun e w' => M12.res k d o e ∧ Below w.heap.size w w' := by
  obtain ⟨b, off, rfl, hlt, c0, c1, c2, c3⟩ := hin.at hk
  have hlf := M12.leaf2 h1
  have hy' := hy.out
  have hn' := hn.out
  rw [hlf] at hy' hn'
  generalize M11.at_ xs k = x at *
  obtain ⟨x0, x1, x2, x3⟩ := x
  simp only at h1 hy' hn' c0 c1 c2 c3 hts
  subst h1
  have HY : Hid _ := hy'
  have HN : Hid _ := hn'
  clear hy' hn' hlf hy hn hin
  have hB : Below w.heap.size w (w.alloc (.cells #[.int .i64 2, .int .i64 x1, .string x2, .int .i64 x3] 65)) := (Below.refl _ w).alloc (Nat.le_refl _) _
  go_enter Tryd.func85, Tryd.ntmps85
  go_wp2
  go_loop [10] (fun iv => ∃ j : Nat, iv = .int .i64 j ∧ j ≤ x2.size) (fun iv => (x2.size - intOf iv).toNat)
  case atStart => exact ⟨0, rfl, by omega⟩
  case round =>
    obtain ⟨j, rfl, hj⟩ := hrel
    by_cases hjl : j < x2.size
    · go_wp2
      go_round
      case rel => exact ⟨j + 1, by go_num, by omega⟩
      case measure => simp [intOf]; omega
    · obtain rfl : j = x2.size := by omega
      by_cases hs6 : x2.size ≤ 60
      · have ds : decide ((x2.size : Int) ≤ 60) = true := by simp; omega
        by_cases hn0 : x1 = 0
        · subst hn0
          by_cases hm : x3 = 0
          · subst hm
            have HR : Hid _ := HY.out (by simp [hs6])
            clear HY HN hs6
            go_wp2
            go_quiet (fail)
            go_wp2
            exact bodyPost_ret (v := .tuple #[.int .i64 ((k : Int) + 1), .int .i64 (d), .bool true]) (by simp [results, Tryd.results85, go_sem]) rfl ⟨M12.res_yes HR.out (by omega) (by omega), below_drewN hB _⟩
          · have HR : Hid _ := HN.out (by simp [hm])
            have hm2 : (x3 == 0) = false := by simp [hm]
            clear HY HN hs6 hm
            go_wp2
            go_quiet (fail)
            go_wp2
            exact bodyPost_ret (v := .tuple #[.int .i64 ((k : Int) + 1), .int .i64 (d), .bool false]) (by simp [results, Tryd.results85, go_sem]) rfl ⟨M12.res_no HR.out _ _, below_drewN hB _⟩
        · have HR : Hid _ := HN.out (by simp [hn0])
          have hn2 : (x1 == 0) = false := by simp [hn0]
          clear HY HN hs6 hn0
          go_wp2
          go_quiet (fail)
          go_wp2
          exact bodyPost_ret (v := .tuple #[.int .i64 ((k : Int) + 1), .int .i64 (d), .bool false]) (by simp [results, Tryd.results85, go_sem]) rfl ⟨M12.res_no HR.out _ _, below_drewN hB _⟩
      · have ds : decide ((x2.size : Int) ≤ 60) = false := by simp; omega
        have HR : Hid _ := HN.out (by simp [hs6])
        clear HY HN hs6
        go_wp2
        go_quiet (fail)
        go_wp2
        exact bodyPost_ret (v := .tuple #[.int .i64 ((k : Int) + 1), .int .i64 (d), .bool false]) (by simp [results, Tryd.results85, go_sem]) rfl ⟨M12.res_no HR.out _ _, below_drewN hB _⟩
set_option maxHeartbeats 3200000 in
set_option maxRecDepth 100000 in
theorem l2Value_k3 (a : Option Addr) (cap : Nat) (xs : List It) (k d : Nat) (w : World) (hl : xs.length ≤ 1048576) (_ : d ≤ 5) (hk : k < xs.length) (hts : (M11.at_ xs k).text.size ≤ 1048576) (hin : M11.ItemsAt w a xs) (h1 : (M11.at_ xs k).kind = 3) (o : M12.O)
    (hy : Hid (M12.leaf (M11.at_ xs k) = true → o = some (1, 0))) (hn : Hid (M12.leaf (M11.at_ xs k) = false → o = none)) :
    Calls Tryd.prog 85 #[.slice a xs.length cap, .int .i64 (k : Int), .int .i64 (d : Int)] w fun e w' => M12.res k d o e ∧ Below w.heap.size w w' := by
  obtain ⟨b, off, rfl, hlt, c0, c1, c2, c3⟩ := hin.at hk
  have hlf := M12.leaf3 h1
  have hy' := hy.out
  have hn' := hn.out
  rw [hlf] at hy' hn'
  generalize M11.at_ xs k = x at *
  obtain ⟨x0, x1, x2, x3⟩ := x
  simp only at h1 hy' hn' c0 c1 c2 c3 hts
  subst h1
  have HY : Hid _ := hy'
  have HN : Hid _ := hn'
  clear hy' hn' hlf hy hn hin
  have hB : Below w.heap.size w (w.alloc (.cells #[.int .i64 3, .int .i64 x1, .string x2, .int .i64 x3] 65)) := (Below.refl _ w).alloc (Nat.le_refl _) _
  go_enter Tryd.func85, Tryd.ntmps85
  go_wp2
  go_loop [10] (fun iv => ∃ j : Nat, iv = .int .i64 j ∧ j ≤ x2.size ∧ Hid (∀ i, i < j → 32 ≤ M3.gb x2 i ∧ M3.gb x2 i ≤ 126)) (fun iv => (x2.size - intOf iv).toNat)
  case atStart => exact ⟨0, rfl, by omega, show Hid _ from fun i hi => by omega⟩
  case round =>
    obtain ⟨j, rfl, hj, hP⟩ := hrel
    by_cases hjl : j < x2.size
    · have hg := M3.gb_eq x2 j hjl
      have hlt2 := M3.gb_lt x2 j
      have HP1 : Hid _ := fun (h : 32 ≤ M3.gb x2 j ∧ M3.gb x2 j ≤ 126) i (hi : i < j + 1) => (if e : i = j then e ▸ h else hP.out i (by omega) : 32 ≤ M3.gb x2 i ∧ M3.gb x2 i ≤ 126)
      have HP2 : Hid _ := fun h => M12.plain_no (s := x2) hjl h
      generalize M3.gb x2 j = c at *
      by_cases h32 : c < 32
      · have HR : Hid _ := HN.out (by rw [HP2.out (by omega)]; simp)
        clear HP1 HP2 hP HY HN
        go_wp2
        exact bodyPost_ret (v := .tuple #[.int .i64 (0), .int .i64 (0), .bool false]) (by simp [results, Tryd.results85, go_sem]) rfl ⟨M12.res_no HR.out _ _, hB⟩
      · by_cases h126 : 126 < c
        · have HR : Hid _ := HN.out (by rw [HP2.out (by omega)]; simp)
          clear HP1 HP2 hP HY HN
          go_wp2
          exact bodyPost_ret (v := .tuple #[.int .i64 (0), .int .i64 (0), .bool false]) (by simp [results, Tryd.results85, go_sem]) rfl ⟨M12.res_no HR.out _ _, hB⟩
        · have HP : Hid _ := HP1.out (by omega)
          clear HP1 HP2 hP HY HN
          go_wp2
          go_round
          case rel => exact ⟨_, _, _, .int .i64 ((j : Int) + 1), ⟨j + 1, by go_num, by omega, HP⟩, rfl, rfl, rfl, rfl⟩
          case measure => simp [intOf]; omega
    · obtain rfl : j = x2.size := by omega
      have HPl : Hid _ := M12.plain_yes hP.out
      clear hP
      by_cases hs6 : x2.size ≤ 60
      · have ds : decide ((x2.size : Int) ≤ 60) = true := by simp; omega
        by_cases hn0 : x1 = 0
        · subst hn0
          by_cases hm : x3 = 0
          · subst hm
            have HR : Hid _ := HY.out (by rw [HPl.out]; simp [hs6])
            clear HY HN hs6
            go_wp2
            go_quiet (fail)
            go_wp2
            exact bodyPost_ret (v := .tuple #[.int .i64 ((k : Int) + 1), .int .i64 (d), .bool true]) (by simp [results, Tryd.results85, go_sem]) rfl ⟨M12.res_yes HR.out (by omega) (by omega), below_drewN hB _⟩
          · have HR : Hid _ := HN.out (by simp [hm])
            have hm2 : (x3 == 0) = false := by simp [hm]
            clear HY HN hs6 hm
            go_wp2
            go_quiet (fail)
            go_wp2
            exact bodyPost_ret (v := .tuple #[.int .i64 ((k : Int) + 1), .int .i64 (d), .bool false]) (by simp [results, Tryd.results85, go_sem]) rfl ⟨M12.res_no HR.out _ _, below_drewN hB _⟩
        · have HR : Hid _ := HN.out (by simp [hn0])
          have hn2 : (x1 == 0) = false := by simp [hn0]
          clear HY HN hs6 hn0
          go_wp2
          go_quiet (fail)
          go_wp2
          exact bodyPost_ret (v := .tuple #[.int .i64 ((k : Int) + 1), .int .i64 (d), .bool false]) (by simp [results, Tryd.results85, go_sem]) rfl ⟨M12.res_no HR.out _ _, below_drewN hB _⟩
      · have ds : decide ((x2.size : Int) ≤ 60) = false := by simp; omega
        have HR : Hid _ := HN.out (by simp [hs6])
        clear HY HN hs6
        go_wp2
        go_quiet (fail)
        go_wp2
        exact bodyPost_ret (v := .tuple #[.int .i64 ((k : Int) + 1), .int .i64 (d), .bool false]) (by simp [results, Tryd.results85, go_sem]) rfl ⟨M12.res_no HR.out _ _, below_drewN hB _⟩
end Go.Proofs.YtcpfbgogfhlmjaaDoor

/- The specification's l2Value at an item that is a list's, and at any. -/
namespace Go.Proofs.YtcpfbgogfhlmjaaDoor
open Go.RowKit
/-- What l2Value says, r lists within one another at most. -/
def L2V (r : Nat) : Prop := ∀ (a : Option Addr) (cap : Nat) (xs : List It) (k d : Nat) (w : World), xs.length ≤ 1048576 → d + r = 5 → k ≤ xs.length → Hid (M11.Wf xs) → M11.ItemsAt w a xs →
    Calls Tryd.prog 85 #[.slice a xs.length cap, .int .i64 (k : Int), .int .i64 (d : Int)] w fun e w' => M12.res k d (M12.vl r (xs.drop k)) e ∧ Below w.heap.size w w'
theorem res_some {k d c D : Nat} {o : M12.O} {e : Ending} (h : M12.res k d o e) (ho : o = some (c, D)) : e = .returned (.tuple #[.int .i64 ((k + c : Nat) : Int), .int .i64 ((d + D : Nat) : Int), .bool true]) := by rw [ho] at h; exact h
theorem res_none {k d : Nat} {o : M12.O} {e : Ending} (h : M12.res k d o e) (ho : o = none) : ∃ p q : Int, e = .returned (.tuple #[.int .i64 p, .int .i64 q, .bool false]) := by rw [ho] at h; exact h
set_option maxHeartbeats 3200000 in
set_option maxRecDepth 100000 in
theorem l2Value_list (r : Nat) (ih : Hid (∀ r', r = r' + 1 → L2V r')) (a : Option Addr) (cap : Nat) (xs : List It) (k d : Nat) (w : World) (hl : xs.length ≤ 1048576) (hd : d + r = 5) (hk : k < xs.length)
    (hts : Hid (M11.Wf xs)) (hin : M11.ItemsAt w a xs) (h1 : (M11.at_ xs k).kind = 4) :
    Calls Tryd.prog 85 #[.slice a xs.length cap, .int .i64 (k : Int), .int .i64 (d : Int)] w fun e w' => M12.res k d (M12.vl r (xs.drop k)) e ∧ Below w.heap.size w w' := by
  have hm64 := (hts.out k hk).2
  obtain ⟨b, off, rfl, hlt, c0, c1, c2, c3⟩ := hin.at hk
  have hdr := M12.drop_cons hk
  have hlf : M12.leaf (M11.at_ xs k) = false := M12.leaf0 (by omega) (by omega) (by omega)
  have hls := M12.lst4 h1
  rw [hdr]
  clear hdr
  generalize M11.at_ xs k = x at *
  obtain ⟨x0, x1, x2, x3⟩ := x
  simp only at h1 hls c0 c1 c2 c3 hm64
  subst h1
  have hB : Below w.heap.size w (w.alloc (.cells #[.int .i64 4, .int .i64 x1, .string x2, .int .i64 x3] 65)) := (Below.refl _ w).alloc (Nat.le_refl _) _
  by_cases hok : x1 = 0 ∧ x2 = ⟨#[]⟩ ∧ 0 ≤ x3
  · obtain ⟨rfl, rfl, h30⟩ := hok
    obtain ⟨x3, rfl⟩ := Int.eq_ofNat_of_zero_le h30
    have hls' : M12.lst ⟨4, 0, ⟨#[]⟩, (x3 : Int)⟩ = true := by rw [hls]; simp
    clear hls hlf
    cases r with
    | zero =>
      have HR : Hid _ := M12.vl_deep (l := xs.drop (k + 1)) (M12.lst_leaf hls')
      obtain rfl : d = 5 := by omega
      clear hls' ih
      go_enter Tryd.func85, Tryd.ntmps85
      go_wp2
      exact bodyPost_ret (v := .tuple #[.int .i64 (0), .int .i64 (0), .bool false]) (by simp [results, Tryd.results85, go_sem]) rfl ⟨M12.res_no HR.out _ _, hB⟩
    | succ r =>
      have IH : Hid (L2V r) := ih.out r rfl
      have HLS : Hid _ := hls'
      have d5 : ((d : Int) == 5) = false := by simp; omega
      clear hls' ih
      have hin1 := hin.below hB
      go_enter Tryd.func85, Tryd.ntmps85
      go_wp2
      generalize hw1 : w.alloc (.cells #[.int .i64 4, .int .i64 0, .string ⟨#[]⟩, .int .i64 (x3 : Int)] 65) = w1 at *
      have hc3 : w1.cell? ⟨w.heap.size, 3, none⟩ = some (.int .i64 (x3 : Int)) := by rw [← hw1]; simp
      have hsz1 : w.heap.size < w1.heap.size := by rw [← hw1]; simp
      clear hw1 hin c0 c1 c2 c3
      go_loopw [11, 12, 13] (fun mv ev kv wr => ∃ j c D : Nat, mv = .int .i64 ((d + 1 + D : Nat) : Int) ∧ ev = .int .i64 ((k + 1 + c : Nat) : Int) ∧ kv = .int .i64 (j : Int) ∧ j ≤ x3 ∧ Hid (M12.nOf (M12.vl r) j (xs.drop (k + 1)) = some (c, D)) ∧ c ≤ xs.length ∧ k + 1 + c ≤ xs.length ∧ D ≤ 5 ∧ Below w1.heap.size w1 wr) (fun _ _ kv _ => (x3 - intOf kv).toNat)
      case atStart => exact ⟨0, 0, 0, by go_num, by go_num, rfl, by omega, show Hid _ from rfl, by omega, by omega, by omega, Below.refl _ _⟩
      case round =>
        obtain ⟨j, c, D, rfl, rfl, rfl, hj, hN, hcx, hkc, hD5, hb⟩ := hrel
        have hcc : wr.cell? ⟨w.heap.size, 3, none⟩ = some (.int .i64 (x3 : Int)) := (hb.cell hsz1).trans hc3
        by_cases hjl : j < x3
        · have CC : Hid _ := IH.out (some ⟨b, off, none⟩) cap xs (k + 1 + c) (d + 1) wr hl (by omega) hkc hts (hin1.below hb)
          have hdd : (xs.drop (k + 1)).drop c = xs.drop (k + 1 + c) := by rw [List.drop_drop]
          have HN1 : Hid _ := fun h => M12.nOf_stop hN.out (by rw [hdd]; exact h) hjl
          have HN2 : Hid _ := fun c' d' h => M12.nOf_next (c' := c') (d' := d') hN.out (by rw [hdd]; exact h)
          have HL : Hid _ := fun c' d' => M12.vl_len r (xs.drop (k + 1 + c)) c' d'
          have HD : Hid _ := fun c' d' => M12.vl_dep r (xs.drop (k + 1 + c)) c' d'
          have hlen : (xs.drop (k + 1 + c)).length = xs.length - (k + 1 + c) := List.length_drop
          have HLn : Hid _ := hlen
          clear hN hin1 hdd hlen
          generalize hO : M12.vl r (xs.drop (k + 1 + c)) = O at *
          clear hO
          go_wp2_with fail
          refine Calls.mono CC.out ?_
          rintro e w2 ⟨he, hb2⟩
          have hBw := hb.trans (hb2.mono hb.size)
          clear CC hb2 hb hcc
          cases O with
          | none =>
            obtain ⟨p, q, rfl⟩ := res_none he rfl
            have HR : Hid _ := M12.vl_list_no HLS.out (by simpa using HN1.out rfl)
            have hBB : Below w.heap.size w w2 := hB.trans (hBw.mono (by omega))
            clear HN1 HN2 HL HD IH
            go_wp2
            exact bodyPost_ret (v := .tuple #[.int .i64 (0), .int .i64 (0), .bool false]) (by simp [results, Tryd.results85, go_sem]) rfl ⟨M12.res_no HR.out _ _, hBB⟩
          | some q =>
            obtain ⟨c', D'⟩ := q
            obtain rfl := res_some he rfl
            have hNN : Hid _ := HN2.out c' D' rfl
            have hl1 := HL.out c' D' rfl
            have hd1 := HD.out c' D' rfl
            rw [HLn.out] at hl1
            clear HN1 HN2 HL HD he IH HLn
            have hcc2 : w2.cell? ⟨w.heap.size, 3, none⟩ = some (.int .i64 (x3 : Int)) := (hBw.cell hsz1).trans hc3
            by_cases hDD : D < D'
            · have hmx : max D D' = D' := by omega
              rw [hmx] at hNN
              go_wp2
              go_roundw
              case rel => exact ⟨j + 1, c + c', D', by go_num, by go_num, by go_num, by omega, hNN, by omega, by omega, by omega, hBw⟩
              case measure => simp [intOf]; omega
            · have hmx : max D D' = D := by omega
              rw [hmx] at hNN
              go_wp2
              go_roundw
              case rel => exact ⟨j + 1, c + c', D, by go_num, by go_num, by go_num, by omega, hNN, by omega, by omega, by omega, hBw⟩
              case measure => simp [intOf]; omega
        · obtain rfl : j = x3 := by omega
          have HR : Hid _ := M12.vl_list_yes HLS.out (c := c) (d := D) (by simpa using hN.out)
          have hBB : Below w.heap.size w wr := hB.trans (hb.mono (by omega))
          clear hN IH hin1
          go_wp2
          exact bodyPost_ret (v := .tuple #[.int .i64 (((k + 1 + c : Nat) : Int)), .int .i64 (((d + 1 + D : Nat) : Int)), .bool true]) (by simp [results, Tryd.results85, go_sem]) rfl ⟨M12.res_yes HR.out (by omega) (by omega), hBB⟩
  · have hlf2 : M12.lst ⟨4, x1, x2, x3⟩ = false := by
      rw [hls]
      by_cases e1 : x1 = 0
      · by_cases e2 : x2 = ⟨#[]⟩
        · have e3 : ¬ 0 ≤ x3 := fun h => hok ⟨e1, e2, h⟩
          simp [e3]
        · simp [e2]
      · simp [e1]
    have HR : Hid _ := M12.vl_bad (l := xs.drop (k + 1)) r hlf hlf2
    clear hlf hls hlf2 ih hin hts
    by_cases e1 : x1 = 0
    · subst e1
      by_cases e2 : x2 = ⟨#[]⟩
      · subst e2
        have e3 : x3 < 0 := by
          by_cases h : 0 ≤ x3
          · exact absurd ⟨rfl, rfl, h⟩ hok
          · omega
        clear hok
        go_enter Tryd.func85, Tryd.ntmps85
        go_wp2
        exact bodyPost_ret (v := .tuple #[.int .i64 (0), .int .i64 (0), .bool false]) (by simp [results, Tryd.results85, go_sem]) rfl ⟨M12.res_no HR.out _ _, hB⟩
      · have e2a : (x2.toList == (⟨#[]⟩ : ByteArray).toList) = false := M8.beq_no e2
        have e2b : (x2.toList == []) = false := M8.nil_no e2
        clear hok e2
        go_enter Tryd.func85, Tryd.ntmps85
        go_wp2
        exact bodyPost_ret (v := .tuple #[.int .i64 (0), .int .i64 (0), .bool false]) (by simp [results, Tryd.results85, go_sem]) rfl ⟨M12.res_no HR.out _ _, hB⟩
    · have e1a : (x1 == 0) = false := by simp [e1]
      clear hok
      go_enter Tryd.func85, Tryd.ntmps85
      go_wp2
      exact bodyPost_ret (v := .tuple #[.int .i64 (0), .int .i64 (0), .bool false]) (by simp [results, Tryd.results85, go_sem]) rfl ⟨M12.res_no HR.out _ _, hB⟩
set_option maxHeartbeats 800000 in
set_option maxRecDepth 100000 in
theorem l2Value_step (r : Nat) (ih : Hid (∀ r', r = r' + 1 → L2V r')) : L2V r := by
  intro a cap xs k d w hl hd hk hts hin
  by_cases hkl : k < xs.length
  · have hdr := M12.drop_cons hkl
    by_cases h4 : (M11.at_ xs k).kind = 4
    · exact l2Value_list r ih a cap xs k d w hl hd hkl hts hin h4
    · have hy : Hid (M12.leaf (M11.at_ xs k) = true → M12.vl r (xs.drop k) = some (1, 0)) := fun h => by rw [hdr]; exact M12.vl_leaf r h
      have hn : Hid (M12.leaf (M11.at_ xs k) = false → M12.vl r (xs.drop k) = none) := fun h => by rw [hdr]; exact M12.vl_bad r h (M12.lst0 h4)
      by_cases h1 : (M11.at_ xs k).kind = 1
      · exact l2Value_num a cap xs k d w hl (by omega) hkl hin h1 _ hy hn
      · by_cases h2 : (M11.at_ xs k).kind = 2
        · exact l2Value_k2 a cap xs k d w hl (by omega) hkl (hts.out k hkl).1 hin h2 _ hy hn
        · by_cases h3 : (M11.at_ xs k).kind = 3
          · exact l2Value_k3 a cap xs k d w hl (by omega) hkl (hts.out k hkl).1 hin h3 _ hy hn
          · have HR : Hid _ := hn.out (M12.leaf0 h1 h2 h3)
            obtain ⟨b, off, rfl, hlt, c0, c1, c2, c3⟩ := hin.at hkl
            clear hy hn hdr hin hts ih
            generalize M11.at_ xs k = x at *
            obtain ⟨x0, x1, x2, x3⟩ := x
            simp only at h1 h2 h3 h4 c0 c1 c2 c3
            have e1 : (x0 == 1) = false := by simp [h1]
            have e2 : (x0 == 2) = false := by simp [h2]
            have e3 : (x0 == 3) = false := by simp [h3]
            have e4 : (x0 == 4) = false := by simp [h4]
            clear h1 h2 h3 h4
            go_enter Tryd.func85, Tryd.ntmps85
            go_wp2
            exact bodyPost_ret (v := .tuple #[.int .i64 (0), .int .i64 (0), .bool false]) (by simp [results, Tryd.results85, go_sem]) rfl ⟨M12.res_no HR.out _ _, (Below.refl _ w).alloc (Nat.le_refl _) _⟩
  · obtain rfl : k = xs.length := by omega
    have HR : Hid (M12.vl r (xs.drop xs.length) = none) := by show _ = _; rw [List.drop_length]; exact M12.vl_nil r
    clear hin hts ih
    go_enter Tryd.func85, Tryd.ntmps85
    go_wp2
    exact bodyPost_ret (v := .tuple #[.int .i64 (0), .int .i64 (0), .bool false]) (by simp [results, Tryd.results85, go_sem]) rfl ⟨M12.res_no HR.out _ _, Below.refl _ _⟩
theorem l2Value_any (r : Nat) : L2V r := by
  induction r with
  | zero => exact l2Value_step 0 (fun r' h => by omega)
  | succ r ih => exact l2Value_step (r + 1) (fun r' h => by obtain rfl : r' = r := by omega
                                                            exact ih)
end Go.Proofs.YtcpfbgogfhlmjaaDoor

/- The specification's GoodItems. -/
namespace Go.Proofs.YtcpfbgogfhlmjaaDoor
open Go.RowKit
theorem l2Value_all (a : Option Addr) (cap : Nat) (xs : List It) (w : World) (hl : xs.length ≤ 1048576) (hwf : Hid (M11.Wf xs)) (hin : M11.ItemsAt w a xs) :
    Calls Tryd.prog 85 #[.slice a xs.length cap, .int .i64 0, .int .i64 0] w fun e w' => M12.res 0 0 (M12.vl 5 xs) e ∧ Below w.heap.size w w' := by
  have h := l2Value_any 5 a cap xs 0 0 w hl rfl (by omega) hwf hin
  rw [List.drop_zero] at h
  exact h
set_option maxHeartbeats 800000 in
set_option maxRecDepth 100000 in
theorem l2Good_any (a : Option Addr) (cap : Nat) (xs : List It) (w : World) (hl : xs.length ≤ 1048576) (hwf : Hid (M11.Wf xs)) (hin : M11.ItemsAt w a xs) :
    Calls Tryd.prog 76 #[.slice a xs.length cap] w fun e w' => e = .returned (.bool (M12.one xs)) ∧ Below w.heap.size w w' := by
  have LV : Hid _ := l2Value_all a cap xs w hl hwf hin
  have H1 : Hid (M12.vl 5 xs = none → M12.one xs = false) := fun h => by simp [M12.one, h]
  have H2 : Hid (∀ c d, M12.vl 5 xs = some (c, d) → M12.one xs = (decide (xs.length ≤ 40) && decide (c = xs.length))) := fun c d h => by simp [M12.one, h]
  have H3 : Hid (∀ c d, M12.vl 5 xs = some (c, d) → c ≤ xs.length) := fun c d h => (M12.vl_len 5 xs c d h).2
  clear hin hwf
  generalize M12.vl 5 xs = O at *
  generalize M12.one xs = R at *
  go_enter Tryd.func76, Tryd.ntmps76
  go_wp2_with fail
  refine Calls.mono LV.out ?_
  rintro e w1 ⟨he, hb⟩
  clear LV
  cases O with
  | none =>
    obtain ⟨p, q, rfl⟩ := res_none he rfl
    obtain rfl := H1.out rfl
    clear H1 H2 H3
    go_wp2
    go_ret
    exact ⟨rfl, hb⟩
  | some q =>
    obtain ⟨c, d⟩ := q
    obtain rfl := res_some he rfl
    have hc := H3.out c d rfl
    have hR : Hid _ := H2.out c d rfl
    clear H1 H2 H3 he
    by_cases h1 : c = xs.length
    · subst h1
      by_cases h2 : xs.length ≤ 40
      · have hR2 : Hid (true = R) := by rw [hR.out]; show _ = _; simp [h2]
        clear hR
        go_wp2
        go_ret
        exact ⟨M4.ret_bool ((show decide ((xs.length : Int) ≤ 40) = true by simp; omega).trans hR2.out), hb⟩
      · have hR2 : Hid (false = R) := by rw [hR.out]; show _ = _; simp [h2]
        clear hR
        go_wp2
        go_ret
        exact ⟨M4.ret_bool ((show decide ((xs.length : Int) ≤ 40) = false by simp; omega).trans hR2.out), hb⟩
    · have hR2 : Hid (false = R) := by rw [hR.out]; show _ = _; simp [h1]
      have h1b : ((c : Int) == (xs.length : Int)) = false := by simp; omega
      clear hR h1
      go_wp2
      go_ret
      exact ⟨M4.ret_bool hR2.out, hb⟩
set_option maxHeartbeats 800000 in
set_option maxRecDepth 100000 in
theorem specGood_any (a : Option Addr) (cap : Nat) (xs : List It) (w : World) (hl : xs.length ≤ 1048576) (hwf : Hid (M11.Wf xs)) (hin : M11.ItemsAt w a xs) :
    Calls Tryd.prog 63 #[.slice a xs.length cap] w fun e w' => e = .returned (.bool (M12.good xs)) ∧ Below w.heap.size w w' := by
  have LG : Hid _ := l2Good_any a cap xs w hl hwf hin
  cases h1 : M12.one xs
  · have hR : Hid (false = M12.good xs) := by show _ = _; simp [M12.good, h1]
    rw [h1] at LG
    clear h1 hin hwf
    go_enter Tryd.func63, Tryd.ntmps63
    go_wp2_with fail
    refine Calls.mono LG.out ?_
    rintro e w1 ⟨rfl, hb⟩
    clear LG
    go_wp2
    go_ret
    exact ⟨M4.ret_bool hR.out, hb⟩
  · have h40 := (M13.one_some h1).1
    have hf : Hid _ := M13.one_fine h1
    have hR : Hid (decide ((M12.bytes xs).length ≤ 400) = M12.good xs) := by show _ = _; simp [M12.good, h1]
    have LB : Hid _ := fun W h => l2Bytes_any a cap xs W h40 hf h
    have hbl : (M12.bytes xs).length ≤ 2600 := M13.bytes_len h40 hf.out
    rw [h1] at LG
    clear h1 hwf hf
    generalize M12.bytes xs = L at *
    generalize M12.good xs = R at *
    go_enter Tryd.func63, Tryd.ntmps63
    go_wp2_with fail
    refine Calls.mono LG.out ?_
    rintro e w1 ⟨rfl, hb⟩
    go_wp2_with fail
    refine Calls.mono (LB.out _ (hin.below hb)) ?_
    rintro e w2 ⟨rfl, hb2⟩
    have hB := hb.trans (hb2.mono hb.size)
    clear LG LB hb hb2 hin
    by_cases h4 : L.length ≤ 400
    · have hR2 : Hid (true = R) := by rw [← hR.out]; show _ = _; simp [h4]
      clear hR
      go_wp2
      go_ret
      exact ⟨M4.ret_bool ((show decide ((L.length : Int) ≤ 400) = true by simp; omega).trans hR2.out), hB⟩
    · have hR2 : Hid (false = R) := by rw [← hR.out]; show _ = _; simp [h4]
      clear hR
      go_wp2
      go_ret
      exact ⟨M4.ret_bool ((show decide ((L.length : Int) ≤ 400) = false by simp; omega).trans hR2.out), hB⟩
end Go.Proofs.YtcpfbgogfhlmjaaDoor

/- The specification's l2TakeHead at a place within a text of at most 400 bytes. -/
namespace Go.Proofs.YtcpfbgogfhlmjaaDoor
open Go.RowKit
theorem bytes_belowS (w : World) (e : TypeId) (s : ByteArray) : Below w.heap.size w (Lib.bytesWorld w e s) :=
  ⟨rfl, rfl, rfl, by rw [Lib.bytesWorld_size]; omega, fun k hk => Lib.bytesWorld_at_old w e s k hk⟩
theorem ext_cell (w : World) (s : ByteArray) (a k j : Nat) (h : a + 1 + k ≤ s.size) (hj : j < k) : (Lib.bytesWorld w 5 (s.extract (a + 1) (a + 1 + k))).cell? ⟨w.heap.size, j, none⟩ = some (.int .u8 (M3.gb s (a + 1 + j))) := by
  have hsz : (s.extract (a + 1) (a + 1 + k)).size = k := by simp; omega
  rw [Lib.bytesWorld_cell w 5 _ j (by rw [hsz]; exact hj)]
  have e := M10.ext_bl s (a + 1) (a + 1 + k)
  unfold M8.bl at e
  rw [e, List.getD_eq_getElem?_getD, List.getElem?_take, if_pos (by omega), List.getElem?_drop, ← List.head?_drop]
  have e2 := M10.bl_at s (a + 1 + j) (by omega)
  unfold M8.bl at e2
  rw [e2]
  simp only [List.head?_cons, Option.getD_some, M10.gb_u8]
set_option linter.unusedSimpArgs false in
set_option maxHeartbeats 1600000 in
set_option maxRecDepth 100000 in
theorem l2TakeHead_high (s : ByteArray) (a : Nat) (w : World) (_ : s.size ≤ 400) (ha : a < s.size) (T : M10.R) (hT : Hid (M10.hdR s a = T)) (h2 : 26 < M3.gb s a % 32) :
    Calls Tryd.prog 62 #[.string s, .int .i64 (a : Int)] w fun e w' => e = .returned (M10.t4 T) ∧ Below w.heap.size w w' := by
  have hna : decide (s.size ≤ a) = false := by simp; omega
  have hga := M3.gb_eq s a ha
  have hlt := M3.gb_lt s a
  have HR : Hid _ := hT.out.symm.trans (M10.hdR_high ha h2)
  generalize M3.gb s a = c at *
  clear hT
  have d1 : (((c : Int) % 32) == 24) = false := by simp; omega
  have d2 : (((c : Int) % 32) == 25) = false := by simp; omega
  have d3 : (((c : Int) % 32) == 26) = false := by simp; omega
  go_enter Tryd.func62, Tryd.ntmps62
  go_wp2
  exact bodyPost_ret (v := .tuple #[.int .i64 (0), .int .i64 (0), .int .i64 (0), .bool false]) (by simp [results, Tryd.results62, go_sem]) rfl ⟨M10.ret4 HR.out (by omega) (by omega) (by omega), Below.refl _ _⟩
set_option linter.unusedSimpArgs false in
set_option maxHeartbeats 1600000 in
set_option maxRecDepth 100000 in
theorem l2TakeHead_low (s : ByteArray) (a : Nat) (w : World) (h400 : s.size ≤ 400) (ha : a < s.size) (T : M10.R) (hT : Hid (M10.hdR s a = T)) (h1 : M3.gb s a % 32 < 24) :
    Calls Tryd.prog 62 #[.string s, .int .i64 (a : Int)] w fun e w' => e = .returned (M10.t4 T) ∧ Below w.heap.size w w' := by
  have hna : decide (s.size ≤ a) = false := by simp; omega
  have hga := M3.gb_eq s a ha
  have hlt := M3.gb_lt s a
  have HR : Hid _ := hT.out.symm.trans (M10.hdR_low ha h1)
  have HE := M10.low_ext ha h1
  generalize M3.gb s a = c at *
  clear hT
  have d1 : (((c : Int) % 32) == 24) = false := by simp; omega
  have d2 : (((c : Int) % 32) == 25) = false := by simp; omega
  have d3 : (((c : Int) % 32) == 26) = false := by simp; omega
  have hc7 : c / 32 ≤ 7 := by omega
  obtain ⟨X, hX⟩ : ∃ X : ByteArray, hs (c / 32) (c % 32) = X := ⟨_, rfl⟩
  have hq5 : (X.toList == (s.extract a (a + 1)).toList) = true := M8.beq_yes (by rw [← hX]; exact HE)
  obtain ⟨bq, hbq⟩ : ∃ bq, bq = true := ⟨_, rfl⟩
  rw [← hbq] at hq5
  have HX : Hid (X = hs (c / 32) (c % 32)) := hX.symm
  have HBQ : Hid (bq = true) := hbq
  clear hX HE hbq
  have hm : ((c : Int) % 32) = ((c % 32 : Nat) : Int) := by omega
  have IN : Hid (∀ W : World, Calls Tryd.prog 75 #[.int .i64 ((c : Int) % 32)] W fun e w' => e = .returned (.bool true) ∧ W = w') := fun W => by
    have := l1Value_any ((c : Int) % 32) W
    rwa [show okN ((c : Int) % 32) = true from by simp [okN]; omega] at this
  have hx : (c : Int) / 32 = ((c / 32 : Nat) : Int) := by omega
  have AH : Hid (∀ W : World, Calls Tryd.prog 70 #[.int .i64 ((c : Int) / 32), .int .i64 ((c : Int) % 32)] W fun e w' => e = .returned (.string X) ∧ Below W.heap.size W w') := fun W => by
    rw [hx, hm, HX.out]; exact l2Head_any (c / 32) (c % 32) W hc7 (by omega)
  clear hx
  have hw1 : IntKind.i64.wrap ((a : Int) + 1) = (a : Int) + 1 := by rw [IntKind.wrap_i64]; omega
  have hw2 : IntKind.i64.wrap ((a : Int) + 1) = (a : Int) + 1 := by rw [IntKind.wrap_i64]; omega
  have hto : ((a : Int) + 1).toNat = a + 1 := by omega
  have hsl : (0 : Int) ≤ a ∧ (a : Int) ≤ (a : Int) + 1 ∧ (0 : Int) ≤ (a : Int) + 1 ∧ (a : Int) + 1 ≤ s.size := by omega
  clear hm
  go_enter Tryd.func62, Tryd.ntmps62
  go_wp2
  refine MR.frame fun A hA => ?_
  have hsz : A.tmps.size = 89 := by rw [hA]; rfl
  have e0 : A.eval (.tmp 0) = .string s := by rw [hA]; rfl
  have f0 := MR.read (t := 0) (by rw [hsz]; decide) e0
  have e1 : A.eval (.tmp 1) = .int .i64 (a : Int) := by rw [hA]; rfl
  have f1 := MR.read (t := 1) (by rw [hsz]; decide) e1
  have e8 : A.eval (.tmp 8) = .int .i64 ((c : Int) / 32) := by rw [hA]; rfl
  have f8 := MR.read (t := 8) (by rw [hsz]; decide) e8
  have e9 : A.eval (.tmp 9) = .int .i64 ((c : Int) % 32) := by rw [hA]; rfl
  have f9 := MR.read (t := 9) (by rw [hsz]; decide) e9
  have e10 : A.eval (.tmp 10) = .int .i64 0 := by rw [hA]; rfl
  have f10 := MR.read (t := 10) (by rw [hsz]; decide) e10
  have HA : Hid (A = _) := hA
  clear hA
  refine wp_region_any (by kernel_rfl) ?_
  change wpAny _ _ _ _ _ _ _ (World.drew _)
  refine MR.take (i := 0) (some 67) (.int .i64 ((c : Int) % 32)) rfl rfl (by kernel_rfl) (by kernel_rfl) (by kernel_rfl) (fun _ _ _ h => h) (MR.free rfl) (fun w => by simp [execOp, MR.ev, MR.size, hsz, e0, f0, e1, f1, e8, f8, e9, f9, e10, f10, go_sem]) ?_
  refine MR.call (i := 1) (some 68) (75) (#[.int .i64 ((c : Int) % 32)]) (by kernel_rfl) rfl rfl (MR.free rfl) (by simp [execOp, MR.ev, MR.size, hsz, e0, f0, e1, f1, e8, f8, e9, f9, e10, f10, go_sem]) ?_
  refine (IN.out _).mono ?_
  rintro e w' ⟨rfl, rfl⟩
  refine ⟨_, rfl, ?_⟩
  refine MR.take (i := 2) (some 69) (.bool false) rfl rfl (by kernel_rfl) (by kernel_rfl) (by kernel_rfl) (fun _ _ _ h => h) (MR.free rfl) (fun w => by simp [execOp, MR.ev, MR.size, hsz, e0, f0, e1, f1, e8, f8, e9, f9, e10, f10, go_sem]) ?_
  refine MR.take (i := 3) (some 70) (.bool false) rfl rfl (by kernel_rfl) (by kernel_rfl) (by kernel_rfl) (fun _ _ _ h => h) (MR.free rfl) (fun w => by simp [execOp, MR.ev, MR.size, hsz, e0, f0, e1, f1, e8, f8, e9, f9, e10, f10, go_sem]) ?_
  refine MR.take (i := 4) (some 71) (.int .i64 ((c : Int) / 32)) rfl rfl (by kernel_rfl) (by kernel_rfl) (by kernel_rfl) (fun _ _ _ h => h) (MR.want (d := 70) rfl rfl (by simp [MR.size, hsz]) (by simp [MR.ev, MR.size, hsz, e0, f0, e1, f1, e8, f8, e9, f9, e10, f10])) (fun w => by simp [execOp, MR.ev, MR.size, hsz, e0, f0, e1, f1, e8, f8, e9, f9, e10, f10, go_sem]) ?_
  refine MR.take (i := 5) (some 72) (.int .i64 ((c : Int) % 32)) rfl rfl (by kernel_rfl) (by kernel_rfl) (by kernel_rfl) (fun _ _ _ h => h) (MR.want (d := 70) rfl rfl (by simp [MR.size, hsz]) (by simp [MR.ev, MR.size, hsz, e0, f0, e1, f1, e8, f8, e9, f9, e10, f10])) (fun w => by simp [execOp, MR.ev, MR.size, hsz, e0, f0, e1, f1, e8, f8, e9, f9, e10, f10, go_sem]) ?_
  refine MR.take (i := 7) (some 74) (.string s) rfl rfl (by kernel_rfl) (by kernel_rfl) (by kernel_rfl) (fun _ _ _ h => h) (MR.want (d := 70) rfl rfl (by simp [MR.size, hsz]) (by simp [MR.ev, MR.size, hsz, e0, f0, e1, f1, e8, f8, e9, f9, e10, f10])) (fun w => by simp [execOp, MR.ev, MR.size, hsz, e0, f0, e1, f1, e8, f8, e9, f9, e10, f10, go_sem]) ?_
  refine MR.take (i := 8) (some 75) (.int .i64 (a : Int)) rfl rfl (by kernel_rfl) (by kernel_rfl) (by kernel_rfl) (fun _ _ _ h => h) (MR.want (d := 70) rfl rfl (by simp [MR.size, hsz]) (by simp [MR.ev, MR.size, hsz, e0, f0, e1, f1, e8, f8, e9, f9, e10, f10])) (fun w => by simp [execOp, MR.ev, MR.size, hsz, e0, f0, e1, f1, e8, f8, e9, f9, e10, f10, go_sem]) ?_
  refine MR.take (i := 9) (some 76) (.int .i64 (a : Int)) rfl rfl (by kernel_rfl) (by kernel_rfl) (by kernel_rfl) (fun _ _ _ h => h) (MR.want (d := 70) rfl rfl (by simp [MR.size, hsz]) (by simp [MR.ev, MR.size, hsz, e0, f0, e1, f1, e8, f8, e9, f9, e10, f10])) (fun w => by simp [execOp, MR.ev, MR.size, hsz, e0, f0, e1, f1, e8, f8, e9, f9, e10, f10, go_sem]) ?_
  refine MR.take (i := 10) (some 77) (.int .i64 ((a : Int) + 1)) rfl rfl (by kernel_rfl) (by kernel_rfl) (by kernel_rfl) (fun _ _ _ h => h) (MR.want (d := 70) rfl rfl (by simp [MR.size, hsz]) (by simp [MR.ev, MR.size, hsz, e0, f0, e1, f1, e8, f8, e9, f9, e10, f10])) (fun w => by simp [execOp, MR.ev, MR.size, hsz, e0, f0, e1, f1, e8, f8, e9, f9, e10, f10, hw1, go_sem]) ?_
  refine MR.take (i := 11) (some 78) (.int .i64 0) rfl rfl (by kernel_rfl) (by kernel_rfl) (by kernel_rfl) (fun _ _ _ h => h) (MR.want (d := 70) rfl rfl (by simp [MR.size, hsz]) (by simp [MR.ev, MR.size, hsz, e0, f0, e1, f1, e8, f8, e9, f9, e10, f10])) (fun w => by simp [execOp, MR.ev, MR.size, hsz, e0, f0, e1, f1, e8, f8, e9, f9, e10, f10, go_sem]) ?_
  refine MR.take (i := 12) (some 79) (.int .i64 ((a : Int) + 1)) rfl rfl (by kernel_rfl) (by kernel_rfl) (by kernel_rfl) (fun _ _ _ h => h) (MR.want (d := 70) rfl rfl (by simp [MR.size, hsz]) (by simp [MR.ev, MR.size, hsz, e0, f0, e1, f1, e8, f8, e9, f9, e10, f10])) (fun w => by simp [execOp, MR.ev, MR.size, hsz, e0, f0, e1, f1, e8, f8, e9, f9, e10, f10, hw2, go_sem]) ?_
  refine MR.take (i := 13) (some 80) (.string (s.extract a (a + 1))) rfl rfl (by kernel_rfl) (by kernel_rfl) (by kernel_rfl) (fun _ _ _ h => h) (MR.want (d := 70) rfl rfl (by simp [MR.size, hsz]) (by simp [MR.ev, MR.size, hsz, e0, f0, e1, f1, e8, f8, e9, f9, e10, f10])) (fun w => by simp [execOp, MR.ev, MR.size, hsz, e0, f0, e1, f1, e8, f8, e9, f9, e10, f10, hsl, hto, go_sem]) ?_
  refine MR.call (i := 6) (some 73) (70) (#[.int .i64 ((c : Int) / 32), .int .i64 ((c : Int) % 32)]) (by kernel_rfl) rfl rfl (MR.want (d := 70) rfl rfl (by simp [MR.size, hsz]) (by simp [MR.ev, MR.size, hsz, e0, f0, e1, f1, e8, f8, e9, f9, e10, f10])) (by simp [execOp, MR.ev, MR.size, hsz, e0, f0, e1, f1, e8, f8, e9, f9, e10, f10, go_sem]) ?_
  refine (AH.out _).mono ?_
  rintro e w1 ⟨rfl, hb1⟩
  refine ⟨_, rfl, ?_⟩
  refine MR.take (i := 14) (some 81) (.bool (!bq)) rfl rfl (by kernel_rfl) (by kernel_rfl) (by kernel_rfl) (fun _ _ _ h => h) (MR.want (d := 70) rfl rfl (by simp [MR.size, hsz]) (by simp [MR.ev, MR.size, hsz, e0, f0, e1, f1, e8, f8, e9, f9, e10, f10])) (fun w => by simp [execOp, MR.ev, MR.size, hsz, e0, f0, e1, f1, e8, f8, e9, f9, e10, f10, hq5, go_sem]) ?_
  refine MR.take (i := 15) (some 82) (.bool (!bq)) rfl rfl (by kernel_rfl) (by kernel_rfl) (by kernel_rfl) (fun _ _ _ h => h) (MR.free rfl) (fun w => by simp [execOp, MR.ev, MR.size, hsz, e0, f0, e1, f1, e8, f8, e9, f9, e10, f10, go_sem]) ?_
  refine wpAny_done (by kernel_rfl) ?_ _
  have hB1 : Below w.heap.size w w1 := (Below.refl w.heap.size w).drew.trans (hb1.mono (by simp))
  clear hb1 AH IN
  rw [HA.out]
  clear HA f0 f1 f8 f9 f10 e0 e1 e8 e9 e10 hsz
  simp only [Act.put, List.setIfInBounds_toArray, List.set_cons_succ, List.set_cons_zero]
  have hbq := HBQ.out
  subst hbq
  clear hq5
  go_wp2
  exact bodyPost_ret (v := .tuple #[.int .i64 ((c : Int) / 32), .int .i64 ((c : Int) % 32), .int .i64 ((a : Int) + 1), .bool true]) (by simp [results, Tryd.results62, go_sem]) rfl ⟨M10.ret4 HR.out (by omega) (by omega) (by omega), hB1⟩
set_option linter.unusedSimpArgs false in
set_option maxHeartbeats 1600000 in
set_option maxRecDepth 100000 in
theorem l2TakeHead_one (s : ByteArray) (a : Nat) (w : World) (h400 : s.size ≤ 400) (ha : a < s.size) (T : M10.R) (hT : Hid (M10.hdR s a = T)) (hl0 : M3.gb s a % 32 = 24) :
    Calls Tryd.prog 62 #[.string s, .int .i64 (a : Int)] w fun e w' => e = .returned (M10.t4 T) ∧ Below w.heap.size w w' := by
  have hna : decide (s.size ≤ a) = false := by simp; omega
  have hga := M3.gb_eq s a ha
  have hlt := M3.gb_lt s a
  have hk : M7.more (M3.gb s a % 32) = 1 := by rw [hl0]; rfl
  have LL3 : Hid _ := fun h3 => hT.out.symm.trans (M10.hdR_short ha (by omega) (by omega) h3)
  have LL4 : Hid _ := fun h3 h4 h5 => hT.out.symm.trans (M10.hdR_yes (k := 1) ha (by omega) (by omega) hk h3 h4 h5)
  have LL5 : Hid _ := fun h3 h4 => hT.out.symm.trans (M10.hdR_not (k := 1) ha (by omega) (by omega) hk h3 h4)
  rw [hk] at LL3
  clear hk
  generalize M3.gb s a = c at *
  clear hT
  have hl : (c : Int) % 32 = 24 := by omega
  clear hl0
  by_cases h3 : s.size < a + 1 + 1
  · have HR : Hid _ := LL3.out h3
    clear LL3 LL4 LL5
    go_enter Tryd.func62, Tryd.ntmps62
    go_wp2
    exact bodyPost_ret (v := .tuple #[.int .i64 (0), .int .i64 (0), .int .i64 (0), .bool false]) (by simp [results, Tryd.results62, go_sem]) rfl ⟨M10.ret4 HR.out (by omega) (by omega) (by omega), Below.refl _ _⟩
  · have hle : a + 1 + 1 ≤ s.size := by omega
    have hd3 : decide ((s.size : Int) < (a : Int) + 1 + 1) = false := by simp; omega
    have hc7 : c / 32 ≤ 7 := by omega
    clear LL3
    have hsz : (s.extract (a + 1) (a + 1 + 1)).size = 1 := by simp; omega
    have c1 : ∀ W : World, (convert 9 22 (.string (s.extract (a + 1) (a + 1 + 1)))).run Tryd.prog W = .ok (.slice (some ⟨W.heap.size, 0, none⟩) 1 (grownCap W 1 0 5)) (Lib.bytesWorld W 5 (s.extract (a + 1) (a + 1 + 1))) := fun W => by
      have := Lib.run_convert_string_bytes (P := Tryd.prog) W 9 22 5 (s.extract (a + 1) (a + 1 + 1)) Tryd.underlying9 Tryd.underlying22 Tryd.underlying5
      rwa [hsz] at this
    have ht1 : ((a : Int) + 1).toNat = a + 1 := by omega
    have ht2 : ((a : Int) + 1 + 1).toNat = a + 1 + 1 := by omega
    have hcell := fun j => ext_cell w s a 1 j hle
    have hb0 := bytes_belowS w 5 (s.extract (a + 1) (a + 1 + 1))
    have hcl : Hid _ := hcell
    clear hsz hcell
    go_enter Tryd.func62, Tryd.ntmps62
    go_wp2
    generalize Lib.bytesWorld w 5 (s.extract (a + 1) (a + 1 + 1)) = w0 at *
    clear c1 ht1 ht2
    try simp only [hl]
    go_loop [9, 57] (fun nv iv => ∃ j q : Nat, nv = .int .i64 q ∧ iv = .int .i64 (j : Int) ∧ j ≤ 1 ∧ q < 4294967296 ∧ Hid (M10.nk s a j = q)) (fun _ iv => (1 - intOf iv).toNat)
    case atStart => exact ⟨0, 0, rfl, by go_num, by omega, by omega, M10.nk_zero s a⟩
    case round =>
      clear hga hlt
      obtain ⟨j, q, rfl, rfl, hj, hq, hQ⟩ := hrel
      by_cases hjk : j < 1
      · have hin : a + 1 + j < s.size := by omega
        have hcc := hcl.out j hjk
        have hlt := M3.gb_lt s (a + 1 + j)
        have hS : Hid (M10.nk s a (j + 1) = q * 256 + M3.gb s (a + 1 + j)) := by show _ = _; rw [M10.nk_succ s a j hin, hQ.out]
        have hbd : q * 256 + M3.gb s (a + 1 + j) < 4294967296 := by
          rw [← hS.out]
          exact Nat.lt_of_lt_of_le (M10.nk_lt s a (j + 1) (by omega)) (Nat.le_trans (Nat.pow_le_pow_right (by omega) (show j + 1 ≤ 4 by omega)) (by decide))
        generalize M3.gb s (a + 1 + j) = b at *
        have ho := M10.or8 q b (by omega) hlt
        go_wp2
        go_round
        case rel => exact ⟨j + 1, q * 256 + b, by go_num, by go_num, by omega, hbd, hS⟩
        case measure => simp [intOf]; omega
      · obtain rfl : j = 1 := by omega
        rw [hQ.out] at LL4 LL5
        clear hQ hcl
        by_cases h4 : q ≤ 1000000000
        · have IN : Hid (∀ W : World, Calls Tryd.prog 75 #[.int .i64 (q : Int)] W fun e w' => e = .returned (.bool true) ∧ W = w') := fun W => by
            have := l1Value_any q W
            rwa [show okN (q : Int) = true from by simp [okN]; omega] at this
          obtain ⟨X, hX⟩ : ∃ X : ByteArray, (⟨(M7.hb (c / 32) q).toArray⟩ : ByteArray) = X := ⟨_, rfl⟩
          rw [hX] at LL4 LL5
          obtain ⟨bq, hq5⟩ : ∃ bq, (X.toList == (s.extract a (a + 1 + 1)).toList) = bq := ⟨_, rfl⟩
          have HQ : Hid (X = s.extract a (a + 1 + 1) ↔ bq = true) := by
            by_cases hh : X = s.extract a (a + 1 + 1)
            · rw [M8.beq_yes hh] at hq5; exact ⟨fun _ => hq5.symm, fun _ => hh⟩
            · rw [M8.beq_no hh] at hq5; exact ⟨fun h => absurd h hh, fun h => by rw [← hq5] at h; cases h⟩
          have HX : Hid (X = hs (c / 32) q) := hX.symm
          clear hX
          have hx : (c : Int) / 32 = ((c / 32 : Nat) : Int) := by omega
          have AH : Hid (∀ W : World, Calls Tryd.prog 70 #[.int .i64 ((c : Int) / 32), .int .i64 (q : Int)] W fun e w' => e = .returned (.string X) ∧ Below W.heap.size W w') := fun W => by
            rw [hx, HX.out]; exact l2Head_any (c / 32) (q) W hc7 (by omega)
          clear hx
          have hw1 : IntKind.i64.wrap ((a : Int) + 1) = (a : Int) + 1 := by rw [IntKind.wrap_i64]; omega
          have hw2 : IntKind.i64.wrap ((a : Int) + 1 + 1) = (a : Int) + 1 + 1 := by rw [IntKind.wrap_i64]; omega
          have hto : ((a : Int) + 1 + 1).toNat = a + 1 + 1 := by omega
          have hsl : (0 : Int) ≤ a ∧ (a : Int) ≤ (a : Int) + 1 + 1 ∧ (0 : Int) ≤ (a : Int) + 1 + 1 ∧ (a : Int) + 1 + 1 ≤ s.size := by omega
          go_wp2
          refine MR.frame fun A hA => ?_
          have hsz : A.tmps.size = 89 := by rw [hA]; rfl
          have e0 : A.eval (.tmp 0) = .string s := by rw [hA]; rfl
          have f0 := MR.read (t := 0) (by rw [hsz]; decide) e0
          have e1 : A.eval (.tmp 1) = .int .i64 (a : Int) := by rw [hA]; rfl
          have f1 := MR.read (t := 1) (by rw [hsz]; decide) e1
          have e8 : A.eval (.tmp 8) = .int .i64 ((c : Int) / 32) := by rw [hA]; rfl
          have f8 := MR.read (t := 8) (by rw [hsz]; decide) e8
          have e9 : A.eval (.tmp 9) = .int .i64 (q : Int) := by rw [hA]; rfl
          have f9 := MR.read (t := 9) (by rw [hsz]; decide) e9
          have e10 : A.eval (.tmp 10) = .int .i64 1 := by rw [hA]; rfl
          have f10 := MR.read (t := 10) (by rw [hsz]; decide) e10
          have HA : Hid (A = _) := hA
          clear hA
          refine wp_region_any (by kernel_rfl) ?_
          change wpAny _ _ _ _ _ _ _ (World.drew _)
          refine MR.take (i := 0) (some 67) (.int .i64 (q : Int)) rfl rfl (by kernel_rfl) (by kernel_rfl) (by kernel_rfl) (fun _ _ _ h => h) (MR.free rfl) (fun w => by simp [execOp, MR.ev, MR.size, hsz, e0, f0, e1, f1, e8, f8, e9, f9, e10, f10, go_sem]) ?_
          refine MR.call (i := 1) (some 68) (75) (#[.int .i64 (q : Int)]) (by kernel_rfl) rfl rfl (MR.free rfl) (by simp [execOp, MR.ev, MR.size, hsz, e0, f0, e1, f1, e8, f8, e9, f9, e10, f10, go_sem]) ?_
          refine (IN.out _).mono ?_
          rintro e w' ⟨rfl, rfl⟩
          refine ⟨_, rfl, ?_⟩
          refine MR.take (i := 2) (some 69) (.bool false) rfl rfl (by kernel_rfl) (by kernel_rfl) (by kernel_rfl) (fun _ _ _ h => h) (MR.free rfl) (fun w => by simp [execOp, MR.ev, MR.size, hsz, e0, f0, e1, f1, e8, f8, e9, f9, e10, f10, go_sem]) ?_
          refine MR.take (i := 3) (some 70) (.bool false) rfl rfl (by kernel_rfl) (by kernel_rfl) (by kernel_rfl) (fun _ _ _ h => h) (MR.free rfl) (fun w => by simp [execOp, MR.ev, MR.size, hsz, e0, f0, e1, f1, e8, f8, e9, f9, e10, f10, go_sem]) ?_
          refine MR.take (i := 4) (some 71) (.int .i64 ((c : Int) / 32)) rfl rfl (by kernel_rfl) (by kernel_rfl) (by kernel_rfl) (fun _ _ _ h => h) (MR.want (d := 70) rfl rfl (by simp [MR.size, hsz]) (by simp [MR.ev, MR.size, hsz, e0, f0, e1, f1, e8, f8, e9, f9, e10, f10])) (fun w => by simp [execOp, MR.ev, MR.size, hsz, e0, f0, e1, f1, e8, f8, e9, f9, e10, f10, go_sem]) ?_
          refine MR.take (i := 5) (some 72) (.int .i64 (q : Int)) rfl rfl (by kernel_rfl) (by kernel_rfl) (by kernel_rfl) (fun _ _ _ h => h) (MR.want (d := 70) rfl rfl (by simp [MR.size, hsz]) (by simp [MR.ev, MR.size, hsz, e0, f0, e1, f1, e8, f8, e9, f9, e10, f10])) (fun w => by simp [execOp, MR.ev, MR.size, hsz, e0, f0, e1, f1, e8, f8, e9, f9, e10, f10, go_sem]) ?_
          refine MR.take (i := 7) (some 74) (.string s) rfl rfl (by kernel_rfl) (by kernel_rfl) (by kernel_rfl) (fun _ _ _ h => h) (MR.want (d := 70) rfl rfl (by simp [MR.size, hsz]) (by simp [MR.ev, MR.size, hsz, e0, f0, e1, f1, e8, f8, e9, f9, e10, f10])) (fun w => by simp [execOp, MR.ev, MR.size, hsz, e0, f0, e1, f1, e8, f8, e9, f9, e10, f10, go_sem]) ?_
          refine MR.take (i := 8) (some 75) (.int .i64 (a : Int)) rfl rfl (by kernel_rfl) (by kernel_rfl) (by kernel_rfl) (fun _ _ _ h => h) (MR.want (d := 70) rfl rfl (by simp [MR.size, hsz]) (by simp [MR.ev, MR.size, hsz, e0, f0, e1, f1, e8, f8, e9, f9, e10, f10])) (fun w => by simp [execOp, MR.ev, MR.size, hsz, e0, f0, e1, f1, e8, f8, e9, f9, e10, f10, go_sem]) ?_
          refine MR.take (i := 9) (some 76) (.int .i64 (a : Int)) rfl rfl (by kernel_rfl) (by kernel_rfl) (by kernel_rfl) (fun _ _ _ h => h) (MR.want (d := 70) rfl rfl (by simp [MR.size, hsz]) (by simp [MR.ev, MR.size, hsz, e0, f0, e1, f1, e8, f8, e9, f9, e10, f10])) (fun w => by simp [execOp, MR.ev, MR.size, hsz, e0, f0, e1, f1, e8, f8, e9, f9, e10, f10, go_sem]) ?_
          refine MR.take (i := 10) (some 77) (.int .i64 ((a : Int) + 1)) rfl rfl (by kernel_rfl) (by kernel_rfl) (by kernel_rfl) (fun _ _ _ h => h) (MR.want (d := 70) rfl rfl (by simp [MR.size, hsz]) (by simp [MR.ev, MR.size, hsz, e0, f0, e1, f1, e8, f8, e9, f9, e10, f10])) (fun w => by simp [execOp, MR.ev, MR.size, hsz, e0, f0, e1, f1, e8, f8, e9, f9, e10, f10, hw1, go_sem]) ?_
          refine MR.take (i := 11) (some 78) (.int .i64 1) rfl rfl (by kernel_rfl) (by kernel_rfl) (by kernel_rfl) (fun _ _ _ h => h) (MR.want (d := 70) rfl rfl (by simp [MR.size, hsz]) (by simp [MR.ev, MR.size, hsz, e0, f0, e1, f1, e8, f8, e9, f9, e10, f10])) (fun w => by simp [execOp, MR.ev, MR.size, hsz, e0, f0, e1, f1, e8, f8, e9, f9, e10, f10, go_sem]) ?_
          refine MR.take (i := 12) (some 79) (.int .i64 ((a : Int) + 1 + 1)) rfl rfl (by kernel_rfl) (by kernel_rfl) (by kernel_rfl) (fun _ _ _ h => h) (MR.want (d := 70) rfl rfl (by simp [MR.size, hsz]) (by simp [MR.ev, MR.size, hsz, e0, f0, e1, f1, e8, f8, e9, f9, e10, f10])) (fun w => by simp [execOp, MR.ev, MR.size, hsz, e0, f0, e1, f1, e8, f8, e9, f9, e10, f10, hw2, go_sem]) ?_
          refine MR.take (i := 13) (some 80) (.string (s.extract a (a + 1 + 1))) rfl rfl (by kernel_rfl) (by kernel_rfl) (by kernel_rfl) (fun _ _ _ h => h) (MR.want (d := 70) rfl rfl (by simp [MR.size, hsz]) (by simp [MR.ev, MR.size, hsz, e0, f0, e1, f1, e8, f8, e9, f9, e10, f10])) (fun w => by simp [execOp, MR.ev, MR.size, hsz, e0, f0, e1, f1, e8, f8, e9, f9, e10, f10, hsl, hto, go_sem]) ?_
          refine MR.call (i := 6) (some 73) (70) (#[.int .i64 ((c : Int) / 32), .int .i64 (q : Int)]) (by kernel_rfl) rfl rfl (MR.want (d := 70) rfl rfl (by simp [MR.size, hsz]) (by simp [MR.ev, MR.size, hsz, e0, f0, e1, f1, e8, f8, e9, f9, e10, f10])) (by simp [execOp, MR.ev, MR.size, hsz, e0, f0, e1, f1, e8, f8, e9, f9, e10, f10, go_sem]) ?_
          refine (AH.out _).mono ?_
          rintro e w1 ⟨rfl, hb1⟩
          refine ⟨_, rfl, ?_⟩
          refine MR.take (i := 14) (some 81) (.bool (!bq)) rfl rfl (by kernel_rfl) (by kernel_rfl) (by kernel_rfl) (fun _ _ _ h => h) (MR.want (d := 70) rfl rfl (by simp [MR.size, hsz]) (by simp [MR.ev, MR.size, hsz, e0, f0, e1, f1, e8, f8, e9, f9, e10, f10])) (fun w => by simp [execOp, MR.ev, MR.size, hsz, e0, f0, e1, f1, e8, f8, e9, f9, e10, f10, hq5, go_sem]) ?_
          refine MR.take (i := 15) (some 82) (.bool (!bq)) rfl rfl (by kernel_rfl) (by kernel_rfl) (by kernel_rfl) (fun _ _ _ h => h) (MR.free rfl) (fun w => by simp [execOp, MR.ev, MR.size, hsz, e0, f0, e1, f1, e8, f8, e9, f9, e10, f10, go_sem]) ?_
          refine wpAny_done (by kernel_rfl) ?_ _
          have hB1 : Below w.heap.size w w1 := hb0.drew.trans (hb1.mono (by have := hb0.size; simpa using this))
          clear hb1 AH IN
          rw [HA.out]
          clear HA f0 f1 f8 f9 f10 e0 e1 e8 e9 e10 hsz
          simp only [Act.put, List.setIfInBounds_toArray, List.set_cons_succ, List.set_cons_zero]
          cases bq
          · have HR : Hid _ := LL5.out hle (fun hh => by have := HQ.out.1 hh.2; cases this)
            clear LL4 LL5 HQ hq5
            go_wp2
            exact bodyPost_ret (v := .tuple #[.int .i64 (0), .int .i64 (0), .int .i64 (0), .bool false]) (by simp [results, Tryd.results62, go_sem]) rfl ⟨M10.ret4 HR.out (by omega) (by omega) (by omega), hB1⟩
          · have HR : Hid _ := LL4.out hle h4 (HQ.out.2 rfl)
            clear LL4 LL5 HQ hq5
            go_wp2
            exact bodyPost_ret (v := .tuple #[.int .i64 ((c : Int) / 32), .int .i64 (q), .int .i64 ((a : Int) + 1 + 1), .bool true]) (by simp [results, Tryd.results62, go_sem]) rfl ⟨M10.ret4 HR.out (by omega) (by omega) (by omega), hB1⟩
        · have IN : Hid (∀ W : World, Calls Tryd.prog 75 #[.int .i64 (q : Int)] W fun e w' => e = .returned (.bool false) ∧ W = w') := fun W => by
            have := l1Value_any q W
            rwa [show okN (q : Int) = false from by simp [okN]; omega] at this
          have HR : Hid _ := LL5.out hle (fun hh => h4 hh.1)
          clear LL4 LL5
          go_wp2
          go_quiet ((go_at_call 75; exact (IN.out _).mono (by rintro e w' ⟨rfl, rfl⟩; exact ⟨rfl, _, rfl⟩)))
          go_wp2
          exact bodyPost_ret (v := .tuple #[.int .i64 (0), .int .i64 (0), .int .i64 (0), .bool false]) (by simp [results, Tryd.results62, go_sem]) rfl ⟨M10.ret4 HR.out (by omega) (by omega) (by omega), below_drewN hb0 _⟩
set_option linter.unusedSimpArgs false in
set_option maxHeartbeats 1600000 in
set_option maxRecDepth 100000 in
theorem l2TakeHead_two (s : ByteArray) (a : Nat) (w : World) (h400 : s.size ≤ 400) (ha : a < s.size) (T : M10.R) (hT : Hid (M10.hdR s a = T)) (hl0 : M3.gb s a % 32 = 25) :
    Calls Tryd.prog 62 #[.string s, .int .i64 (a : Int)] w fun e w' => e = .returned (M10.t4 T) ∧ Below w.heap.size w w' := by
  have hna : decide (s.size ≤ a) = false := by simp; omega
  have hga := M3.gb_eq s a ha
  have hlt := M3.gb_lt s a
  have hk : M7.more (M3.gb s a % 32) = 2 := by rw [hl0]; rfl
  have LL3 : Hid _ := fun h3 => hT.out.symm.trans (M10.hdR_short ha (by omega) (by omega) h3)
  have LL4 : Hid _ := fun h3 h4 h5 => hT.out.symm.trans (M10.hdR_yes (k := 2) ha (by omega) (by omega) hk h3 h4 h5)
  have LL5 : Hid _ := fun h3 h4 => hT.out.symm.trans (M10.hdR_not (k := 2) ha (by omega) (by omega) hk h3 h4)
  rw [hk] at LL3
  clear hk
  generalize M3.gb s a = c at *
  clear hT
  have hl : (c : Int) % 32 = 25 := by omega
  clear hl0
  by_cases h3 : s.size < a + 1 + 2
  · have HR : Hid _ := LL3.out h3
    clear LL3 LL4 LL5
    go_enter Tryd.func62, Tryd.ntmps62
    go_wp2
    exact bodyPost_ret (v := .tuple #[.int .i64 (0), .int .i64 (0), .int .i64 (0), .bool false]) (by simp [results, Tryd.results62, go_sem]) rfl ⟨M10.ret4 HR.out (by omega) (by omega) (by omega), Below.refl _ _⟩
  · have hle : a + 1 + 2 ≤ s.size := by omega
    have hd3 : decide ((s.size : Int) < (a : Int) + 1 + 2) = false := by simp; omega
    have hc7 : c / 32 ≤ 7 := by omega
    clear LL3
    have hsz : (s.extract (a + 1) (a + 1 + 2)).size = 2 := by simp; omega
    have c1 : ∀ W : World, (convert 9 22 (.string (s.extract (a + 1) (a + 1 + 2)))).run Tryd.prog W = .ok (.slice (some ⟨W.heap.size, 0, none⟩) 2 (grownCap W 2 0 5)) (Lib.bytesWorld W 5 (s.extract (a + 1) (a + 1 + 2))) := fun W => by
      have := Lib.run_convert_string_bytes (P := Tryd.prog) W 9 22 5 (s.extract (a + 1) (a + 1 + 2)) Tryd.underlying9 Tryd.underlying22 Tryd.underlying5
      rwa [hsz] at this
    have ht1 : ((a : Int) + 1).toNat = a + 1 := by omega
    have ht2 : ((a : Int) + 1 + 2).toNat = a + 1 + 2 := by omega
    have hcell := fun j => ext_cell w s a 2 j hle
    have hb0 := bytes_belowS w 5 (s.extract (a + 1) (a + 1 + 2))
    have hcl : Hid _ := hcell
    clear hsz hcell
    go_enter Tryd.func62, Tryd.ntmps62
    go_wp2
    generalize Lib.bytesWorld w 5 (s.extract (a + 1) (a + 1 + 2)) = w0 at *
    clear c1 ht1 ht2
    try simp only [hl]
    go_loop [9, 57] (fun nv iv => ∃ j q : Nat, nv = .int .i64 q ∧ iv = .int .i64 (j : Int) ∧ j ≤ 2 ∧ q < 4294967296 ∧ Hid (M10.nk s a j = q)) (fun _ iv => (2 - intOf iv).toNat)
    case atStart => exact ⟨0, 0, rfl, by go_num, by omega, by omega, M10.nk_zero s a⟩
    case round =>
      clear hga hlt
      obtain ⟨j, q, rfl, rfl, hj, hq, hQ⟩ := hrel
      by_cases hjk : j < 2
      · have hin : a + 1 + j < s.size := by omega
        have hcc := hcl.out j hjk
        have hlt := M3.gb_lt s (a + 1 + j)
        have hS : Hid (M10.nk s a (j + 1) = q * 256 + M3.gb s (a + 1 + j)) := by show _ = _; rw [M10.nk_succ s a j hin, hQ.out]
        have hbd : q * 256 + M3.gb s (a + 1 + j) < 4294967296 := by
          rw [← hS.out]
          exact Nat.lt_of_lt_of_le (M10.nk_lt s a (j + 1) (by omega)) (Nat.le_trans (Nat.pow_le_pow_right (by omega) (show j + 1 ≤ 4 by omega)) (by decide))
        generalize M3.gb s (a + 1 + j) = b at *
        have ho := M10.or8 q b (by omega) hlt
        go_wp2
        go_round
        case rel => exact ⟨j + 1, q * 256 + b, by go_num, by go_num, by omega, hbd, hS⟩
        case measure => simp [intOf]; omega
      · obtain rfl : j = 2 := by omega
        rw [hQ.out] at LL4 LL5
        clear hQ hcl
        by_cases h4 : q ≤ 1000000000
        · have IN : Hid (∀ W : World, Calls Tryd.prog 75 #[.int .i64 (q : Int)] W fun e w' => e = .returned (.bool true) ∧ W = w') := fun W => by
            have := l1Value_any q W
            rwa [show okN (q : Int) = true from by simp [okN]; omega] at this
          obtain ⟨X, hX⟩ : ∃ X : ByteArray, (⟨(M7.hb (c / 32) q).toArray⟩ : ByteArray) = X := ⟨_, rfl⟩
          rw [hX] at LL4 LL5
          obtain ⟨bq, hq5⟩ : ∃ bq, (X.toList == (s.extract a (a + 1 + 2)).toList) = bq := ⟨_, rfl⟩
          have HQ : Hid (X = s.extract a (a + 1 + 2) ↔ bq = true) := by
            by_cases hh : X = s.extract a (a + 1 + 2)
            · rw [M8.beq_yes hh] at hq5; exact ⟨fun _ => hq5.symm, fun _ => hh⟩
            · rw [M8.beq_no hh] at hq5; exact ⟨fun h => absurd h hh, fun h => by rw [← hq5] at h; cases h⟩
          have HX : Hid (X = hs (c / 32) q) := hX.symm
          clear hX
          have hx : (c : Int) / 32 = ((c / 32 : Nat) : Int) := by omega
          have AH : Hid (∀ W : World, Calls Tryd.prog 70 #[.int .i64 ((c : Int) / 32), .int .i64 (q : Int)] W fun e w' => e = .returned (.string X) ∧ Below W.heap.size W w') := fun W => by
            rw [hx, HX.out]; exact l2Head_any (c / 32) (q) W hc7 (by omega)
          clear hx
          have hw1 : IntKind.i64.wrap ((a : Int) + 1) = (a : Int) + 1 := by rw [IntKind.wrap_i64]; omega
          have hw2 : IntKind.i64.wrap ((a : Int) + 1 + 2) = (a : Int) + 1 + 2 := by rw [IntKind.wrap_i64]; omega
          have hto : ((a : Int) + 1 + 2).toNat = a + 1 + 2 := by omega
          have hsl : (0 : Int) ≤ a ∧ (a : Int) ≤ (a : Int) + 1 + 2 ∧ (0 : Int) ≤ (a : Int) + 1 + 2 ∧ (a : Int) + 1 + 2 ≤ s.size := by omega
          go_wp2
          refine MR.frame fun A hA => ?_
          have hsz : A.tmps.size = 89 := by rw [hA]; rfl
          have e0 : A.eval (.tmp 0) = .string s := by rw [hA]; rfl
          have f0 := MR.read (t := 0) (by rw [hsz]; decide) e0
          have e1 : A.eval (.tmp 1) = .int .i64 (a : Int) := by rw [hA]; rfl
          have f1 := MR.read (t := 1) (by rw [hsz]; decide) e1
          have e8 : A.eval (.tmp 8) = .int .i64 ((c : Int) / 32) := by rw [hA]; rfl
          have f8 := MR.read (t := 8) (by rw [hsz]; decide) e8
          have e9 : A.eval (.tmp 9) = .int .i64 (q : Int) := by rw [hA]; rfl
          have f9 := MR.read (t := 9) (by rw [hsz]; decide) e9
          have e10 : A.eval (.tmp 10) = .int .i64 2 := by rw [hA]; rfl
          have f10 := MR.read (t := 10) (by rw [hsz]; decide) e10
          have HA : Hid (A = _) := hA
          clear hA
          refine wp_region_any (by kernel_rfl) ?_
          change wpAny _ _ _ _ _ _ _ (World.drew _)
          refine MR.take (i := 0) (some 67) (.int .i64 (q : Int)) rfl rfl (by kernel_rfl) (by kernel_rfl) (by kernel_rfl) (fun _ _ _ h => h) (MR.free rfl) (fun w => by simp [execOp, MR.ev, MR.size, hsz, e0, f0, e1, f1, e8, f8, e9, f9, e10, f10, go_sem]) ?_
          refine MR.call (i := 1) (some 68) (75) (#[.int .i64 (q : Int)]) (by kernel_rfl) rfl rfl (MR.free rfl) (by simp [execOp, MR.ev, MR.size, hsz, e0, f0, e1, f1, e8, f8, e9, f9, e10, f10, go_sem]) ?_
          refine (IN.out _).mono ?_
          rintro e w' ⟨rfl, rfl⟩
          refine ⟨_, rfl, ?_⟩
          refine MR.take (i := 2) (some 69) (.bool false) rfl rfl (by kernel_rfl) (by kernel_rfl) (by kernel_rfl) (fun _ _ _ h => h) (MR.free rfl) (fun w => by simp [execOp, MR.ev, MR.size, hsz, e0, f0, e1, f1, e8, f8, e9, f9, e10, f10, go_sem]) ?_
          refine MR.take (i := 3) (some 70) (.bool false) rfl rfl (by kernel_rfl) (by kernel_rfl) (by kernel_rfl) (fun _ _ _ h => h) (MR.free rfl) (fun w => by simp [execOp, MR.ev, MR.size, hsz, e0, f0, e1, f1, e8, f8, e9, f9, e10, f10, go_sem]) ?_
          refine MR.take (i := 4) (some 71) (.int .i64 ((c : Int) / 32)) rfl rfl (by kernel_rfl) (by kernel_rfl) (by kernel_rfl) (fun _ _ _ h => h) (MR.want (d := 70) rfl rfl (by simp [MR.size, hsz]) (by simp [MR.ev, MR.size, hsz, e0, f0, e1, f1, e8, f8, e9, f9, e10, f10])) (fun w => by simp [execOp, MR.ev, MR.size, hsz, e0, f0, e1, f1, e8, f8, e9, f9, e10, f10, go_sem]) ?_
          refine MR.take (i := 5) (some 72) (.int .i64 (q : Int)) rfl rfl (by kernel_rfl) (by kernel_rfl) (by kernel_rfl) (fun _ _ _ h => h) (MR.want (d := 70) rfl rfl (by simp [MR.size, hsz]) (by simp [MR.ev, MR.size, hsz, e0, f0, e1, f1, e8, f8, e9, f9, e10, f10])) (fun w => by simp [execOp, MR.ev, MR.size, hsz, e0, f0, e1, f1, e8, f8, e9, f9, e10, f10, go_sem]) ?_
          refine MR.take (i := 7) (some 74) (.string s) rfl rfl (by kernel_rfl) (by kernel_rfl) (by kernel_rfl) (fun _ _ _ h => h) (MR.want (d := 70) rfl rfl (by simp [MR.size, hsz]) (by simp [MR.ev, MR.size, hsz, e0, f0, e1, f1, e8, f8, e9, f9, e10, f10])) (fun w => by simp [execOp, MR.ev, MR.size, hsz, e0, f0, e1, f1, e8, f8, e9, f9, e10, f10, go_sem]) ?_
          refine MR.take (i := 8) (some 75) (.int .i64 (a : Int)) rfl rfl (by kernel_rfl) (by kernel_rfl) (by kernel_rfl) (fun _ _ _ h => h) (MR.want (d := 70) rfl rfl (by simp [MR.size, hsz]) (by simp [MR.ev, MR.size, hsz, e0, f0, e1, f1, e8, f8, e9, f9, e10, f10])) (fun w => by simp [execOp, MR.ev, MR.size, hsz, e0, f0, e1, f1, e8, f8, e9, f9, e10, f10, go_sem]) ?_
          refine MR.take (i := 9) (some 76) (.int .i64 (a : Int)) rfl rfl (by kernel_rfl) (by kernel_rfl) (by kernel_rfl) (fun _ _ _ h => h) (MR.want (d := 70) rfl rfl (by simp [MR.size, hsz]) (by simp [MR.ev, MR.size, hsz, e0, f0, e1, f1, e8, f8, e9, f9, e10, f10])) (fun w => by simp [execOp, MR.ev, MR.size, hsz, e0, f0, e1, f1, e8, f8, e9, f9, e10, f10, go_sem]) ?_
          refine MR.take (i := 10) (some 77) (.int .i64 ((a : Int) + 1)) rfl rfl (by kernel_rfl) (by kernel_rfl) (by kernel_rfl) (fun _ _ _ h => h) (MR.want (d := 70) rfl rfl (by simp [MR.size, hsz]) (by simp [MR.ev, MR.size, hsz, e0, f0, e1, f1, e8, f8, e9, f9, e10, f10])) (fun w => by simp [execOp, MR.ev, MR.size, hsz, e0, f0, e1, f1, e8, f8, e9, f9, e10, f10, hw1, go_sem]) ?_
          refine MR.take (i := 11) (some 78) (.int .i64 2) rfl rfl (by kernel_rfl) (by kernel_rfl) (by kernel_rfl) (fun _ _ _ h => h) (MR.want (d := 70) rfl rfl (by simp [MR.size, hsz]) (by simp [MR.ev, MR.size, hsz, e0, f0, e1, f1, e8, f8, e9, f9, e10, f10])) (fun w => by simp [execOp, MR.ev, MR.size, hsz, e0, f0, e1, f1, e8, f8, e9, f9, e10, f10, go_sem]) ?_
          refine MR.take (i := 12) (some 79) (.int .i64 ((a : Int) + 1 + 2)) rfl rfl (by kernel_rfl) (by kernel_rfl) (by kernel_rfl) (fun _ _ _ h => h) (MR.want (d := 70) rfl rfl (by simp [MR.size, hsz]) (by simp [MR.ev, MR.size, hsz, e0, f0, e1, f1, e8, f8, e9, f9, e10, f10])) (fun w => by simp [execOp, MR.ev, MR.size, hsz, e0, f0, e1, f1, e8, f8, e9, f9, e10, f10, hw2, go_sem]) ?_
          refine MR.take (i := 13) (some 80) (.string (s.extract a (a + 1 + 2))) rfl rfl (by kernel_rfl) (by kernel_rfl) (by kernel_rfl) (fun _ _ _ h => h) (MR.want (d := 70) rfl rfl (by simp [MR.size, hsz]) (by simp [MR.ev, MR.size, hsz, e0, f0, e1, f1, e8, f8, e9, f9, e10, f10])) (fun w => by simp [execOp, MR.ev, MR.size, hsz, e0, f0, e1, f1, e8, f8, e9, f9, e10, f10, hsl, hto, go_sem]) ?_
          refine MR.call (i := 6) (some 73) (70) (#[.int .i64 ((c : Int) / 32), .int .i64 (q : Int)]) (by kernel_rfl) rfl rfl (MR.want (d := 70) rfl rfl (by simp [MR.size, hsz]) (by simp [MR.ev, MR.size, hsz, e0, f0, e1, f1, e8, f8, e9, f9, e10, f10])) (by simp [execOp, MR.ev, MR.size, hsz, e0, f0, e1, f1, e8, f8, e9, f9, e10, f10, go_sem]) ?_
          refine (AH.out _).mono ?_
          rintro e w1 ⟨rfl, hb1⟩
          refine ⟨_, rfl, ?_⟩
          refine MR.take (i := 14) (some 81) (.bool (!bq)) rfl rfl (by kernel_rfl) (by kernel_rfl) (by kernel_rfl) (fun _ _ _ h => h) (MR.want (d := 70) rfl rfl (by simp [MR.size, hsz]) (by simp [MR.ev, MR.size, hsz, e0, f0, e1, f1, e8, f8, e9, f9, e10, f10])) (fun w => by simp [execOp, MR.ev, MR.size, hsz, e0, f0, e1, f1, e8, f8, e9, f9, e10, f10, hq5, go_sem]) ?_
          refine MR.take (i := 15) (some 82) (.bool (!bq)) rfl rfl (by kernel_rfl) (by kernel_rfl) (by kernel_rfl) (fun _ _ _ h => h) (MR.free rfl) (fun w => by simp [execOp, MR.ev, MR.size, hsz, e0, f0, e1, f1, e8, f8, e9, f9, e10, f10, go_sem]) ?_
          refine wpAny_done (by kernel_rfl) ?_ _
          have hB1 : Below w.heap.size w w1 := hb0.drew.trans (hb1.mono (by have := hb0.size; simpa using this))
          clear hb1 AH IN
          rw [HA.out]
          clear HA f0 f1 f8 f9 f10 e0 e1 e8 e9 e10 hsz
          simp only [Act.put, List.setIfInBounds_toArray, List.set_cons_succ, List.set_cons_zero]
          cases bq
          · have HR : Hid _ := LL5.out hle (fun hh => by have := HQ.out.1 hh.2; cases this)
            clear LL4 LL5 HQ hq5
            go_wp2
            exact bodyPost_ret (v := .tuple #[.int .i64 (0), .int .i64 (0), .int .i64 (0), .bool false]) (by simp [results, Tryd.results62, go_sem]) rfl ⟨M10.ret4 HR.out (by omega) (by omega) (by omega), hB1⟩
          · have HR : Hid _ := LL4.out hle h4 (HQ.out.2 rfl)
            clear LL4 LL5 HQ hq5
            go_wp2
            exact bodyPost_ret (v := .tuple #[.int .i64 ((c : Int) / 32), .int .i64 (q), .int .i64 ((a : Int) + 1 + 2), .bool true]) (by simp [results, Tryd.results62, go_sem]) rfl ⟨M10.ret4 HR.out (by omega) (by omega) (by omega), hB1⟩
        · have IN : Hid (∀ W : World, Calls Tryd.prog 75 #[.int .i64 (q : Int)] W fun e w' => e = .returned (.bool false) ∧ W = w') := fun W => by
            have := l1Value_any q W
            rwa [show okN (q : Int) = false from by simp [okN]; omega] at this
          have HR : Hid _ := LL5.out hle (fun hh => h4 hh.1)
          clear LL4 LL5
          go_wp2
          go_quiet ((go_at_call 75; exact (IN.out _).mono (by rintro e w' ⟨rfl, rfl⟩; exact ⟨rfl, _, rfl⟩)))
          go_wp2
          exact bodyPost_ret (v := .tuple #[.int .i64 (0), .int .i64 (0), .int .i64 (0), .bool false]) (by simp [results, Tryd.results62, go_sem]) rfl ⟨M10.ret4 HR.out (by omega) (by omega) (by omega), below_drewN hb0 _⟩
set_option linter.unusedSimpArgs false in
set_option maxHeartbeats 1600000 in
set_option maxRecDepth 100000 in
theorem l2TakeHead_four (s : ByteArray) (a : Nat) (w : World) (h400 : s.size ≤ 400) (ha : a < s.size) (T : M10.R) (hT : Hid (M10.hdR s a = T)) (hl0 : M3.gb s a % 32 = 26) :
    Calls Tryd.prog 62 #[.string s, .int .i64 (a : Int)] w fun e w' => e = .returned (M10.t4 T) ∧ Below w.heap.size w w' := by
  have hna : decide (s.size ≤ a) = false := by simp; omega
  have hga := M3.gb_eq s a ha
  have hlt := M3.gb_lt s a
  have hk : M7.more (M3.gb s a % 32) = 4 := by rw [hl0]; rfl
  have LL3 : Hid _ := fun h3 => hT.out.symm.trans (M10.hdR_short ha (by omega) (by omega) h3)
  have LL4 : Hid _ := fun h3 h4 h5 => hT.out.symm.trans (M10.hdR_yes (k := 4) ha (by omega) (by omega) hk h3 h4 h5)
  have LL5 : Hid _ := fun h3 h4 => hT.out.symm.trans (M10.hdR_not (k := 4) ha (by omega) (by omega) hk h3 h4)
  rw [hk] at LL3
  clear hk
  generalize M3.gb s a = c at *
  clear hT
  have hl : (c : Int) % 32 = 26 := by omega
  clear hl0
  by_cases h3 : s.size < a + 1 + 4
  · have HR : Hid _ := LL3.out h3
    clear LL3 LL4 LL5
    go_enter Tryd.func62, Tryd.ntmps62
    go_wp2
    exact bodyPost_ret (v := .tuple #[.int .i64 (0), .int .i64 (0), .int .i64 (0), .bool false]) (by simp [results, Tryd.results62, go_sem]) rfl ⟨M10.ret4 HR.out (by omega) (by omega) (by omega), Below.refl _ _⟩
  · have hle : a + 1 + 4 ≤ s.size := by omega
    have hd3 : decide ((s.size : Int) < (a : Int) + 1 + 4) = false := by simp; omega
    have hc7 : c / 32 ≤ 7 := by omega
    clear LL3
    have hsz : (s.extract (a + 1) (a + 1 + 4)).size = 4 := by simp; omega
    have c1 : ∀ W : World, (convert 9 22 (.string (s.extract (a + 1) (a + 1 + 4)))).run Tryd.prog W = .ok (.slice (some ⟨W.heap.size, 0, none⟩) 4 (grownCap W 4 0 5)) (Lib.bytesWorld W 5 (s.extract (a + 1) (a + 1 + 4))) := fun W => by
      have := Lib.run_convert_string_bytes (P := Tryd.prog) W 9 22 5 (s.extract (a + 1) (a + 1 + 4)) Tryd.underlying9 Tryd.underlying22 Tryd.underlying5
      rwa [hsz] at this
    have ht1 : ((a : Int) + 1).toNat = a + 1 := by omega
    have ht2 : ((a : Int) + 1 + 4).toNat = a + 1 + 4 := by omega
    have hcell := fun j => ext_cell w s a 4 j hle
    have hb0 := bytes_belowS w 5 (s.extract (a + 1) (a + 1 + 4))
    have hcl : Hid _ := hcell
    clear hsz hcell
    go_enter Tryd.func62, Tryd.ntmps62
    go_wp2
    generalize Lib.bytesWorld w 5 (s.extract (a + 1) (a + 1 + 4)) = w0 at *
    clear c1 ht1 ht2
    try simp only [hl]
    go_loop [9, 57] (fun nv iv => ∃ j q : Nat, nv = .int .i64 q ∧ iv = .int .i64 (j : Int) ∧ j ≤ 4 ∧ q < 4294967296 ∧ Hid (M10.nk s a j = q)) (fun _ iv => (4 - intOf iv).toNat)
    case atStart => exact ⟨0, 0, rfl, by go_num, by omega, by omega, M10.nk_zero s a⟩
    case round =>
      clear hga hlt
      obtain ⟨j, q, rfl, rfl, hj, hq, hQ⟩ := hrel
      by_cases hjk : j < 4
      · have hin : a + 1 + j < s.size := by omega
        have hcc := hcl.out j hjk
        have hlt := M3.gb_lt s (a + 1 + j)
        have hS : Hid (M10.nk s a (j + 1) = q * 256 + M3.gb s (a + 1 + j)) := by show _ = _; rw [M10.nk_succ s a j hin, hQ.out]
        have hbd : q * 256 + M3.gb s (a + 1 + j) < 4294967296 := by
          rw [← hS.out]
          exact Nat.lt_of_lt_of_le (M10.nk_lt s a (j + 1) (by omega)) (Nat.le_trans (Nat.pow_le_pow_right (by omega) (show j + 1 ≤ 4 by omega)) (by decide))
        generalize M3.gb s (a + 1 + j) = b at *
        have ho := M10.or8 q b (by omega) hlt
        go_wp2
        go_round
        case rel => exact ⟨j + 1, q * 256 + b, by go_num, by go_num, by omega, hbd, hS⟩
        case measure => simp [intOf]; omega
      · obtain rfl : j = 4 := by omega
        rw [hQ.out] at LL4 LL5
        clear hQ hcl
        by_cases h4 : q ≤ 1000000000
        · have IN : Hid (∀ W : World, Calls Tryd.prog 75 #[.int .i64 (q : Int)] W fun e w' => e = .returned (.bool true) ∧ W = w') := fun W => by
            have := l1Value_any q W
            rwa [show okN (q : Int) = true from by simp [okN]; omega] at this
          obtain ⟨X, hX⟩ : ∃ X : ByteArray, (⟨(M7.hb (c / 32) q).toArray⟩ : ByteArray) = X := ⟨_, rfl⟩
          rw [hX] at LL4 LL5
          obtain ⟨bq, hq5⟩ : ∃ bq, (X.toList == (s.extract a (a + 1 + 4)).toList) = bq := ⟨_, rfl⟩
          have HQ : Hid (X = s.extract a (a + 1 + 4) ↔ bq = true) := by
            by_cases hh : X = s.extract a (a + 1 + 4)
            · rw [M8.beq_yes hh] at hq5; exact ⟨fun _ => hq5.symm, fun _ => hh⟩
            · rw [M8.beq_no hh] at hq5; exact ⟨fun h => absurd h hh, fun h => by rw [← hq5] at h; cases h⟩
          have HX : Hid (X = hs (c / 32) q) := hX.symm
          clear hX
          have hx : (c : Int) / 32 = ((c / 32 : Nat) : Int) := by omega
          have AH : Hid (∀ W : World, Calls Tryd.prog 70 #[.int .i64 ((c : Int) / 32), .int .i64 (q : Int)] W fun e w' => e = .returned (.string X) ∧ Below W.heap.size W w') := fun W => by
            rw [hx, HX.out]; exact l2Head_any (c / 32) (q) W hc7 (by omega)
          clear hx
          have hw1 : IntKind.i64.wrap ((a : Int) + 1) = (a : Int) + 1 := by rw [IntKind.wrap_i64]; omega
          have hw2 : IntKind.i64.wrap ((a : Int) + 1 + 4) = (a : Int) + 1 + 4 := by rw [IntKind.wrap_i64]; omega
          have hto : ((a : Int) + 1 + 4).toNat = a + 1 + 4 := by omega
          have hsl : (0 : Int) ≤ a ∧ (a : Int) ≤ (a : Int) + 1 + 4 ∧ (0 : Int) ≤ (a : Int) + 1 + 4 ∧ (a : Int) + 1 + 4 ≤ s.size := by omega
          go_wp2
          refine MR.frame fun A hA => ?_
          have hsz : A.tmps.size = 89 := by rw [hA]; rfl
          have e0 : A.eval (.tmp 0) = .string s := by rw [hA]; rfl
          have f0 := MR.read (t := 0) (by rw [hsz]; decide) e0
          have e1 : A.eval (.tmp 1) = .int .i64 (a : Int) := by rw [hA]; rfl
          have f1 := MR.read (t := 1) (by rw [hsz]; decide) e1
          have e8 : A.eval (.tmp 8) = .int .i64 ((c : Int) / 32) := by rw [hA]; rfl
          have f8 := MR.read (t := 8) (by rw [hsz]; decide) e8
          have e9 : A.eval (.tmp 9) = .int .i64 (q : Int) := by rw [hA]; rfl
          have f9 := MR.read (t := 9) (by rw [hsz]; decide) e9
          have e10 : A.eval (.tmp 10) = .int .i64 4 := by rw [hA]; rfl
          have f10 := MR.read (t := 10) (by rw [hsz]; decide) e10
          have HA : Hid (A = _) := hA
          clear hA
          refine wp_region_any (by kernel_rfl) ?_
          change wpAny _ _ _ _ _ _ _ (World.drew _)
          refine MR.take (i := 0) (some 67) (.int .i64 (q : Int)) rfl rfl (by kernel_rfl) (by kernel_rfl) (by kernel_rfl) (fun _ _ _ h => h) (MR.free rfl) (fun w => by simp [execOp, MR.ev, MR.size, hsz, e0, f0, e1, f1, e8, f8, e9, f9, e10, f10, go_sem]) ?_
          refine MR.call (i := 1) (some 68) (75) (#[.int .i64 (q : Int)]) (by kernel_rfl) rfl rfl (MR.free rfl) (by simp [execOp, MR.ev, MR.size, hsz, e0, f0, e1, f1, e8, f8, e9, f9, e10, f10, go_sem]) ?_
          refine (IN.out _).mono ?_
          rintro e w' ⟨rfl, rfl⟩
          refine ⟨_, rfl, ?_⟩
          refine MR.take (i := 2) (some 69) (.bool false) rfl rfl (by kernel_rfl) (by kernel_rfl) (by kernel_rfl) (fun _ _ _ h => h) (MR.free rfl) (fun w => by simp [execOp, MR.ev, MR.size, hsz, e0, f0, e1, f1, e8, f8, e9, f9, e10, f10, go_sem]) ?_
          refine MR.take (i := 3) (some 70) (.bool false) rfl rfl (by kernel_rfl) (by kernel_rfl) (by kernel_rfl) (fun _ _ _ h => h) (MR.free rfl) (fun w => by simp [execOp, MR.ev, MR.size, hsz, e0, f0, e1, f1, e8, f8, e9, f9, e10, f10, go_sem]) ?_
          refine MR.take (i := 4) (some 71) (.int .i64 ((c : Int) / 32)) rfl rfl (by kernel_rfl) (by kernel_rfl) (by kernel_rfl) (fun _ _ _ h => h) (MR.want (d := 70) rfl rfl (by simp [MR.size, hsz]) (by simp [MR.ev, MR.size, hsz, e0, f0, e1, f1, e8, f8, e9, f9, e10, f10])) (fun w => by simp [execOp, MR.ev, MR.size, hsz, e0, f0, e1, f1, e8, f8, e9, f9, e10, f10, go_sem]) ?_
          refine MR.take (i := 5) (some 72) (.int .i64 (q : Int)) rfl rfl (by kernel_rfl) (by kernel_rfl) (by kernel_rfl) (fun _ _ _ h => h) (MR.want (d := 70) rfl rfl (by simp [MR.size, hsz]) (by simp [MR.ev, MR.size, hsz, e0, f0, e1, f1, e8, f8, e9, f9, e10, f10])) (fun w => by simp [execOp, MR.ev, MR.size, hsz, e0, f0, e1, f1, e8, f8, e9, f9, e10, f10, go_sem]) ?_
          refine MR.take (i := 7) (some 74) (.string s) rfl rfl (by kernel_rfl) (by kernel_rfl) (by kernel_rfl) (fun _ _ _ h => h) (MR.want (d := 70) rfl rfl (by simp [MR.size, hsz]) (by simp [MR.ev, MR.size, hsz, e0, f0, e1, f1, e8, f8, e9, f9, e10, f10])) (fun w => by simp [execOp, MR.ev, MR.size, hsz, e0, f0, e1, f1, e8, f8, e9, f9, e10, f10, go_sem]) ?_
          refine MR.take (i := 8) (some 75) (.int .i64 (a : Int)) rfl rfl (by kernel_rfl) (by kernel_rfl) (by kernel_rfl) (fun _ _ _ h => h) (MR.want (d := 70) rfl rfl (by simp [MR.size, hsz]) (by simp [MR.ev, MR.size, hsz, e0, f0, e1, f1, e8, f8, e9, f9, e10, f10])) (fun w => by simp [execOp, MR.ev, MR.size, hsz, e0, f0, e1, f1, e8, f8, e9, f9, e10, f10, go_sem]) ?_
          refine MR.take (i := 9) (some 76) (.int .i64 (a : Int)) rfl rfl (by kernel_rfl) (by kernel_rfl) (by kernel_rfl) (fun _ _ _ h => h) (MR.want (d := 70) rfl rfl (by simp [MR.size, hsz]) (by simp [MR.ev, MR.size, hsz, e0, f0, e1, f1, e8, f8, e9, f9, e10, f10])) (fun w => by simp [execOp, MR.ev, MR.size, hsz, e0, f0, e1, f1, e8, f8, e9, f9, e10, f10, go_sem]) ?_
          refine MR.take (i := 10) (some 77) (.int .i64 ((a : Int) + 1)) rfl rfl (by kernel_rfl) (by kernel_rfl) (by kernel_rfl) (fun _ _ _ h => h) (MR.want (d := 70) rfl rfl (by simp [MR.size, hsz]) (by simp [MR.ev, MR.size, hsz, e0, f0, e1, f1, e8, f8, e9, f9, e10, f10])) (fun w => by simp [execOp, MR.ev, MR.size, hsz, e0, f0, e1, f1, e8, f8, e9, f9, e10, f10, hw1, go_sem]) ?_
          refine MR.take (i := 11) (some 78) (.int .i64 4) rfl rfl (by kernel_rfl) (by kernel_rfl) (by kernel_rfl) (fun _ _ _ h => h) (MR.want (d := 70) rfl rfl (by simp [MR.size, hsz]) (by simp [MR.ev, MR.size, hsz, e0, f0, e1, f1, e8, f8, e9, f9, e10, f10])) (fun w => by simp [execOp, MR.ev, MR.size, hsz, e0, f0, e1, f1, e8, f8, e9, f9, e10, f10, go_sem]) ?_
          refine MR.take (i := 12) (some 79) (.int .i64 ((a : Int) + 1 + 4)) rfl rfl (by kernel_rfl) (by kernel_rfl) (by kernel_rfl) (fun _ _ _ h => h) (MR.want (d := 70) rfl rfl (by simp [MR.size, hsz]) (by simp [MR.ev, MR.size, hsz, e0, f0, e1, f1, e8, f8, e9, f9, e10, f10])) (fun w => by simp [execOp, MR.ev, MR.size, hsz, e0, f0, e1, f1, e8, f8, e9, f9, e10, f10, hw2, go_sem]) ?_
          refine MR.take (i := 13) (some 80) (.string (s.extract a (a + 1 + 4))) rfl rfl (by kernel_rfl) (by kernel_rfl) (by kernel_rfl) (fun _ _ _ h => h) (MR.want (d := 70) rfl rfl (by simp [MR.size, hsz]) (by simp [MR.ev, MR.size, hsz, e0, f0, e1, f1, e8, f8, e9, f9, e10, f10])) (fun w => by simp [execOp, MR.ev, MR.size, hsz, e0, f0, e1, f1, e8, f8, e9, f9, e10, f10, hsl, hto, go_sem]) ?_
          refine MR.call (i := 6) (some 73) (70) (#[.int .i64 ((c : Int) / 32), .int .i64 (q : Int)]) (by kernel_rfl) rfl rfl (MR.want (d := 70) rfl rfl (by simp [MR.size, hsz]) (by simp [MR.ev, MR.size, hsz, e0, f0, e1, f1, e8, f8, e9, f9, e10, f10])) (by simp [execOp, MR.ev, MR.size, hsz, e0, f0, e1, f1, e8, f8, e9, f9, e10, f10, go_sem]) ?_
          refine (AH.out _).mono ?_
          rintro e w1 ⟨rfl, hb1⟩
          refine ⟨_, rfl, ?_⟩
          refine MR.take (i := 14) (some 81) (.bool (!bq)) rfl rfl (by kernel_rfl) (by kernel_rfl) (by kernel_rfl) (fun _ _ _ h => h) (MR.want (d := 70) rfl rfl (by simp [MR.size, hsz]) (by simp [MR.ev, MR.size, hsz, e0, f0, e1, f1, e8, f8, e9, f9, e10, f10])) (fun w => by simp [execOp, MR.ev, MR.size, hsz, e0, f0, e1, f1, e8, f8, e9, f9, e10, f10, hq5, go_sem]) ?_
          refine MR.take (i := 15) (some 82) (.bool (!bq)) rfl rfl (by kernel_rfl) (by kernel_rfl) (by kernel_rfl) (fun _ _ _ h => h) (MR.free rfl) (fun w => by simp [execOp, MR.ev, MR.size, hsz, e0, f0, e1, f1, e8, f8, e9, f9, e10, f10, go_sem]) ?_
          refine wpAny_done (by kernel_rfl) ?_ _
          have hB1 : Below w.heap.size w w1 := hb0.drew.trans (hb1.mono (by have := hb0.size; simpa using this))
          clear hb1 AH IN
          rw [HA.out]
          clear HA f0 f1 f8 f9 f10 e0 e1 e8 e9 e10 hsz
          simp only [Act.put, List.setIfInBounds_toArray, List.set_cons_succ, List.set_cons_zero]
          cases bq
          · have HR : Hid _ := LL5.out hle (fun hh => by have := HQ.out.1 hh.2; cases this)
            clear LL4 LL5 HQ hq5
            go_wp2
            exact bodyPost_ret (v := .tuple #[.int .i64 (0), .int .i64 (0), .int .i64 (0), .bool false]) (by simp [results, Tryd.results62, go_sem]) rfl ⟨M10.ret4 HR.out (by omega) (by omega) (by omega), hB1⟩
          · have HR : Hid _ := LL4.out hle h4 (HQ.out.2 rfl)
            clear LL4 LL5 HQ hq5
            go_wp2
            exact bodyPost_ret (v := .tuple #[.int .i64 ((c : Int) / 32), .int .i64 (q), .int .i64 ((a : Int) + 1 + 4), .bool true]) (by simp [results, Tryd.results62, go_sem]) rfl ⟨M10.ret4 HR.out (by omega) (by omega) (by omega), hB1⟩
        · have IN : Hid (∀ W : World, Calls Tryd.prog 75 #[.int .i64 (q : Int)] W fun e w' => e = .returned (.bool false) ∧ W = w') := fun W => by
            have := l1Value_any q W
            rwa [show okN (q : Int) = false from by simp [okN]; omega] at this
          have HR : Hid _ := LL5.out hle (fun hh => h4 hh.1)
          clear LL4 LL5
          go_wp2
          go_quiet ((go_at_call 75; exact (IN.out _).mono (by rintro e w' ⟨rfl, rfl⟩; exact ⟨rfl, _, rfl⟩)))
          go_wp2
          exact bodyPost_ret (v := .tuple #[.int .i64 (0), .int .i64 (0), .int .i64 (0), .bool false]) (by simp [results, Tryd.results62, go_sem]) rfl ⟨M10.ret4 HR.out (by omega) (by omega) (by omega), below_drewN hb0 _⟩
theorem l2TakeHead_in (s : ByteArray) (a : Nat) (w : World) (h400 : s.size ≤ 400) (ha : a < s.size) (T : M10.R) (hT : Hid (M10.hdR s a = T)) :
    Calls Tryd.prog 62 #[.string s, .int .i64 (a : Int)] w fun e w' => e = .returned (M10.t4 T) ∧ Below w.heap.size w w' := by
  by_cases h1 : M3.gb s a % 32 < 24
  · exact l2TakeHead_low s a w h400 ha T hT h1
  · by_cases h2 : 26 < M3.gb s a % 32
    · exact l2TakeHead_high s a w h400 ha T hT h2
    · have : M3.gb s a % 32 = 24 ∨ M3.gb s a % 32 = 25 ∨ M3.gb s a % 32 = 26 := by omega
      rcases this with h | h | h
      · exact l2TakeHead_one s a w h400 ha T hT h
      · exact l2TakeHead_two s a w h400 ha T hT h
      · exact l2TakeHead_four s a w h400 ha T hT h
end Go.Proofs.YtcpfbgogfhlmjaaDoor

/- The specification's ReadItems at any text. -/
namespace Go.Proofs.YtcpfbgogfhlmjaaDoor
open Go.RowKit
/-- Items that were read. -/
def Rd (L : List It) : Prop := ∀ x ∈ L, M15.can x ∧ x.text.size ≤ 1048576
theorem Rd.snoc {L : List It} {x : It} {l : List UInt8} {c : Nat} (h : Rd L) (hx : M15.flat1 l = some (x, c)) (hl : l.length ≤ 400) : Rd (L ++ [x]) := by
  intro y hy
  rcases List.mem_append.1 hy with hy | hy
  · exact h y hy
  · simp at hy
    subst hy
    obtain ⟨_, h2, h3⟩ := M15.flat1_is hx
    have hc := M16.flat1_can hx
    refine ⟨hc, Nat.le_trans (can_text (L := [y]) (n := 400) (fun z hz => by simp at hz; subst hz; exact hc) ?_ y (by simp)) (by omega)⟩
    rw [M16.bytes_cons, ← h3, List.length_append, List.length_take]; simp [M12.bytes]; omega
theorem Rd.wf {L : List It} (h : Rd L) : M11.Wf L := can_wf (fun x hx => (h x hx).1) (fun x hx => (h x hx).2)
theorem hdR_none {s : ByteArray} {k : Nat} (h : M7.hd ((M8.bl s).drop k) = none) : M10.hdR s k = M10.no := by unfold M10.hdR; rw [h]
theorem hdR_some {s : ByteArray} {k m n c : Nat} (h : M7.hd ((M8.bl s).drop k) = some (m, n, c)) : M10.hdR s k = (m, n, k + c, true) := by unfold M10.hdR; rw [h]
theorem rdS_stop {s : ByteArray} {f k : Nat} {acc : List It} (hk : k < s.size ∧ acc.length ≤ 40) (h : M15.flat1 ((M8.bl s).drop k) = none) : M16.rdS s (f + 1) k acc = ([], false) := by rw [M16.rdS, if_pos hk, h]
theorem rdS_next {s : ByteArray} {f k c : Nat} {x : It} {acc : List It} (hk : k < s.size ∧ acc.length ≤ 40) (h : M15.flat1 ((M8.bl s).drop k) = some (x, c)) : M16.rdS s (f + 1) k acc = M16.rdS s f (k + c) (acc ++ [x]) := by rw [M16.rdS, if_pos hk, h]
theorem rdS_end {s : ByteArray} {f k : Nat} {acc : List It} (hk : ¬ (k < s.size ∧ acc.length ≤ 40)) : M16.rdS s f k acc = M16.fin s acc := by
  cases f with
  | zero => rfl
  | succ f => rw [M16.rdS, if_neg hk]
set_option maxHeartbeats 3200000 in
set_option maxRecDepth 100000 in
theorem specReadItems_any (s : ByteArray) (w : World) (hs0 : s.size ≤ maxLen) :
    Calls Tryd.prog 39 #[.string s] w fun e w' => LeftI w w' (M16.read s) e := by
  have hs := hs0
  unfold maxLen at hs
  obtain ⟨i0, hi, hz0, hz1, hz2⟩ := info_parts Tryd.infoItem
  by_cases h400 : s.size ≤ 400
  · have HR0 : Hid (M16.rdS s s.size 0 [] = M16.read s) := M16.rdS_read h400
    generalize M16.read s = r at *
    go_enter Tryd.func39, Tryd.ntmps39
    go_wp2
    go_loopw [4, 5, 6, 7, 8, 9] (fun v av _ _ _ _ wr => ∃ (f k : Nat) (acc : List It), av = .int .i64 k ∧ k ≤ s.size ∧ s.size ≤ k + f ∧ acc.length ≤ k ∧ Hid (Rd acc) ∧ Hid (M16.rdS s f k acc = r) ∧ wr.ownsRow w.heap.size 65 4 v acc.length (M11.flat acc) ∧ Below w.heap.size w wr) (fun _ av _ _ _ _ _ => (s.size - intOf av).toNat)
    case atStart => exact ⟨s.size, 0, [], rfl, by omega, by omega, by simp, show Hid (Rd []) from fun x hx => by simp at hx, HR0, World.ownsRow_nil _ _ _ _, Below.refl _ _⟩
    case round =>
      obtain ⟨f, k, acc, rfl, hk, hf, hacc, HRD, HR, hown, hb⟩ := hrel
      obtain ⟨ao, co, hv⟩ := own_slice hown
      rw [hv] at hown ⊢
      clear hv
      by_cases hl : k < s.size ∧ acc.length ≤ 40
      · obtain ⟨f, rfl⟩ : ∃ f', f = f' + 1 := ⟨f - 1, by omega⟩
        have HL : Hid _ := hl
        obtain ⟨hk1, ha40⟩ := hl
        have hlen : ((M8.bl s).drop k).length = s.size - k := by rw [List.length_drop, M8.bl_len]
        have h1 := HR.out
        cases hh : M7.hd ((M8.bl s).drop k) with
        | none =>
          rw [rdS_stop HL.out (M17.flat_none hh)] at h1
          have HN : Hid (([], false) = r) := h1
          have TH : Hid _ := fun W => l2TakeHead_in s k W h400 hk1 _ (hdR_none hh)
          clear h1 HR hh hlen HL HRD hown
          unfold M10.no at TH
          go_wp2_with fail
          refine Calls.mono (TH.out _) ?_
          rintro e w1 ⟨rfl, hb1⟩
          have hB1 := hb.trans (hb1.mono hb.size)
          clear TH hb1 hb
          go_wp2
          exact bodyPost_ret (v := .tuple #[.slice none 0 0, .bool false]) (by simp [results, Tryd.results39, go_sem]) rfl (leftI_no HN.out hB1)
        | some q =>
          obtain ⟨m, n, c⟩ := q
          obtain ⟨_, hkc, hc1, hm7, hn9⟩ := M17.hdF_some h400 hh
          have TH : Hid _ := fun W => l2TakeHead_in s k W h400 hk1 _ (hdR_some hh)
          by_cases e0 : m = 0
          · subst e0
            have hfl := M17.flat_num hh
            rw [rdS_next HL.out hfl] at h1
            have HN : Hid _ := h1
            have HRD2 : Hid _ := Rd.snoc HRD.out hfl (by rw [hlen]; omega)
            have h63 : acc.length + 1 ≤ maxLen := by unfold maxLen; omega
            have H63 : Hid _ := h63
            clear h1 HR hh hlen HL HRD hfl h63
            go_wp2_with fail
            refine Calls.mono (TH.out _) ?_
            rintro e w1 ⟨rfl, hb1⟩
            have hB1 := hb.trans (hb1.mono hb.size)
            have hown1 := M11.own_below hown hb1
            have hbs := hB1.size
            clear TH hb1 hb hown
            go_wp2_with (at_builtin; refine wpList_append_own _ rfl _ _ 49 rfl w.heap.size 65 i0 _ 4 40 Tryd.underlying49 hi hz0 hz1 hz2 rfl (by decide) _ _ _ rfl (hown1.alloc _) ⟨w1.heap.size, 0, none⟩ 1 1 (It.cs (⟨1, (n : Int), ⟨#[]⟩, 0⟩ : It)) rfl rfl (M9.newN w1 (It.cs (⟨1, (n : Int), ⟨#[]⟩, 0⟩ : It)) 65) (It.cs_one _) H63.out (by omega) (by simp; omega) ?_)
            intro v' w2 hown2 hgrow _
            have R1 : w2.ownsRow w.heap.size 65 4 v' (acc ++ [(⟨1, (n : Int), ⟨#[]⟩, 0⟩ : It)]).length (M11.flat (acc ++ [(⟨1, (n : Int), ⟨#[]⟩, 0⟩ : It)])) := by
              rw [M11.flat_app, List.length_append]
              simpa [M11.flat] using hown2
            have R2 : Below w.heap.size w w2 := (hB1.alloc hbs _).grown hgrow (by simp; omega) (fun g hg => (hown1.lt g hg).1)
            clear hown2 hgrow hown1 hB1 H63
            go_wp2
            go_roundw
            case rel => exact ⟨f, k + c, acc ++ [_], by go_num, by omega, by omega, by rw [List.length_append, List.length_singleton]; omega, HRD2, HN, R1, R2⟩
            case measure => simp [intOf]; omega
          · have b0 : ((m : Int) == 0) = false := by simp; omega
            by_cases e4 : m = 4
            · subst e4
              clear b0 e0
              have hfl := M17.flat_lst hh
              rw [rdS_next HL.out hfl] at h1
              have HN : Hid _ := h1
              have HRD2 : Hid _ := Rd.snoc HRD.out hfl (by rw [hlen]; omega)
              have h63 : acc.length + 1 ≤ maxLen := by unfold maxLen; omega
              have H63 : Hid _ := h63
              clear h1 HR hh hlen HL HRD hfl h63
              go_wp2_with fail
              refine Calls.mono (TH.out _) ?_
              rintro e w1 ⟨rfl, hb1⟩
              have hB1 := hb.trans (hb1.mono hb.size)
              have hown1 := M11.own_below hown hb1
              have hbs := hB1.size
              clear TH hb1 hb hown
              go_wp2_with (at_builtin; refine wpList_append_own _ rfl _ _ 49 rfl w.heap.size 65 i0 _ 4 40 Tryd.underlying49 hi hz0 hz1 hz2 rfl (by decide) _ _ _ rfl (hown1.alloc _) ⟨w1.heap.size, 0, none⟩ 1 1 (It.cs (⟨4, 0, ⟨#[]⟩, (n : Int)⟩ : It)) rfl rfl (M9.newN w1 (It.cs (⟨4, 0, ⟨#[]⟩, (n : Int)⟩ : It)) 65) (It.cs_one _) H63.out (by omega) (by simp; omega) ?_)
              intro v' w2 hown2 hgrow _
              have R1 : w2.ownsRow w.heap.size 65 4 v' (acc ++ [(⟨4, 0, ⟨#[]⟩, (n : Int)⟩ : It)]).length (M11.flat (acc ++ [(⟨4, 0, ⟨#[]⟩, (n : Int)⟩ : It)])) := by
                rw [M11.flat_app, List.length_append]
                simpa [M11.flat] using hown2
              have R2 : Below w.heap.size w w2 := (hB1.alloc hbs _).grown hgrow (by simp; omega) (fun g hg => (hown1.lt g hg).1)
              clear hown2 hgrow hown1 hB1 H63
              go_wp2
              go_roundw
              case rel => exact ⟨f, k + c, acc ++ [_], by go_num, by omega, by omega, by rw [List.length_append, List.length_singleton]; omega, HRD2, HN, R1, R2⟩
              case measure => simp [intOf]; omega
            · have b4 : ((m : Int) == 4) = false := by simp; omega
              by_cases e2 : m = 2
              · subst e2
                clear b0 b4 e0 e4
                by_cases hn : n ≤ s.size - (k + c)
                · have hg : decide ((n : Int) ≤ (s.size : Int) - ((k + c : Nat) : Int)) = true := by simp; omega
                  have hfl := M17.flat_two hh (by rw [hlen]; omega)
                  rw [M17.text_at] at hfl
                  rw [rdS_next HL.out hfl] at h1
                  have HN : Hid _ := h1
                  have HRD2 : Hid _ := Rd.snoc HRD.out hfl (by rw [hlen]; omega)
                  have h63 : acc.length + 1 ≤ maxLen := by unfold maxLen; omega
                  have H63 : Hid _ := h63
                  clear h1 HR hh hlen HL HRD hfl h63
                  go_wp2_with fail
                  refine Calls.mono (TH.out _) ?_
                  rintro e w1 ⟨rfl, hb1⟩
                  have hB1 := hb.trans (hb1.mono hb.size)
                  have hown1 := M11.own_below hown hb1
                  have hbs := hB1.size
                  clear TH hb1 hb hown
                  go_wp2_with (at_builtin; refine wpList_append_own _ rfl _ _ 49 rfl w.heap.size 65 i0 _ 4 40 Tryd.underlying49 hi hz0 hz1 hz2 rfl (by decide) _ _ _ rfl (hown1.alloc _) ⟨w1.heap.size, 0, none⟩ 1 1 (It.cs (⟨2, 0, s.extract (k + c) (k + c + n), 0⟩ : It)) rfl rfl (M9.newN w1 (It.cs (⟨2, 0, s.extract (k + c) (k + c + n), 0⟩ : It)) 65) (It.cs_one _) H63.out (by omega) (by simp; omega) ?_)
                  intro v' w2 hown2 hgrow _
                  have R1 : w2.ownsRow w.heap.size 65 4 v' (acc ++ [(⟨2, 0, s.extract (k + c) (k + c + n), 0⟩ : It)]).length (M11.flat (acc ++ [(⟨2, 0, s.extract (k + c) (k + c + n), 0⟩ : It)])) := by
                    rw [M11.flat_app, List.length_append]
                    simpa [M11.flat] using hown2
                  have R2 : Below w.heap.size w w2 := (hB1.alloc hbs _).grown hgrow (by simp; omega) (fun g hg => (hown1.lt g hg).1)
                  clear hown2 hgrow hown1 hB1 H63
                  go_wp2
                  go_roundw
                  case rel => exact ⟨f, k + (c + n), acc ++ [_], by go_num, by omega, by omega, by rw [List.length_append, List.length_singleton]; omega, HRD2, HN, R1, R2⟩
                  case measure => simp [intOf]; omega
                · have hg : decide ((n : Int) ≤ (s.size : Int) - ((k + c : Nat) : Int)) = false := by simp; omega
                  rw [rdS_stop HL.out (M17.flat_short hh (.inl rfl) (by rw [hlen]; omega))] at h1
                  have HN : Hid (([], false) = r) := h1
                  clear h1 HR hh hlen HL HRD
                  go_wp2_with fail
                  refine Calls.mono (TH.out _) ?_
                  rintro e w1 ⟨rfl, hb1⟩
                  have hB1 := hb.trans (hb1.mono hb.size)
                  have hown1 := M11.own_below hown hb1
                  have hbs := hB1.size
                  clear TH hb1 hb hown
                  clear hown1
                  go_wp2
                  exact bodyPost_ret (v := .tuple #[.slice none 0 0, .bool false]) (by simp [results, Tryd.results39, go_sem]) rfl (leftI_no HN.out hB1)
              · have b2 : ((m : Int) == 2) = false := by simp; omega
                by_cases e3 : m = 3
                · subst e3
                  clear b0 b4 e0 e4 e2 b2
                  by_cases hn : n ≤ s.size - (k + c)
                  · have hg : decide ((n : Int) ≤ (s.size : Int) - ((k + c : Nat) : Int)) = true := by simp; omega
                    have hfl := M17.flat_three hh (by rw [hlen]; omega)
                    rw [M17.text_at] at hfl
                    rw [rdS_next HL.out hfl] at h1
                    have HN : Hid _ := h1
                    have HRD2 : Hid _ := Rd.snoc HRD.out hfl (by rw [hlen]; omega)
                    have h63 : acc.length + 1 ≤ maxLen := by unfold maxLen; omega
                    have H63 : Hid _ := h63
                    clear h1 HR hh hlen HL HRD hfl h63
                    go_wp2_with fail
                    refine Calls.mono (TH.out _) ?_
                    rintro e w1 ⟨rfl, hb1⟩
                    have hB1 := hb.trans (hb1.mono hb.size)
                    have hown1 := M11.own_below hown hb1
                    have hbs := hB1.size
                    clear TH hb1 hb hown
                    go_wp2_with (at_builtin; refine wpList_append_own _ rfl _ _ 49 rfl w.heap.size 65 i0 _ 4 40 Tryd.underlying49 hi hz0 hz1 hz2 rfl (by decide) _ _ _ rfl (hown1.alloc _) ⟨w1.heap.size, 0, none⟩ 1 1 (It.cs (⟨3, 0, s.extract (k + c) (k + c + n), 0⟩ : It)) rfl rfl (M9.newN w1 (It.cs (⟨3, 0, s.extract (k + c) (k + c + n), 0⟩ : It)) 65) (It.cs_one _) H63.out (by omega) (by simp; omega) ?_)
                    intro v' w2 hown2 hgrow _
                    have R1 : w2.ownsRow w.heap.size 65 4 v' (acc ++ [(⟨3, 0, s.extract (k + c) (k + c + n), 0⟩ : It)]).length (M11.flat (acc ++ [(⟨3, 0, s.extract (k + c) (k + c + n), 0⟩ : It)])) := by
                      rw [M11.flat_app, List.length_append]
                      simpa [M11.flat] using hown2
                    have R2 : Below w.heap.size w w2 := (hB1.alloc hbs _).grown hgrow (by simp; omega) (fun g hg => (hown1.lt g hg).1)
                    clear hown2 hgrow hown1 hB1 H63
                    go_wp2
                    go_roundw
                    case rel => exact ⟨f, k + (c + n), acc ++ [_], by go_num, by omega, by omega, by rw [List.length_append, List.length_singleton]; omega, HRD2, HN, R1, R2⟩
                    case measure => simp [intOf]; omega
                  · have hg : decide ((n : Int) ≤ (s.size : Int) - ((k + c : Nat) : Int)) = false := by simp; omega
                    rw [rdS_stop HL.out (M17.flat_short hh (.inr rfl) (by rw [hlen]; omega))] at h1
                    have HN : Hid (([], false) = r) := h1
                    clear h1 HR hh hlen HL HRD
                    go_wp2_with fail
                    refine Calls.mono (TH.out _) ?_
                    rintro e w1 ⟨rfl, hb1⟩
                    have hB1 := hb.trans (hb1.mono hb.size)
                    have hown1 := M11.own_below hown hb1
                    have hbs := hB1.size
                    clear TH hb1 hb hown
                    clear hown1
                    go_wp2
                    exact bodyPost_ret (v := .tuple #[.slice none 0 0, .bool false]) (by simp [results, Tryd.results39, go_sem]) rfl (leftI_no HN.out hB1)
                · have b3 : ((m : Int) == 3) = false := by simp; omega
                  rw [rdS_stop HL.out (M17.flat_other hh e0 e2 e3 e4)] at h1
                  have HN : Hid (([], false) = r) := h1
                  clear h1 HR hh hlen HL HRD
                  clear e0 e2 e3 e4
                  go_wp2_with fail
                  refine Calls.mono (TH.out _) ?_
                  rintro e w1 ⟨rfl, hb1⟩
                  have hB1 := hb.trans (hb1.mono hb.size)
                  have hown1 := M11.own_below hown hb1
                  have hbs := hB1.size
                  clear TH hb1 hb hown
                  clear hown1
                  go_wp2
                  exact bodyPost_ret (v := .tuple #[.slice none 0 0, .bool false]) (by simp [results, Tryd.results39, go_sem]) rfl (leftI_no HN.out hB1)
      · have h1 := HR.out
        rw [rdS_end hl] at h1
        unfold M16.fin at h1
        have hin := own_items hown rfl
        have SG : Hid _ := fun W h => specGood_any ao co acc W (by omega) HRD.out.wf h
        by_cases hg : M12.good acc = true
        · have ho := (M16.good_one hg).1
          have h40 := (M13.one_some ho).1
          have hf1 : Hid _ := M13.one_fine ho
          have LB : Hid _ := fun W h => l2Bytes_any ao co acc W h40 hf1 h
          rw [hg] at SG
          have hks : ¬ k < s.size := by omega
          have hk2 : decide ((k : Int) < (s.size : Int)) = false := by simp; omega
          by_cases he : M12.bytes acc = M8.bl s
          · rw [if_pos ⟨hg, he⟩] at h1
            have HT : Hid ((acc, true) = r) := h1
            have hst : (⟨(M12.bytes acc).toArray⟩ : ByteArray) = s := M8.bl_inj he
            rw [hst] at LB
            clear h1 HR hl HRD hg ho h40 hf1 he hst
            go_wp2_with fail
            refine Calls.mono (SG.out _ hin) ?_
            rintro e w1 ⟨rfl, hb1⟩
            have hB1 := hb.trans (hb1.mono hb.size)
            have hown1 := M11.own_below hown hb1
            have hin1 := hin.below hb1
            clear SG hb1 hb hown hin
            go_wp2_with fail
            refine Calls.mono (LB.out _ hin1) ?_
            rintro e w2 ⟨rfl, hb2⟩
            have hB2 := hB1.trans (hb2.mono hB1.size)
            have hown2 := M11.own_below hown1 hb2
            clear LB hb2 hB1 hown1 hin1
            go_wp2
            exact bodyPost_ret (v := .tuple #[.slice ao acc.length co, .bool true]) (by simp [results, Tryd.results39, go_sem]) rfl (leftI_yes HT.out rfl hown2 hB2)
          · rw [if_neg (fun h => he h.2)] at h1
            have HN : Hid (([], false) = r) := h1
            have hst : ¬ (⟨(M12.bytes acc).toArray⟩ : ByteArray) = s := fun h => he (congrArg M8.bl h)
            have hne : ((⟨(M12.bytes acc).toArray⟩ : ByteArray).toList == s.toList) = false := M8.beq_no hst
            generalize (⟨(M12.bytes acc).toArray⟩ : ByteArray) = X at *
            clear h1 HR hl HRD hg ho h40 hf1 he hst
            go_wp2_with fail
            refine Calls.mono (SG.out _ hin) ?_
            rintro e w1 ⟨rfl, hb1⟩
            have hB1 := hb.trans (hb1.mono hb.size)
            have hin1 := hin.below hb1
            clear SG hb1 hb hown hin
            go_wp2_with fail
            refine Calls.mono (LB.out _ hin1) ?_
            rintro e w2 ⟨rfl, hb2⟩
            have hB2 := hB1.trans (hb2.mono hB1.size)
            clear LB hb2 hB1 hin1
            go_wp2
            exact bodyPost_ret (v := .tuple #[.slice none 0 0, .bool false]) (by simp [results, Tryd.results39, go_sem]) rfl (leftI_no HN.out hB2)
        · rw [if_neg (fun h => hg h.1)] at h1
          have HN : Hid (([], false) = r) := h1
          have hgf : M12.good acc = false := by simpa using hg
          rw [hgf] at SG
          clear h1 HR HRD hg hgf
          by_cases hks : k < s.size
          · have ha40 : decide ((acc.length : Int) ≤ 40) = false := by simp; omega
            clear hl
            go_wp2_with fail
            refine Calls.mono (SG.out _ hin) ?_
            rintro e w1 ⟨rfl, hb1⟩
            have hB1 := hb.trans (hb1.mono hb.size)
            clear SG hb1 hb hown hin
            go_wp2
            exact bodyPost_ret (v := .tuple #[.slice none 0 0, .bool false]) (by simp [results, Tryd.results39, go_sem]) rfl (leftI_no HN.out hB1)
          · have hk2 : decide ((k : Int) < (s.size : Int)) = false := by simp; omega
            clear hl
            go_wp2_with fail
            refine Calls.mono (SG.out _ hin) ?_
            rintro e w1 ⟨rfl, hb1⟩
            have hB1 := hb.trans (hb1.mono hb.size)
            clear SG hb1 hb hown hin
            go_wp2
            exact bodyPost_ret (v := .tuple #[.slice none 0 0, .bool false]) (by simp [results, Tryd.results39, go_sem]) rfl (leftI_no HN.out hB1)
  · have HR : Hid (([], false) = M16.read s) := by show _ = _; unfold M16.read; rw [if_neg h400]
    generalize M16.read s = r at *
    go_enter Tryd.func39, Tryd.ntmps39
    go_wp2
    exact bodyPost_ret (v := .tuple #[.slice none 0 0, .bool false]) (by simp [results, Tryd.results39, go_sem]) rfl (leftI_no HR.out (Below.refl _ _))
end Go.Proofs.YtcpfbgogfhlmjaaDoor
