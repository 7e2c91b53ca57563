import Derived.Test.YtdkhjnpdphnigaaRows
import Derived.Test.YtdkhjnpdphnigaaM12
import Derived.Test.YtdkhjnpdphnigaaCL1Value
import Derived.WalkKit
import Derived.WalkSpells
import Derived.WalkLawsBesides
import Derived.Outline
import Derived.Deep.QuietTactic
import Derived.BigQuiet
/- The specification's l2Value at an item that is a number. -/
namespace Go.Proofs.Ytdkhjnpdphnigaa
open Go.RowKit
set_option maxHeartbeats 1600000 in
set_option maxRecDepth 100000 in
theorem l2Value_num (a : Option Addr) (cap : Nat) (xs : List It) (k d : Nat) (w : World) (hl : xs.length ≤ 1048576) (_ : d ≤ 5) (hk : k < xs.length) (hin : M11.ItemsAt w a xs) (h1 : (M11.at_ xs k).kind = 1) (o : M12.O)
    (hy : Hid (M12.leaf (M11.at_ xs k) = true → o = some (1, 0))) (hn : Hid (M12.leaf (M11.at_ xs k) = false → o = none)) :
    Calls Try.prog 29 #[.slice a xs.length cap, .int .i64 (k : Int), .int .i64 (d : Int)] w fun e w' => M12.res k d o e ∧ Below w.heap.size w w' := by
  obtain ⟨b, off, rfl, hlt, c0, c1, c2, c3⟩ := hin.at hk
  have hlf := M12.leaf1 h1
  have hy' := hy.out
  have hn' := hn.out
  rw [hlf] at hy' hn'
  generalize M11.at_ xs k = x at *
  obtain ⟨x0, x1, x2, x3⟩ := x
  simp only at h1 hy' hn' c0 c1 c2 c3
  subst h1
  have HY : Hid _ := hy'
  have HN : Hid _ := hn'
  clear hy' hn' hlf hy hn hin
  have hB : Below w.heap.size w (w.alloc (.cells #[.int .i64 1, .int .i64 x1, .string x2, .int .i64 x3] 43)) := (Below.refl _ w).alloc (Nat.le_refl _) _
  cases hb : okN x1
  · have HR : Hid _ := HN.out (by simp [hb])
    have IN : Hid (∀ W : World, Calls Try.prog 41 #[.int .i64 x1] W fun e w' => e = .returned (.bool false) ∧ W = w') := fun W => by have := l1Value_any x1 W; rwa [hb] at this
    clear hb HY HN
    go_enter Try.func29, Try.ntmps29
    go_wp2
    go_quiet ((go_at_call 41; exact (IN.out _).mono (by rintro e w' ⟨rfl, rfl⟩; exact ⟨rfl, _, rfl⟩)))
    go_wp2
    exact bodyPost_ret (v := .tuple #[.int .i64 ((k : Int) + 1), .int .i64 (d), .bool false]) (by simp [results, Try.results29, go_sem]) rfl ⟨M12.res_no HR.out _ _, below_drewN hB _⟩
  · have IN : Hid (∀ W : World, Calls Try.prog 41 #[.int .i64 x1] W fun e w' => e = .returned (.bool true) ∧ W = w') := fun W => by have := l1Value_any x1 W; rwa [hb] at this
    by_cases ht : x2 = ⟨#[]⟩
    · subst ht
      by_cases hm : x3 = 0
      · subst hm
        have HR : Hid _ := HY.out (by simp [hb])
        clear hb HY HN
        go_enter Try.func29, Try.ntmps29
        go_wp2
        go_quiet ((go_at_call 41; exact (IN.out _).mono (by rintro e w' ⟨rfl, rfl⟩; exact ⟨rfl, _, rfl⟩)))
        go_wp2
        exact bodyPost_ret (v := .tuple #[.int .i64 ((k : Int) + 1), .int .i64 (d), .bool true]) (by simp [results, Try.results29, go_sem]) rfl ⟨M12.res_yes HR.out (by omega) (by omega), below_drewN hB _⟩
      · have HR : Hid _ := HN.out (by simp [hm])
        have hm2 : (x3 == 0) = false := by simp [hm]
        clear hb HY HN hm
        go_enter Try.func29, Try.ntmps29
        go_wp2
        go_quiet ((go_at_call 41; exact (IN.out _).mono (by rintro e w' ⟨rfl, rfl⟩; exact ⟨rfl, _, rfl⟩)))
        go_wp2
        exact bodyPost_ret (v := .tuple #[.int .i64 ((k : Int) + 1), .int .i64 (d), .bool false]) (by simp [results, Try.results29, go_sem]) rfl ⟨M12.res_no HR.out _ _, below_drewN hB _⟩
    · have HR : Hid _ := HN.out (by simp [ht])
      have ht2 : (x2.toList == (⟨#[]⟩ : ByteArray).toList) = false := M8.beq_no ht
      have ht3 : (x2.toList == []) = false := M8.nil_no ht
      clear hb HY HN ht
      go_enter Try.func29, Try.ntmps29
      go_wp2
      go_quiet ((go_at_call 41; exact (IN.out _).mono (by rintro e w' ⟨rfl, rfl⟩; exact ⟨rfl, _, rfl⟩)))
      go_wp2
      exact bodyPost_ret (v := .tuple #[.int .i64 ((k : Int) + 1), .int .i64 (d), .bool false]) (by simp [results, Try.results29, go_sem]) rfl ⟨M12.res_no HR.out _ _, below_drewN hB _⟩
end Go.Proofs.Ytdkhjnpdphnigaa

/- The specification's l2Value at an item that is a text. -/
namespace Go.Proofs.Ytdkhjnpdphnigaa
open Go.RowKit
set_option maxHeartbeats 3200000 in
set_option maxRecDepth 100000 in
theorem l2Value_k2 (a : Option Addr) (cap : Nat) (xs : List It) (k d : Nat) (w : World) (hl : xs.length ≤ 1048576) (_ : d ≤ 5) (hk : k < xs.length) (hts : (M11.at_ xs k).text.size ≤ 1048576) (hin : M11.ItemsAt w a xs) (h1 : (M11.at_ xs k).kind = 2) (o : M12.O)
    (hy : Hid (M12.leaf (M11.at_ xs k) = true → o = some (1, 0))) (hn : Hid (M12.leaf (M11.at_ xs k) = false → o = none)) :
    Calls Try.prog 29 #[.slice a xs.length cap, .int .i64 (k : Int), .int .i64 (d : Int)] w fun e w' => M12.res k d o e ∧ Below w.heap.size w w' := by
  obtain ⟨b, off, rfl, hlt, c0, c1, c2, c3⟩ := hin.at hk
  have hlf := M12.leaf2 h1
  have hy' := hy.out
  have hn' := hn.out
  rw [hlf] at hy' hn'
  generalize M11.at_ xs k = x at *
  obtain ⟨x0, x1, x2, x3⟩ := x
  simp only at h1 hy' hn' c0 c1 c2 c3 hts
  subst h1
  have HY : Hid _ := hy'
  have HN : Hid _ := hn'
  clear hy' hn' hlf hy hn hin
  have hB : Below w.heap.size w (w.alloc (.cells #[.int .i64 2, .int .i64 x1, .string x2, .int .i64 x3] 43)) := (Below.refl _ w).alloc (Nat.le_refl _) _
  go_enter Try.func29, Try.ntmps29
  go_wp2
  go_loop [10] (fun iv => ∃ j : Nat, iv = .int .i64 j ∧ j ≤ x2.size) (fun iv => (x2.size - intOf iv).toNat)
  case atStart => exact ⟨0, rfl, by omega⟩
  case round =>
    obtain ⟨j, rfl, hj⟩ := hrel
    by_cases hjl : j < x2.size
    · go_wp2
      go_round
      case rel => exact ⟨j + 1, by go_num, by omega⟩
      case measure => simp [intOf]; omega
    · obtain rfl : j = x2.size := by omega
      by_cases hs6 : x2.size ≤ 60
      · have ds : decide ((x2.size : Int) ≤ 60) = true := by simp; omega
        by_cases hn0 : x1 = 0
        · subst hn0
          by_cases hm : x3 = 0
          · subst hm
            have HR : Hid _ := HY.out (by simp [hs6])
            clear HY HN hs6
            go_wp2
            go_quiet (fail)
            go_wp2
            exact bodyPost_ret (v := .tuple #[.int .i64 ((k : Int) + 1), .int .i64 (d), .bool true]) (by simp [results, Try.results29, go_sem]) rfl ⟨M12.res_yes HR.out (by omega) (by omega), below_drewN hB _⟩
          · have HR : Hid _ := HN.out (by simp [hm])
            have hm2 : (x3 == 0) = false := by simp [hm]
            clear HY HN hs6 hm
            go_wp2
            go_quiet (fail)
            go_wp2
            exact bodyPost_ret (v := .tuple #[.int .i64 ((k : Int) + 1), .int .i64 (d), .bool false]) (by simp [results, Try.results29, go_sem]) rfl ⟨M12.res_no HR.out _ _, below_drewN hB _⟩
        · have HR : Hid _ := HN.out (by simp [hn0])
          have hn2 : (x1 == 0) = false := by simp [hn0]
          clear HY HN hs6 hn0
          go_wp2
          go_quiet (fail)
          go_wp2
          exact bodyPost_ret (v := .tuple #[.int .i64 ((k : Int) + 1), .int .i64 (d), .bool false]) (by simp [results, Try.results29, go_sem]) rfl ⟨M12.res_no HR.out _ _, below_drewN hB _⟩
      · have ds : decide ((x2.size : Int) ≤ 60) = false := by simp; omega
        have HR : Hid _ := HN.out (by simp [hs6])
        clear HY HN hs6
        go_wp2
        go_quiet (fail)
        go_wp2
        exact bodyPost_ret (v := .tuple #[.int .i64 ((k : Int) + 1), .int .i64 (d), .bool false]) (by simp [results, Try.results29, go_sem]) rfl ⟨M12.res_no HR.out _ _, below_drewN hB _⟩
set_option maxHeartbeats 3200000 in
set_option maxRecDepth 100000 in
theorem l2Value_k3 (a : Option Addr) (cap : Nat) (xs : List It) (k d : Nat) (w : World) (hl : xs.length ≤ 1048576) (_ : d ≤ 5) (hk : k < xs.length) (hts : (M11.at_ xs k).text.size ≤ 1048576) (hin : M11.ItemsAt w a xs) (h1 : (M11.at_ xs k).kind = 3) (o : M12.O)
    (hy : Hid (M12.leaf (M11.at_ xs k) = true → o = some (1, 0))) (hn : Hid (M12.leaf (M11.at_ xs k) = false → o = none)) :
    Calls Try.prog 29 #[.slice a xs.length cap, .int .i64 (k : Int), .int .i64 (d : Int)] w fun e w' => M12.res k d o e ∧ Below w.heap.size w w' := by
  obtain ⟨b, off, rfl, hlt, c0, c1, c2, c3⟩ := hin.at hk
  have hlf := M12.leaf3 h1
  have hy' := hy.out
  have hn' := hn.out
  rw [hlf] at hy' hn'
  generalize M11.at_ xs k = x at *
  obtain ⟨x0, x1, x2, x3⟩ := x
  simp only at h1 hy' hn' c0 c1 c2 c3 hts
  subst h1
  have HY : Hid _ := hy'
  have HN : Hid _ := hn'
  clear hy' hn' hlf hy hn hin
  have hB : Below w.heap.size w (w.alloc (.cells #[.int .i64 3, .int .i64 x1, .string x2, .int .i64 x3] 43)) := (Below.refl _ w).alloc (Nat.le_refl _) _
  go_enter Try.func29, Try.ntmps29
  go_wp2
  go_loop [10] (fun iv => ∃ j : Nat, iv = .int .i64 j ∧ j ≤ x2.size ∧ Hid (∀ i, i < j → 32 ≤ M3.gb x2 i ∧ M3.gb x2 i ≤ 126)) (fun iv => (x2.size - intOf iv).toNat)
  case atStart => exact ⟨0, rfl, by omega, show Hid _ from fun i hi => by omega⟩
  case round =>
    obtain ⟨j, rfl, hj, hP⟩ := hrel
    by_cases hjl : j < x2.size
    · have hg := M3.gb_eq x2 j hjl
      have hlt2 := M3.gb_lt x2 j
      have HP1 : Hid _ := fun (h : 32 ≤ M3.gb x2 j ∧ M3.gb x2 j ≤ 126) i (hi : i < j + 1) => (if e : i = j then e ▸ h else hP.out i (by omega) : 32 ≤ M3.gb x2 i ∧ M3.gb x2 i ≤ 126)
      have HP2 : Hid _ := fun h => M12.plain_no (s := x2) hjl h
      generalize M3.gb x2 j = c at *
      by_cases h32 : c < 32
      · have HR : Hid _ := HN.out (by rw [HP2.out (by omega)]; simp)
        clear HP1 HP2 hP HY HN
        go_wp2
        exact bodyPost_ret (v := .tuple #[.int .i64 (0), .int .i64 (0), .bool false]) (by simp [results, Try.results29, go_sem]) rfl ⟨M12.res_no HR.out _ _, hB⟩
      · by_cases h126 : 126 < c
        · have HR : Hid _ := HN.out (by rw [HP2.out (by omega)]; simp)
          clear HP1 HP2 hP HY HN
          go_wp2
          exact bodyPost_ret (v := .tuple #[.int .i64 (0), .int .i64 (0), .bool false]) (by simp [results, Try.results29, go_sem]) rfl ⟨M12.res_no HR.out _ _, hB⟩
        · have HP : Hid _ := HP1.out (by omega)
          clear HP1 HP2 hP HY HN
          go_wp2
          go_round
          case rel => exact ⟨_, _, _, .int .i64 ((j : Int) + 1), ⟨j + 1, by go_num, by omega, HP⟩, rfl, rfl, rfl, rfl⟩
          case measure => simp [intOf]; omega
    · obtain rfl : j = x2.size := by omega
      have HPl : Hid _ := M12.plain_yes hP.out
      clear hP
      by_cases hs6 : x2.size ≤ 60
      · have ds : decide ((x2.size : Int) ≤ 60) = true := by simp; omega
        by_cases hn0 : x1 = 0
        · subst hn0
          by_cases hm : x3 = 0
          · subst hm
            have HR : Hid _ := HY.out (by rw [HPl.out]; simp [hs6])
            clear HY HN hs6
            go_wp2
            go_quiet (fail)
            go_wp2
            exact bodyPost_ret (v := .tuple #[.int .i64 ((k : Int) + 1), .int .i64 (d), .bool true]) (by simp [results, Try.results29, go_sem]) rfl ⟨M12.res_yes HR.out (by omega) (by omega), below_drewN hB _⟩
          · have HR : Hid _ := HN.out (by simp [hm])
            have hm2 : (x3 == 0) = false := by simp [hm]
            clear HY HN hs6 hm
            go_wp2
            go_quiet (fail)
            go_wp2
            exact bodyPost_ret (v := .tuple #[.int .i64 ((k : Int) + 1), .int .i64 (d), .bool false]) (by simp [results, Try.results29, go_sem]) rfl ⟨M12.res_no HR.out _ _, below_drewN hB _⟩
        · have HR : Hid _ := HN.out (by simp [hn0])
          have hn2 : (x1 == 0) = false := by simp [hn0]
          clear HY HN hs6 hn0
          go_wp2
          go_quiet (fail)
          go_wp2
          exact bodyPost_ret (v := .tuple #[.int .i64 ((k : Int) + 1), .int .i64 (d), .bool false]) (by simp [results, Try.results29, go_sem]) rfl ⟨M12.res_no HR.out _ _, below_drewN hB _⟩
      · have ds : decide ((x2.size : Int) ≤ 60) = false := by simp; omega
        have HR : Hid _ := HN.out (by simp [hs6])
        clear HY HN hs6
        go_wp2
        go_quiet (fail)
        go_wp2
        exact bodyPost_ret (v := .tuple #[.int .i64 ((k : Int) + 1), .int .i64 (d), .bool false]) (by simp [results, Try.results29, go_sem]) rfl ⟨M12.res_no HR.out _ _, below_drewN hB _⟩
end Go.Proofs.Ytdkhjnpdphnigaa

/- The specification's l2Value at an item that is a list's, and at any. -/
namespace Go.Proofs.Ytdkhjnpdphnigaa
open Go.RowKit
/-- What l2Value says, r lists within one another at most. -/
def L2V (r : Nat) : Prop := ∀ (a : Option Addr) (cap : Nat) (xs : List It) (k d : Nat) (w : World), xs.length ≤ 1048576 → d + r = 5 → k ≤ xs.length → Hid (M11.Wf xs) → M11.ItemsAt w a xs →
    Calls Try.prog 29 #[.slice a xs.length cap, .int .i64 (k : Int), .int .i64 (d : Int)] w fun e w' => M12.res k d (M12.vl r (xs.drop k)) e ∧ Below w.heap.size w w'
theorem res_some {k d c D : Nat} {o : M12.O} {e : Ending} (h : M12.res k d o e) (ho : o = some (c, D)) : e = .returned (.tuple #[.int .i64 ((k + c : Nat) : Int), .int .i64 ((d + D : Nat) : Int), .bool true]) := by rw [ho] at h; exact h
theorem res_none {k d : Nat} {o : M12.O} {e : Ending} (h : M12.res k d o e) (ho : o = none) : ∃ p q : Int, e = .returned (.tuple #[.int .i64 p, .int .i64 q, .bool false]) := by rw [ho] at h; exact h
set_option maxHeartbeats 3200000 in
set_option maxRecDepth 100000 in
theorem l2Value_list (r : Nat) (ih : Hid (∀ r', r = r' + 1 → L2V r')) (a : Option Addr) (cap : Nat) (xs : List It) (k d : Nat) (w : World) (hl : xs.length ≤ 1048576) (hd : d + r = 5) (hk : k < xs.length)
    (hts : Hid (M11.Wf xs)) (hin : M11.ItemsAt w a xs) (h1 : (M11.at_ xs k).kind = 4) :
    Calls Try.prog 29 #[.slice a xs.length cap, .int .i64 (k : Int), .int .i64 (d : Int)] w fun e w' => M12.res k d (M12.vl r (xs.drop k)) e ∧ Below w.heap.size w w' := by
  have hm64 := (hts.out k hk).2
  obtain ⟨b, off, rfl, hlt, c0, c1, c2, c3⟩ := hin.at hk
  have hdr := M12.drop_cons hk
  have hlf : M12.leaf (M11.at_ xs k) = false := M12.leaf0 (by omega) (by omega) (by omega)
  have hls := M12.lst4 h1
  rw [hdr]
  clear hdr
  generalize M11.at_ xs k = x at *
  obtain ⟨x0, x1, x2, x3⟩ := x
  simp only at h1 hls c0 c1 c2 c3 hm64
  subst h1
  have hB : Below w.heap.size w (w.alloc (.cells #[.int .i64 4, .int .i64 x1, .string x2, .int .i64 x3] 43)) := (Below.refl _ w).alloc (Nat.le_refl _) _
  by_cases hok : x1 = 0 ∧ x2 = ⟨#[]⟩ ∧ 0 ≤ x3
  · obtain ⟨rfl, rfl, h30⟩ := hok
    obtain ⟨x3, rfl⟩ := Int.eq_ofNat_of_zero_le h30
    have hls' : M12.lst ⟨4, 0, ⟨#[]⟩, (x3 : Int)⟩ = true := by rw [hls]; simp
    clear hls hlf
    cases r with
    | zero =>
      have HR : Hid _ := M12.vl_deep (l := xs.drop (k + 1)) (M12.lst_leaf hls')
      obtain rfl : d = 5 := by omega
      clear hls' ih
      go_enter Try.func29, Try.ntmps29
      go_wp2
      exact bodyPost_ret (v := .tuple #[.int .i64 (0), .int .i64 (0), .bool false]) (by simp [results, Try.results29, go_sem]) rfl ⟨M12.res_no HR.out _ _, hB⟩
    | succ r =>
      have IH : Hid (L2V r) := ih.out r rfl
      have HLS : Hid _ := hls'
      have d5 : ((d : Int) == 5) = false := by simp; omega
      clear hls' ih
      have hin1 := hin.below hB
      go_enter Try.func29, Try.ntmps29
      go_wp2
      generalize hw1 : w.alloc (.cells #[.int .i64 4, .int .i64 0, .string ⟨#[]⟩, .int .i64 (x3 : Int)] 43) = w1 at *
      have hc3 : w1.cell? ⟨w.heap.size, 3, none⟩ = some (.int .i64 (x3 : Int)) := by rw [← hw1]; simp
      have hsz1 : w.heap.size < w1.heap.size := by rw [← hw1]; simp
      clear hw1 hin c0 c1 c2 c3
      go_loopw [11, 12, 13] (fun mv ev kv wr => ∃ j c D : Nat, mv = .int .i64 ((d + 1 + D : Nat) : Int) ∧ ev = .int .i64 ((k + 1 + c : Nat) : Int) ∧ kv = .int .i64 (j : Int) ∧ j ≤ x3 ∧ Hid (M12.nOf (M12.vl r) j (xs.drop (k + 1)) = some (c, D)) ∧ c ≤ xs.length ∧ k + 1 + c ≤ xs.length ∧ D ≤ 5 ∧ Below w1.heap.size w1 wr) (fun _ _ kv _ => (x3 - intOf kv).toNat)
      case atStart => exact ⟨0, 0, 0, by go_num, by go_num, rfl, by omega, show Hid _ from rfl, by omega, by omega, by omega, Below.refl _ _⟩
      case round =>
        obtain ⟨j, c, D, rfl, rfl, rfl, hj, hN, hcx, hkc, hD5, hb⟩ := hrel
        have hcc : wr.cell? ⟨w.heap.size, 3, none⟩ = some (.int .i64 (x3 : Int)) := (hb.cell hsz1).trans hc3
        by_cases hjl : j < x3
        · have CC : Hid _ := IH.out (some ⟨b, off, none⟩) cap xs (k + 1 + c) (d + 1) wr hl (by omega) hkc hts (hin1.below hb)
          have hdd : (xs.drop (k + 1)).drop c = xs.drop (k + 1 + c) := by rw [List.drop_drop]
          have HN1 : Hid _ := fun h => M12.nOf_stop hN.out (by rw [hdd]; exact h) hjl
          have HN2 : Hid _ := fun c' d' h => M12.nOf_next (c' := c') (d' := d') hN.out (by rw [hdd]; exact h)
          have HL : Hid _ := fun c' d' => M12.vl_len r (xs.drop (k + 1 + c)) c' d'
          have HD : Hid _ := fun c' d' => M12.vl_dep r (xs.drop (k + 1 + c)) c' d'
          have hlen : (xs.drop (k + 1 + c)).length = xs.length - (k + 1 + c) := List.length_drop
          have HLn : Hid _ := hlen
          clear hN hin1 hdd hlen
          generalize hO : M12.vl r (xs.drop (k + 1 + c)) = O at *
          clear hO
          go_wp2_with fail
          refine Calls.mono CC.out ?_
          rintro e w2 ⟨he, hb2⟩
          have hBw := hb.trans (hb2.mono hb.size)
          clear CC hb2 hb hcc
          cases O with
          | none =>
            obtain ⟨p, q, rfl⟩ := res_none he rfl
            have HR : Hid _ := M12.vl_list_no HLS.out (by simpa using HN1.out rfl)
            have hBB : Below w.heap.size w w2 := hB.trans (hBw.mono (by omega))
            clear HN1 HN2 HL HD IH
            go_wp2
            exact bodyPost_ret (v := .tuple #[.int .i64 (0), .int .i64 (0), .bool false]) (by simp [results, Try.results29, go_sem]) rfl ⟨M12.res_no HR.out _ _, hBB⟩
          | some q =>
            obtain ⟨c', D'⟩ := q
            obtain rfl := res_some he rfl
            have hNN : Hid _ := HN2.out c' D' rfl
            have hl1 := HL.out c' D' rfl
            have hd1 := HD.out c' D' rfl
            rw [HLn.out] at hl1
            clear HN1 HN2 HL HD he IH HLn
            have hcc2 : w2.cell? ⟨w.heap.size, 3, none⟩ = some (.int .i64 (x3 : Int)) := (hBw.cell hsz1).trans hc3
            by_cases hDD : D < D'
            · have hmx : max D D' = D' := by omega
              rw [hmx] at hNN
              go_wp2
              go_roundw
              case rel => exact ⟨j + 1, c + c', D', by go_num, by go_num, by go_num, by omega, hNN, by omega, by omega, by omega, hBw⟩
              case measure => simp [intOf]; omega
            · have hmx : max D D' = D := by omega
              rw [hmx] at hNN
              go_wp2
              go_roundw
              case rel => exact ⟨j + 1, c + c', D, by go_num, by go_num, by go_num, by omega, hNN, by omega, by omega, by omega, hBw⟩
              case measure => simp [intOf]; omega
        · obtain rfl : j = x3 := by omega
          have HR : Hid _ := M12.vl_list_yes HLS.out (c := c) (d := D) (by simpa using hN.out)
          have hBB : Below w.heap.size w wr := hB.trans (hb.mono (by omega))
          clear hN IH hin1
          go_wp2
          exact bodyPost_ret (v := .tuple #[.int .i64 (((k + 1 + c : Nat) : Int)), .int .i64 (((d + 1 + D : Nat) : Int)), .bool true]) (by simp [results, Try.results29, go_sem]) rfl ⟨M12.res_yes HR.out (by omega) (by omega), hBB⟩
  · have hlf2 : M12.lst ⟨4, x1, x2, x3⟩ = false := by
      rw [hls]
      by_cases e1 : x1 = 0
      · by_cases e2 : x2 = ⟨#[]⟩
        · have e3 : ¬ 0 ≤ x3 := fun h => hok ⟨e1, e2, h⟩
          simp [e3]
        · simp [e2]
      · simp [e1]
    have HR : Hid _ := M12.vl_bad (l := xs.drop (k + 1)) r hlf hlf2
    clear hlf hls hlf2 ih hin hts
    by_cases e1 : x1 = 0
    · subst e1
      by_cases e2 : x2 = ⟨#[]⟩
      · subst e2
        have e3 : x3 < 0 := by
          by_cases h : 0 ≤ x3
          · exact absurd ⟨rfl, rfl, h⟩ hok
          · omega
        clear hok
        go_enter Try.func29, Try.ntmps29
        go_wp2
        exact bodyPost_ret (v := .tuple #[.int .i64 (0), .int .i64 (0), .bool false]) (by simp [results, Try.results29, go_sem]) rfl ⟨M12.res_no HR.out _ _, hB⟩
      · have e2a : (x2.toList == (⟨#[]⟩ : ByteArray).toList) = false := M8.beq_no e2
        have e2b : (x2.toList == []) = false := M8.nil_no e2
        clear hok e2
        go_enter Try.func29, Try.ntmps29
        go_wp2
        exact bodyPost_ret (v := .tuple #[.int .i64 (0), .int .i64 (0), .bool false]) (by simp [results, Try.results29, go_sem]) rfl ⟨M12.res_no HR.out _ _, hB⟩
    · have e1a : (x1 == 0) = false := by simp [e1]
      clear hok
      go_enter Try.func29, Try.ntmps29
      go_wp2
      exact bodyPost_ret (v := .tuple #[.int .i64 (0), .int .i64 (0), .bool false]) (by simp [results, Try.results29, go_sem]) rfl ⟨M12.res_no HR.out _ _, hB⟩
set_option maxHeartbeats 800000 in
set_option maxRecDepth 100000 in
theorem l2Value_step (r : Nat) (ih : Hid (∀ r', r = r' + 1 → L2V r')) : L2V r := by
  intro a cap xs k d w hl hd hk hts hin
  by_cases hkl : k < xs.length
  · have hdr := M12.drop_cons hkl
    by_cases h4 : (M11.at_ xs k).kind = 4
    · exact l2Value_list r ih a cap xs k d w hl hd hkl hts hin h4
    · have hy : Hid (M12.leaf (M11.at_ xs k) = true → M12.vl r (xs.drop k) = some (1, 0)) := fun h => by rw [hdr]; exact M12.vl_leaf r h
      have hn : Hid (M12.leaf (M11.at_ xs k) = false → M12.vl r (xs.drop k) = none) := fun h => by rw [hdr]; exact M12.vl_bad r h (M12.lst0 h4)
      by_cases h1 : (M11.at_ xs k).kind = 1
      · exact l2Value_num a cap xs k d w hl (by omega) hkl hin h1 _ hy hn
      · by_cases h2 : (M11.at_ xs k).kind = 2
        · exact l2Value_k2 a cap xs k d w hl (by omega) hkl (hts.out k hkl).1 hin h2 _ hy hn
        · by_cases h3 : (M11.at_ xs k).kind = 3
          · exact l2Value_k3 a cap xs k d w hl (by omega) hkl (hts.out k hkl).1 hin h3 _ hy hn
          · have HR : Hid _ := hn.out (M12.leaf0 h1 h2 h3)
            obtain ⟨b, off, rfl, hlt, c0, c1, c2, c3⟩ := hin.at hkl
            clear hy hn hdr hin hts ih
            generalize M11.at_ xs k = x at *
            obtain ⟨x0, x1, x2, x3⟩ := x
            simp only at h1 h2 h3 h4 c0 c1 c2 c3
            have e1 : (x0 == 1) = false := by simp [h1]
            have e2 : (x0 == 2) = false := by simp [h2]
            have e3 : (x0 == 3) = false := by simp [h3]
            have e4 : (x0 == 4) = false := by simp [h4]
            clear h1 h2 h3 h4
            go_enter Try.func29, Try.ntmps29
            go_wp2
            exact bodyPost_ret (v := .tuple #[.int .i64 (0), .int .i64 (0), .bool false]) (by simp [results, Try.results29, go_sem]) rfl ⟨M12.res_no HR.out _ _, (Below.refl _ w).alloc (Nat.le_refl _) _⟩
  · obtain rfl : k = xs.length := by omega
    have HR : Hid (M12.vl r (xs.drop xs.length) = none) := by show _ = _; rw [List.drop_length]; exact M12.vl_nil r
    clear hin hts ih
    go_enter Try.func29, Try.ntmps29
    go_wp2
    exact bodyPost_ret (v := .tuple #[.int .i64 (0), .int .i64 (0), .bool false]) (by simp [results, Try.results29, go_sem]) rfl ⟨M12.res_no HR.out _ _, Below.refl _ _⟩
theorem l2Value_any (r : Nat) : L2V r := by
  induction r with
  | zero => exact l2Value_step 0 (fun r' h => by omega)
  | succ r ih => exact l2Value_step (r + 1) (fun r' h => by obtain rfl : r' = r := by omega
                                                            exact ih)
end Go.Proofs.Ytdkhjnpdphnigaa
