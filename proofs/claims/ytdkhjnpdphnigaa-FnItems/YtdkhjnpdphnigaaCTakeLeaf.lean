/- impl.takeValue at an item that is a number, or a text. -/
import Derived.Test.YtdkhjnpdphnigaaRows
import Derived.Test.YtdkhjnpdphnigaaM14
import Derived.Test.YtdkhjnpdphnigaaCIsNumber
import Derived.Test.YtdkhjnpdphnigaaCIsStr
import Derived.Test.YtdkhjnpdphnigaaMRH
import Derived.WalkKit
import Derived.WalkSpells
import Derived.WalkLawsBesides
import Derived.Outline
import Derived.Deep.QuietTactic
import Derived.BigQuiet
import Derived.Deep.RegionHeld3
namespace Go.Proofs.Ytdkhjnpdphnigaa
open Go.RowKit
set_option maxHeartbeats 3200000 in
set_option maxRecDepth 100000 in
theorem takeValue_num (r : Nat) (a : Option Addr) (cap : Nat) (xs : List It) (k d : Nat) (w : World) (hl : xs.length ≤ 1048576) (_ : d ≤ 5) (hk : k < xs.length) (hin : M11.ItemsAt w a xs) (h1 : (M11.at_ xs k).kind = 1) (o : M12.O)
    (hy : Hid (M12.leaf (M11.at_ xs k) = true → o = some (1, 0))) (hn : Hid (M12.leaf (M11.at_ xs k) = false → o = none)) :
    Calls Try.prog 43 #[.slice a xs.length cap, .int .i64 (k : Int), .int .i64 (d : Int)] w fun e w' => M14.TRes r w' w.heap.size k (xs.drop k) o e ∧ Below w.heap.size w w' := by
  have hdr := M12.drop_cons hk
  obtain ⟨b, off, rfl, hlt, c0, c1, c2, c3⟩ := hin.at hk
  have hlf := M12.leaf1 h1
  have hy' := hy.out
  have hn' := hn.out
  rw [hlf] at hy' hn'
  have HT : Hid ((xs.drop k).take 1 = [M11.at_ xs k]) := by show _ = _; rw [hdr]; rfl
  clear hdr
  generalize M11.at_ xs k = x at *
  obtain ⟨x0, x1, x2, x3⟩ := x
  simp only at h1 hy' hn' c0 c1 c2 c3
  subst h1
  have HY : Hid _ := hy'
  have HN : Hid _ := hn'
  clear hy' hn' hlf hy hn hin
  have hB : Below w.heap.size w (w.alloc (.cells #[.int .i64 1, .int .i64 x1, .string x2, .int .i64 x3] 43)) := (Below.refl _ w).alloc (Nat.le_refl _) _
  cases hb : okN x1
  · have HR : Hid _ := HN.out (by simp [hb])
    have IN : Hid (∀ W : World, Calls Try.prog 38 #[.int .i64 x1] W fun e w' => e = .returned (.bool false) ∧ W = w') := fun W => by have := isNumber_any x1 W; rwa [hb] at this
    clear hb HY HN
    go_enter Try.func43, Try.ntmps43
    go_wp2
    go_quiet ((go_at_call 38; exact (IN.out _).mono (by rintro e w' ⟨rfl, rfl⟩; exact ⟨rfl, _, rfl⟩)))
    go_wp2
    exact bodyPost_ret (v := .tuple #[.iface 79 (.int .i64 x1), .int .i64 ((k : Int) + 1), .bool false]) (by simp [results, Try.results43, go_sem]) rfl ⟨M14.TRes.no HR.out _ _, below_drewN hB _⟩
  · have IN : Hid (∀ W : World, Calls Try.prog 38 #[.int .i64 x1] W fun e w' => e = .returned (.bool true) ∧ W = w') := fun W => by have := isNumber_any x1 W; rwa [hb] at this
    by_cases ht : x2 = ⟨#[]⟩
    · subst ht
      by_cases hm : x3 = 0
      · subst hm
        have HR : Hid _ := HY.out (by simp [hb])
        clear hb HY HN
        go_enter Try.func43, Try.ntmps43
        go_wp2
        go_quiet ((go_at_call 38; exact (IN.out _).mono (by rintro e w' ⟨rfl, rfl⟩; exact ⟨rfl, _, rfl⟩)))
        go_wp2
        exact bodyPost_ret (v := .tuple #[.iface 79 (.int .i64 x1), .int .i64 ((k : Int) + 1), .bool true]) (by simp [results, Try.results43, go_sem]) rfl ⟨M14.TRes.yes HR.out (by omega) HT.out (M14.VAt.num _ _ _ _), below_drewN hB _⟩
      · have HR : Hid _ := HN.out (by simp [hm])
        have hm2 : (x3 == 0) = false := by simp [hm]
        clear hb HY HN hm
        go_enter Try.func43, Try.ntmps43
        go_wp2
        go_quiet ((go_at_call 38; exact (IN.out _).mono (by rintro e w' ⟨rfl, rfl⟩; exact ⟨rfl, _, rfl⟩)))
        go_wp2
        exact bodyPost_ret (v := .tuple #[.iface 79 (.int .i64 x1), .int .i64 ((k : Int) + 1), .bool false]) (by simp [results, Try.results43, go_sem]) rfl ⟨M14.TRes.no HR.out _ _, below_drewN hB _⟩
    · have HR : Hid _ := HN.out (by simp [ht])
      have ht2 : (x2.toList == (⟨#[]⟩ : ByteArray).toList) = false := M8.beq_no ht
      have ht3 : (x2.toList == []) = false := M8.nil_no ht
      clear hb HY HN ht
      go_enter Try.func43, Try.ntmps43
      go_wp2
      go_quiet ((go_at_call 38; exact (IN.out _).mono (by rintro e w' ⟨rfl, rfl⟩; exact ⟨rfl, _, rfl⟩)))
      go_wp2
      exact bodyPost_ret (v := .tuple #[.iface 79 (.int .i64 x1), .int .i64 ((k : Int) + 1), .bool false]) (by simp [results, Try.results43, go_sem]) rfl ⟨M14.TRes.no HR.out _ _, below_drewN hB _⟩
set_option maxHeartbeats 3200000 in
set_option maxRecDepth 100000 in
theorem takeValue_k2 (r : Nat) (a : Option Addr) (cap : Nat) (xs : List It) (k d : Nat) (w : World) (hl : xs.length ≤ 1048576) (_ : d ≤ 5) (hk : k < xs.length) (hts : (M11.at_ xs k).text.size ≤ 1048576) (hin : M11.ItemsAt w a xs) (h1 : (M11.at_ xs k).kind = 2) (o : M12.O)
    (hy : Hid (M12.leaf (M11.at_ xs k) = true → o = some (1, 0))) (hn : Hid (M12.leaf (M11.at_ xs k) = false → o = none)) :
    Calls Try.prog 43 #[.slice a xs.length cap, .int .i64 (k : Int), .int .i64 (d : Int)] w fun e w' => M14.TRes r w' w.heap.size k (xs.drop k) o e ∧ Below w.heap.size w w' := by
  have hdr := M12.drop_cons hk
  obtain ⟨b, off, rfl, hlt, c0, c1, c2, c3⟩ := hin.at hk
  have hlf := M12.leaf2 h1
  have hy' := hy.out
  have hn' := hn.out
  rw [hlf] at hy' hn'
  have HT : Hid ((xs.drop k).take 1 = [M11.at_ xs k]) := by show _ = _; rw [hdr]; rfl
  clear hdr
  generalize M11.at_ xs k = x at *
  obtain ⟨x0, x1, x2, x3⟩ := x
  simp only at h1 hy' hn' c0 c1 c2 c3 hts
  subst h1
  have HY : Hid _ := hy'
  have HN : Hid _ := hn'
  clear hy' hn' hlf hy hn hin
  have hB : Below w.heap.size w (w.alloc (.cells #[.int .i64 2, .int .i64 x1, .string x2, .int .i64 x3] 43)) := (Below.refl _ w).alloc (Nat.le_refl _) _
  have IS : Hid (∀ W : World, Calls Try.prog 50 #[.agg #[.int .i64 2, .int .i64 x1, .string x2, .int .i64 x3]] W fun e w' => e = .returned (.bool (strOk ⟨2, x1, x2, x3⟩)) ∧ Below W.heap.size W w') := fun W => isStringItem_any ⟨2, x1, x2, x3⟩ W hts
  cases hbq : strOk ⟨2, x1, x2, x3⟩
  · rw [hbq] at IS
    have HR : Hid _ := HN.out (by rw [← hbq]; rfl)
    clear hbq HY HN
    go_enter Try.func43, Try.ntmps43
    go_wp2
    go_region_held3 (fun w' => w'.cell? ⟨w.heap.size, 0, none⟩ = some (.int .i64 2) ∧ w'.cell? ⟨w.heap.size, 1, none⟩ = some (.int .i64 x1) ∧ w'.cell? ⟨w.heap.size, 2, none⟩ = some (.string x2) ∧ w'.cell? ⟨w.heap.size, 3, none⟩ = some (.int .i64 x3)) (go_keep) (first | (go_at_call 50; refine Calls.mono (IS.out _) ?_; rintro e w2 ⟨rfl, hb2⟩; have p0 : w2.cell? ⟨w.heap.size, 0, none⟩ = some (.int .i64 2) := (hb2.cell (by simp)).trans (by simp); have p1 : w2.cell? ⟨w.heap.size, 1, none⟩ = some (.int .i64 x1) := (hb2.cell (by simp)).trans (by simp); have p2 : w2.cell? ⟨w.heap.size, 2, none⟩ = some (.string x2) := (hb2.cell (by simp)).trans (by simp); have p3 : w2.cell? ⟨w.heap.size, 3, none⟩ = some (.int .i64 x3) := (hb2.cell (by simp)).trans (by simp)))
    have hB2 : Below w.heap.size w w2 := hB.drew.trans (hb2.mono (by simp))
    clear hb2 hB IS p0 p1 p2 p3
    go_wp2
    exact bodyPost_ret (v := .tuple #[.iface 74 (.string x2), .int .i64 (IntKind.i64.wrap ((k : Int) + 1)), .bool false]) (by simp [results, Try.results43, go_sem]) rfl ⟨M14.TRes.no HR.out _ _, hB2⟩
  · rw [hbq] at IS
    have HR : Hid _ := HY.out (by rw [← hbq]; rfl)
    have hz : x1 = 0 ∧ x3 = 0 := by simp [strOk] at hbq; exact ⟨hbq.1.2, hbq.2⟩
    obtain ⟨rfl, rfl⟩ := hz
    clear hbq HY HN
    go_enter Try.func43, Try.ntmps43
    go_wp2
    go_region_held3 (fun w' => w'.cell? ⟨w.heap.size, 0, none⟩ = some (.int .i64 2) ∧ w'.cell? ⟨w.heap.size, 1, none⟩ = some (.int .i64 0) ∧ w'.cell? ⟨w.heap.size, 2, none⟩ = some (.string x2) ∧ w'.cell? ⟨w.heap.size, 3, none⟩ = some (.int .i64 0)) (go_keep) (first | (go_at_call 50; refine Calls.mono (IS.out _) ?_; rintro e w2 ⟨rfl, hb2⟩; have p0 : w2.cell? ⟨w.heap.size, 0, none⟩ = some (.int .i64 2) := (hb2.cell (by simp)).trans (by simp); have p1 : w2.cell? ⟨w.heap.size, 1, none⟩ = some (.int .i64 0) := (hb2.cell (by simp)).trans (by simp); have p2 : w2.cell? ⟨w.heap.size, 2, none⟩ = some (.string x2) := (hb2.cell (by simp)).trans (by simp); have p3 : w2.cell? ⟨w.heap.size, 3, none⟩ = some (.int .i64 0) := (hb2.cell (by simp)).trans (by simp)))
    have hB2 : Below w.heap.size w w2 := hB.drew.trans (hb2.mono (by simp))
    clear hb2 hB IS p0 p1 p2 p3
    go_wp2
    exact bodyPost_ret (v := .tuple #[.iface 74 (.string x2), .int .i64 (IntKind.i64.wrap ((k : Int) + 1)), .bool true]) (by simp [results, Try.results43, go_sem]) rfl ⟨M14.TRes.yes HR.out (by rw [IntKind.wrap_i64]; omega) HT.out (M14.VAt.byt _ _ _ _), hB2⟩
set_option linter.unusedSimpArgs false in
set_option maxHeartbeats 3200000 in
set_option maxRecDepth 100000 in
theorem takeValue_k3 (r : Nat) (a : Option Addr) (cap : Nat) (xs : List It) (k d : Nat) (w : World) (hl : xs.length ≤ 1048576) (_ : d ≤ 5) (hk : k < xs.length) (hts : (M11.at_ xs k).text.size ≤ 1048576) (hin : M11.ItemsAt w a xs) (h1 : (M11.at_ xs k).kind = 3) (o : M12.O)
    (hy : Hid (M12.leaf (M11.at_ xs k) = true → o = some (1, 0))) (hn : Hid (M12.leaf (M11.at_ xs k) = false → o = none)) :
    Calls Try.prog 43 #[.slice a xs.length cap, .int .i64 (k : Int), .int .i64 (d : Int)] w fun e w' => M14.TRes r w' w.heap.size k (xs.drop k) o e ∧ Below w.heap.size w w' := by
  have hdr := M12.drop_cons hk
  obtain ⟨b, off, rfl, hlt, c0, c1, c2, c3⟩ := hin.at hk
  have hlf := M12.leaf3 h1
  have hy' := hy.out
  have hn' := hn.out
  rw [hlf] at hy' hn'
  have HT : Hid ((xs.drop k).take 1 = [M11.at_ xs k]) := by show _ = _; rw [hdr]; rfl
  clear hdr
  generalize M11.at_ xs k = x at *
  obtain ⟨x0, x1, x2, x3⟩ := x
  simp only at h1 hy' hn' c0 c1 c2 c3 hts
  subst h1
  have HY : Hid _ := hy'
  have HN : Hid _ := hn'
  clear hy' hn' hlf hy hn hin
  have hB : Below w.heap.size w (w.alloc (.cells #[.int .i64 3, .int .i64 x1, .string x2, .int .i64 x3] 43)) := (Below.refl _ w).alloc (Nat.le_refl _) _
  have IS : Hid (∀ W : World, Calls Try.prog 50 #[.agg #[.int .i64 3, .int .i64 x1, .string x2, .int .i64 x3]] W fun e w' => e = .returned (.bool (strOk ⟨3, x1, x2, x3⟩)) ∧ Below W.heap.size W w') := fun W => isStringItem_any ⟨3, x1, x2, x3⟩ W hts
  cases hbq : strOk ⟨3, x1, x2, x3⟩
  · rw [hbq] at IS
    have HR : Hid _ := HN.out (by
      have : (decide (x2.size ≤ 60) && decide (x1 = 0) && decide (x3 = 0)) = false := hbq
      rw [this]; rfl)
    clear hbq HY HN
    go_enter Try.func43, Try.ntmps43
    go_wp2
    refine MR.frame fun A hA => ?_
    have hsz : A.tmps.size = 93 := by rw [hA]; rfl
    have e1 : A.eval (.tmp 1) = .int .i64 (k : Int) := by rw [hA]; rfl
    have f1 := MR.read (t := 1) (by rw [hsz]; decide) e1
    have e9 : A.eval (.tmp 9) = .pointer (some ⟨w.heap.size, 0, none⟩) := by rw [hA]; rfl
    have f9 := MR.read (t := 9) (by rw [hsz]; decide) e9
    have HA : Hid (A = _) := hA
    clear hA
    refine wp_region_held (S := fun w' => w'.cell? ⟨w.heap.size, 0, none⟩ = some (.int .i64 3) ∧ w'.cell? ⟨w.heap.size, 1, none⟩ = some (.int .i64 x1) ∧ w'.cell? ⟨w.heap.size, 2, none⟩ = some (.string x2) ∧ w'.cell? ⟨w.heap.size, 3, none⟩ = some (.int .i64 x3)) (by kernel_rfl) ?_
    change wpAnyH _ _ _ _ _ _ _ _ (World.drew _)
    have hS : (fun w' : World => w'.cell? ⟨w.heap.size, 0, none⟩ = some (.int .i64 3) ∧ w'.cell? ⟨w.heap.size, 1, none⟩ = some (.int .i64 x1) ∧ w'.cell? ⟨w.heap.size, 2, none⟩ = some (.string x2) ∧ w'.cell? ⟨w.heap.size, 3, none⟩ = some (.int .i64 x3)) (w.alloc (.cells #[.int .i64 3, .int .i64 x1, .string x2, .int .i64 x3] 43)).drew := by simp
    refine MR.takeH (i := 0) (some 51) (.pointer (some ⟨w.heap.size, 2, none⟩)) rfl rfl (by kernel_rfl) (by kernel_rfl) (by kernel_rfl) (fun _ _ _ h => h) hS (MR.free rfl) (fun w hw => by simp [execOp, MR.ev, MR.size, hsz, e1, f1, e9, f9, go_sem]) ?_
    refine MR.takeH (i := 1) (some 52) (.string x2) rfl rfl (by kernel_rfl) (by kernel_rfl) (by kernel_rfl) (fun _ _ _ h => h) hS (MR.free rfl) (fun w hw => by simp [execOp, MR.ev, MR.size, hsz, e1, f1, e9, f9, hw.1, hw.2.1, hw.2.2.1, hw.2.2.2, go_sem]) ?_
    refine MR.takeH (i := 2) (some 53) (.iface 75 (.string x2)) rfl rfl (by kernel_rfl) (by kernel_rfl) (by kernel_rfl) (fun _ _ _ h => h) hS (MR.free rfl) (fun w hw => by simp [execOp, MR.ev, MR.size, hsz, e1, f1, e9, f9, go_sem]) ?_
    refine MR.takeH (i := 3) (some 54) (.int .i64 (k : Int)) rfl rfl (by kernel_rfl) (by kernel_rfl) (by kernel_rfl) (fun _ _ _ h => h) hS (MR.free rfl) (fun w hw => by simp [execOp, MR.ev, MR.size, hsz, e1, f1, e9, f9, go_sem]) ?_
    refine MR.takeH (i := 4) (some 55) (.int .i64 (IntKind.i64.wrap ((k : Int) + 1))) rfl rfl (by kernel_rfl) (by kernel_rfl) (by kernel_rfl) (fun _ _ _ h => h) hS (MR.free rfl) (fun w hw => by simp [execOp, MR.ev, MR.size, hsz, e1, f1, e9, f9, go_sem]) ?_
    refine MR.takeH (i := 5) (some 56) (.agg #[.int .i64 3, .int .i64 x1, .string x2, .int .i64 x3]) rfl rfl (by kernel_rfl) (by kernel_rfl) (by kernel_rfl) (fun _ _ _ h => h) hS (MR.free rfl) (fun w hw => by simp [execOp, MR.ev, MR.size, hsz, e1, f1, e9, f9, hw.1, hw.2.1, hw.2.2.1, hw.2.2.2, go_sem]) ?_
    refine MR.callH (i := 6) (some 57) (50) (#[.agg #[.int .i64 3, .int .i64 x1, .string x2, .int .i64 x3]]) (by kernel_rfl) rfl rfl (MR.free rfl) (by simp [execOp, MR.ev, MR.size, hsz, e1, f1, e9, f9, go_sem]) ?_
    refine Calls.mono (IS.out _) ?_
    rintro e w2 ⟨rfl, hb2⟩
    have hS2 : w2.cell? ⟨w.heap.size, 0, none⟩ = some (.int .i64 3) ∧ w2.cell? ⟨w.heap.size, 1, none⟩ = some (.int .i64 x1) ∧ w2.cell? ⟨w.heap.size, 2, none⟩ = some (.string x2) ∧ w2.cell? ⟨w.heap.size, 3, none⟩ = some (.int .i64 x3) := ⟨(hb2.cell (by simp)).trans hS.1, (hb2.cell (by simp)).trans hS.2.1, (hb2.cell (by simp)).trans hS.2.2.1, (hb2.cell (by simp)).trans hS.2.2.2⟩
    refine ⟨_, rfl, hS2, ?_⟩
    refine MR.takeH (i := 7) (some 58) (.bool false) rfl rfl (by kernel_rfl) (by kernel_rfl) (by kernel_rfl) (fun _ _ _ h => h) hS2 (MR.free rfl) (fun w hw => by simp [execOp, MR.ev, MR.size, hsz, e1, f1, e9, f9, go_sem]) ?_
    refine MR.skipH (i := 8) (some 59) rfl rfl (by kernel_rfl) (by kernel_rfl) (by kernel_rfl) (fun _ _ _ h => h) hS2 (MR.unwant (d := 58) (b' := false) rfl rfl (by simp [MR.size, hsz]) (by simp [MR.ev, MR.size, hsz, e1, f1, e9, f9]) (by decide)) ?_
    refine MR.skipH (i := 9) (some 60) rfl rfl (by kernel_rfl) (by kernel_rfl) (by kernel_rfl) (fun _ _ _ h => h) hS2 (MR.unwant (d := 58) (b' := false) rfl rfl (by simp [MR.size, hsz]) (by simp [MR.ev, MR.size, hsz, e1, f1, e9, f9]) (by decide)) ?_
    refine MR.skipH (i := 10) (some 61) rfl rfl (by kernel_rfl) (by kernel_rfl) (by kernel_rfl) (fun _ _ _ h => h) hS2 (MR.unwant (d := 58) (b' := false) rfl rfl (by simp [MR.size, hsz]) (by simp [MR.ev, MR.size, hsz, e1, f1, e9, f9]) (by decide)) ?_
    refine MR.takeH (i := 11) (some 62) (.bool false) rfl rfl (by kernel_rfl) (by kernel_rfl) (by kernel_rfl) (fun _ _ _ h => h) hS2 (MR.free rfl) (fun w hw => by simp [execOp, MR.ev, MR.size, hsz, e1, f1, e9, f9, go_sem]) ?_
    refine MR.takeH (i := 12) (some 6) (.iface 75 (.string x2)) rfl rfl (by kernel_rfl) (by kernel_rfl) (by kernel_rfl) (fun _ _ _ h => h) hS2 (MR.free rfl) (fun w hw => by simp [execOp, MR.ev, MR.size, hsz, e1, f1, e9, f9, go_sem]) ?_
    refine MR.takeH (i := 13) (some 7) (.int .i64 (IntKind.i64.wrap ((k : Int) + 1))) rfl rfl (by kernel_rfl) (by kernel_rfl) (by kernel_rfl) (fun _ _ _ h => h) hS2 (MR.free rfl) (fun w hw => by simp [execOp, MR.ev, MR.size, hsz, e1, f1, e9, f9, go_sem]) ?_
    refine MR.takeH (i := 14) (some 8) (.bool false) rfl rfl (by kernel_rfl) (by kernel_rfl) (by kernel_rfl) (fun _ _ _ h => h) hS2 (MR.free rfl) (fun w hw => by simp [execOp, MR.ev, MR.size, hsz, e1, f1, e9, f9, go_sem]) ?_
    refine wpAnyH_done (by kernel_rfl) ?_ _
    have hB2 : Below w.heap.size w w2 := hB.drew.trans (hb2.mono (by simp))
    rw [HA.out]
    clear hb2 hB IS hS hS2 HA f1 f9 e1 e9 hsz
    simp only [Act.put, List.setIfInBounds_toArray, List.set_cons_succ, List.set_cons_zero]
    go_wp2
    exact bodyPost_ret (v := .tuple #[.iface 75 (.string x2), .int .i64 (IntKind.i64.wrap ((k : Int) + 1)), .bool false]) (by simp [results, Try.results43, go_sem]) rfl ⟨M14.TRes.no HR.out _ _, hB2⟩
  · rw [hbq] at IS
    have hst : (decide (x2.size ≤ 60) && decide (x1 = 0) && decide (x3 = 0)) = true := hbq
    rw [hst, Bool.true_and] at HY HN
    have hz : x1 = 0 ∧ x3 = 0 := by simp [strOk] at hbq; exact ⟨hbq.1.2, hbq.2⟩
    obtain ⟨rfl, rfl⟩ := hz
    have IP : Hid (∀ W : World, Calls Try.prog 51 #[.string x2] W fun e w' => e = .returned (.bool (M12.plain x2)) ∧ W = w') := fun W => isPlain_any x2 W hts
    clear hbq hst
    cases hpq : M12.plain x2
    · rw [hpq] at IP
      have HR : Hid _ := HN.out hpq
      clear hpq HY HN
      go_enter Try.func43, Try.ntmps43
      go_wp2
      go_region_held3 (fun w' => w'.cell? ⟨w.heap.size, 0, none⟩ = some (.int .i64 3) ∧ w'.cell? ⟨w.heap.size, 1, none⟩ = some (.int .i64 0) ∧ w'.cell? ⟨w.heap.size, 2, none⟩ = some (.string x2) ∧ w'.cell? ⟨w.heap.size, 3, none⟩ = some (.int .i64 0)) (go_keep) (first | (go_at_call 50; refine Calls.mono (IS.out _) ?_; rintro e w2 ⟨rfl, hb2⟩; have p0 : w2.cell? ⟨w.heap.size, 0, none⟩ = some (.int .i64 3) := (hb2.cell (by simp)).trans (by simp); have p1 : w2.cell? ⟨w.heap.size, 1, none⟩ = some (.int .i64 0) := (hb2.cell (by simp)).trans (by simp); have p2 : w2.cell? ⟨w.heap.size, 2, none⟩ = some (.string x2) := (hb2.cell (by simp)).trans (by simp); have p3 : w2.cell? ⟨w.heap.size, 3, none⟩ = some (.int .i64 0) := (hb2.cell (by simp)).trans (by simp)) | (go_at_call 51; refine Calls.mono (IP.out _) ?_; rintro e w' ⟨rfl, rfl⟩))
      have hB2 : Below w.heap.size w w2 := hB.drew.trans (hb2.mono (by simp))
      clear hb2 hB IS IP p0 p1 p2 p3
      go_wp2
      exact bodyPost_ret (v := .tuple #[.iface 75 (.string x2), .int .i64 (IntKind.i64.wrap ((k : Int) + 1)), .bool false]) (by simp [results, Try.results43, go_sem]) rfl ⟨M14.TRes.no HR.out _ _, hB2⟩
    · rw [hpq] at IP
      have HR : Hid _ := HY.out hpq
      clear hpq HY HN
      go_enter Try.func43, Try.ntmps43
      go_wp2
      go_region_held3 (fun w' => w'.cell? ⟨w.heap.size, 0, none⟩ = some (.int .i64 3) ∧ w'.cell? ⟨w.heap.size, 1, none⟩ = some (.int .i64 0) ∧ w'.cell? ⟨w.heap.size, 2, none⟩ = some (.string x2) ∧ w'.cell? ⟨w.heap.size, 3, none⟩ = some (.int .i64 0)) (go_keep) (first | (go_at_call 50; refine Calls.mono (IS.out _) ?_; rintro e w2 ⟨rfl, hb2⟩; have p0 : w2.cell? ⟨w.heap.size, 0, none⟩ = some (.int .i64 3) := (hb2.cell (by simp)).trans (by simp); have p1 : w2.cell? ⟨w.heap.size, 1, none⟩ = some (.int .i64 0) := (hb2.cell (by simp)).trans (by simp); have p2 : w2.cell? ⟨w.heap.size, 2, none⟩ = some (.string x2) := (hb2.cell (by simp)).trans (by simp); have p3 : w2.cell? ⟨w.heap.size, 3, none⟩ = some (.int .i64 0) := (hb2.cell (by simp)).trans (by simp)) | (go_at_call 51; refine Calls.mono (IP.out _) ?_; rintro e w' ⟨rfl, rfl⟩))
      have hB2 : Below w.heap.size w w2 := hB.drew.trans (hb2.mono (by simp))
      clear hb2 hB IS IP p0 p1 p2 p3
      go_wp2
      exact bodyPost_ret (v := .tuple #[.iface 75 (.string x2), .int .i64 (IntKind.i64.wrap ((k : Int) + 1)), .bool true]) (by simp [results, Try.results43, go_sem]) rfl ⟨M14.TRes.yes HR.out (by rw [IntKind.wrap_i64]; omega) HT.out (M14.VAt.txt _ _ _ _), hB2⟩
end Go.Proofs.Ytdkhjnpdphnigaa
