/- GoodPlan, the specification's and the program's, at any plan. -/
import Derived.Test.YtjplabldiheggaaRows
import Derived.Test.YtjplabldiheggaaMPN
import Derived.WalkKit
import Derived.WalkSpells
import Derived.WalkLawsBesides
import Derived.Outline
import Derived.Deep.RegionWith
namespace Go.Proofs.Ytjplabldiheggaa
open Go.RowKit
theorem retB6 {a b : Bool} (h : a = b) : Ending.returned (.bool a) = .returned (.bool b) := by rw [h]
set_option linter.unusedSimpArgs false in
set_option maxHeartbeats 1600000 in
set_option maxRecDepth 100000 in
theorem isGoodC_any (c : I5) (w : World) (R : Bool) (hR : Hid (PN.okC c = R)) :
    Calls Try.prog 66 #[c.v] w fun e w' => e = .returned (.bool R) ∧ Below w.heap.size w w' := by
  obtain ⟨x0, x1, x2, x3, x4⟩ := c
  have hB : ∀ o, Below w.heap.size w (w.alloc o) := fun o => (Below.refl _ w).alloc (Nat.le_refl _) o
  go_enter Try.func66, Try.ntmps66
  go_wp2
  all_goals go_ret
  all_goals refine ⟨retB6 ?_, hB _⟩
  all_goals (rw [← hR.out]; simp only [PN.okC]; clear hR hB)
  all_goals (rw [Bool.eq_iff_iff]; simp only [Bool.and_eq_true, Bool.or_eq_true, Bool.not_eq_true', Bool.not_eq_false', decide_eq_true_eq, decide_eq_false_iff_not, Bool.false_eq_true, beq_iff_eq, bne_iff_ne, ne_eq, false_iff, true_iff] at *; first | omega | (unfold wrap64; omega))
set_option maxHeartbeats 1600000 in
set_option maxRecDepth 100000 in
theorem implGoodPlan_any (a : Option Addr) (cap : Nat) (xs : List I5) (w : World) (hn : xs.length ≤ 1048576) (hin : MI5.RowAt w a xs) (R : Bool) (hR : Hid (PN.okP xs = R)) :
    Calls Try.prog 50 #[.slice a xs.length cap] w fun e w' => e = .returned (.bool R) ∧ Below w.heap.size w w' := by
  by_cases hl : xs.length ≤ 20
  · go_enter Try.func50, Try.ntmps50
    go_wp2
    go_loopw [10] (fun iv wr => ∃ k : Nat, iv = .int .i64 k ∧ k ≤ xs.length ∧ Hid (PN.okUp xs k) ∧ Below w.heap.size w wr) (fun iv _ => (xs.length - intOf iv).toNat)
    case atStart => exact ⟨0, rfl, by omega, show Hid _ from fun j hj => by omega, Below.refl _ _⟩
    case round =>
      obtain ⟨k, rfl, hk, hT, hb⟩ := hrel
      by_cases hlk : k < xs.length
      · obtain ⟨b, off, rfl, hlt, c0, c1, c2, c3, c4⟩ := (hin.below hb).at hlk
        have HY : Hid _ := fun h => PN.okUp_succ hT.out (k := k) h
        have HN : Hid _ := fun h => PN.okP_no hlk h
        clear hin hT
        generalize MI5.at_ xs k = x at *
        obtain ⟨x0, x1, x2, x3, x4⟩ := x
        have IG : Hid (∀ W : World, Calls Try.prog 66 #[.agg #[.int .i64 x0, .int .i64 x1, .int .i64 x2, .int .i64 x3, .int .i64 x4]] W fun e w' => e = .returned (.bool (PN.okC ⟨x0, x1, x2, x3, x4⟩)) ∧ Below W.heap.size W w') := fun W => isGoodC_any ⟨x0, x1, x2, x3, x4⟩ W _ rfl
        generalize PN.okC ⟨x0, x1, x2, x3, x4⟩ = q at *
        have hb' : Below w.heap.size w (wr.alloc (.cells #[.int .i64 x0, .int .i64 x1, .int .i64 x2, .int .i64 x3, .int .i64 x4] 91)) := hb.alloc hb.size _
        have HB : Hid _ := hb'
        clear hb'
        go_wp2_with fail
        refine (IG.out _).mono ?_
        rintro e w2 ⟨rfl, hb2⟩
        have hB2 := HB.out.trans (hb2.mono HB.out.size)
        clear hb2 hb HB IG c0 c1 c2 c3 c4 hlt
        cases q
        · have hF : Hid (R = false) := by rw [← hR.out]; exact HN.out rfl
          clear HN HY hR
          go_wp2
          go_ret
          exact ⟨retB6 hF.out.symm, hB2⟩
        · have hT : Hid _ := HY.out rfl
          clear HN HY hR
          go_wp2
          go_roundw
          case rel => exact ⟨k + 1, by go_num, by omega, hT, hB2⟩
          case measure => simp [intOf]; omega
      · obtain rfl : k = xs.length := by omega
        have hF : Hid (R = true) := by rw [← hR.out]; exact (PN.okP_iff xs).2 ⟨hl, hT.out⟩
        clear hin hT hR
        go_wp2
        go_ret
        exact ⟨retB6 hF.out.symm, hb⟩
  · have hF : Hid (R = false) := by rw [← hR.out]; exact PN.okP_no_len (by omega)
    clear hin hR
    go_enter Try.func50, Try.ntmps50
    go_wp2
    go_ret
    exact ⟨retB6 hF.out.symm, Below.refl _ _⟩
set_option linter.unusedSimpArgs false in
set_option maxHeartbeats 1600000 in
set_option maxRecDepth 100000 in
theorem specGoodPlan_any (a : Option Addr) (cap : Nat) (xs : List I5) (w : World) (hn : xs.length ≤ 1048576) (hin : MI5.RowAt w a xs) (R : Bool) (hR : Hid (PN.okP xs = R)) :
    Calls Try.prog 70 #[.slice a xs.length cap] w fun e w' => e = .returned (.bool R) ∧ Below w.heap.size w w' := by
  go_enter Try.func70, Try.ntmps70
  go_wp2
  go_loopw [7] (fun iv wr => ∃ k : Nat, iv = .int .i64 k ∧ k ≤ xs.length ∧ Hid (PN.okUp xs k) ∧ Below w.heap.size w wr) (fun iv _ => (xs.length - intOf iv).toNat)
  case atStart => exact ⟨0, rfl, by omega, show Hid _ from fun j hj => by omega, Below.refl _ _⟩
  case round =>
    obtain ⟨k, rfl, hk, hT, hb⟩ := hrel
    by_cases hlk : k < xs.length
    · obtain ⟨b, off, rfl, hlt, c0, c1, c2, c3, c4⟩ := (hin.below hb).at hlk
      have HY : Hid _ := fun h => PN.okUp_succ hT.out (k := k) h
      have HN : Hid _ := fun h => PN.okP_no hlk h
      clear hin hT
      generalize MI5.at_ xs k = x at *
      obtain ⟨x0, x1, x2, x3, x4⟩ := x
      obtain ⟨q, hq⟩ : ∃ q, PN.okC ⟨x0, x1, x2, x3, x4⟩ = q := ⟨_, rfl⟩
      have HQ : Hid _ := hq
      clear hq
      have hb' : ∀ o, Below w.heap.size w (wr.alloc o) := fun o => hb.alloc hb.size _
      have HB : Hid _ := hb'
      clear hb'
      go_wp2
      all_goals first
        | (go_ret
           refine ⟨retB6 ?_, HB.out _⟩
           rw [← hR.out, HN.out ?_]
           simp only [PN.okC, decide_eq_false_iff_not]
           clear hR HN HY HQ HB c0 c1 c2 c3 c4
           simp only [Bool.and_eq_true, Bool.or_eq_true, Bool.not_eq_true', Bool.not_eq_false', decide_eq_true_eq, decide_eq_false_iff_not, Bool.false_eq_true, beq_iff_eq, bne_iff_ne, ne_eq, false_iff, true_iff] at *
           omega)
        | (have hT : Hid _ := HY.out (by
             simp only [PN.okC, decide_eq_true_eq]
             clear hR HN HY HQ HB c0 c1 c2 c3 c4
             simp only [Bool.and_eq_true, Bool.or_eq_true, Bool.not_eq_true', Bool.not_eq_false', decide_eq_true_eq, decide_eq_false_iff_not, Bool.false_eq_true, beq_iff_eq, beq_eq_false_iff_ne, bne_iff_ne, ne_eq, false_iff, true_iff] at *
             omega)
           go_roundw
           case rel => exact ⟨k + 1, by go_num, by omega, hT, HB.out _⟩
           case measure => simp [intOf]; omega)
    · obtain rfl : k = xs.length := by omega
      have hF : Hid (R = decide ((xs.length : Int) ≤ 20)) := by
        rw [← hR.out, Bool.eq_iff_iff, PN.okP_iff, decide_eq_true_eq]; exact ⟨fun h => by omega, fun h => ⟨by omega, hT.out⟩⟩
      clear hin hT hR
      go_wp2
      go_ret
      exact ⟨retB6 hF.out.symm, hb⟩
end Go.Proofs.Ytjplabldiheggaa
