/- GoodEdges, the specification's and the program's, at any edges. -/
import Derived.Test.YtdglialjcibbbaaRows
import Derived.Test.YtdglialjcibbbaaMRetB
import Derived.WalkKit
import Derived.WalkSpells
import Derived.WalkLawsBesides
import Derived.Outline
import Derived.Deep.RegionWith
namespace Go.Proofs.Ytdglialjcibbbaa
open Go.RowKit
set_option linter.unusedSimpArgs false in
set_option maxHeartbeats 1600000 in
set_option maxRecDepth 100000 in
theorem isGoodE_any (c : I3) (w : World) (R : Bool) (hR : Hid (EG.okE c = R)) :
    Calls Try.prog 54 #[c.v] w fun e w' => e = .returned (.bool R) ∧ Below w.heap.size w w' := by
  obtain ⟨x0, x1, x2⟩ := c
  have hB : ∀ o, Below w.heap.size w (w.alloc o) := fun o => (Below.refl _ w).alloc (Nat.le_refl _) o
  go_enter Try.func54, Try.ntmps54
  go_wp2
  all_goals go_ret
  all_goals refine ⟨retB7 ?_, hB _⟩
  all_goals (rw [← hR.out]; simp only [EG.okE]; clear hR hB)
  all_goals (rw [Bool.eq_iff_iff]; simp only [Bool.and_eq_true, Bool.or_eq_true, Bool.not_eq_true', Bool.not_eq_false', decide_eq_true_eq, decide_eq_false_iff_not, Bool.false_eq_true, beq_iff_eq, bne_iff_ne, ne_eq, false_iff, true_iff] at *; first | omega | (unfold wrap64; omega))
set_option maxHeartbeats 1600000 in
set_option maxRecDepth 100000 in
theorem implGoodEdges_any (a : Option Addr) (cap : Nat) (xs : List I3) (w : World) (hn : xs.length ≤ 1048576) (hin : MI3.RowAt w a xs) (R : Bool) (hR : Hid (EG.okP xs = R)) :
    Calls Try.prog 23 #[.slice a xs.length cap] w fun e w' => e = .returned (.bool R) ∧ Below w.heap.size w w' := by
  by_cases hl : xs.length ≤ 24
  · go_enter Try.func23, Try.ntmps23
    go_wp2
    go_loopw [10] (fun iv wr => ∃ k : Nat, iv = .int .i64 k ∧ k ≤ xs.length ∧ Hid (EG.okUp xs k) ∧ Below w.heap.size w wr) (fun iv _ => (xs.length - intOf iv).toNat)
    case atStart => exact ⟨0, rfl, by omega, show Hid _ from fun j hj => by omega, Below.refl _ _⟩
    case round =>
      obtain ⟨k, rfl, hk, hT, hb⟩ := hrel
      by_cases hlk : k < xs.length
      · obtain ⟨b, off, rfl, hlt, c0, c1, c2⟩ := (hin.below hb).at hlk
        have HY : Hid _ := fun h => EG.okUp_succ hT.out (k := k) h
        have HN : Hid _ := fun h => EG.okP_no hlk h
        clear hin hT
        generalize MI3.at_ xs k = x at *
        obtain ⟨x0, x1, x2⟩ := x
        have IG : Hid (∀ W : World, Calls Try.prog 54 #[.agg #[.int .i64 x0, .int .i64 x1, .int .i64 x2]] W fun e w' => e = .returned (.bool (EG.okE ⟨x0, x1, x2⟩)) ∧ Below W.heap.size W w') := fun W => isGoodE_any ⟨x0, x1, x2⟩ W _ rfl
        generalize EG.okE ⟨x0, x1, x2⟩ = q at *
        have hb' : Below w.heap.size w (wr.alloc (.cells #[.int .i64 x0, .int .i64 x1, .int .i64 x2] 33)) := hb.alloc hb.size _
        have HB : Hid _ := hb'
        clear hb'
        go_wp2_with fail
        refine (IG.out _).mono ?_
        rintro e w2 ⟨rfl, hb2⟩
        have hB2 := HB.out.trans (hb2.mono HB.out.size)
        clear hb2 hb HB IG c0 c1 c2 hlt
        cases q
        · have hF : Hid (R = false) := by rw [← hR.out]; exact HN.out rfl
          clear HN HY hR
          go_wp2
          go_ret
          exact ⟨retB7 hF.out.symm, hB2⟩
        · have hT : Hid _ := HY.out rfl
          clear HN HY hR
          go_wp2
          go_roundw
          case rel => exact ⟨k + 1, by go_num, by omega, hT, hB2⟩
          case measure => simp [intOf]; omega
      · obtain rfl : k = xs.length := by omega
        have hF : Hid (R = true) := by rw [← hR.out]; exact (EG.okP_iff xs).2 ⟨hl, hT.out⟩
        clear hin hT hR
        go_wp2
        go_ret
        exact ⟨retB7 hF.out.symm, hb⟩
  · have hF : Hid (R = false) := by rw [← hR.out]; exact EG.okP_no_len (by omega)
    clear hin hR
    go_enter Try.func23, Try.ntmps23
    go_wp2
    go_ret
    exact ⟨retB7 hF.out.symm, Below.refl _ _⟩
set_option linter.unusedSimpArgs false in
set_option maxHeartbeats 1600000 in
set_option maxRecDepth 100000 in
theorem specGoodEdges_any (a : Option Addr) (cap : Nat) (xs : List I3) (w : World) (hn : xs.length ≤ 1048576) (hin : MI3.RowAt w a xs) (R : Bool) (hR : Hid (EG.okP xs = R)) :
    Calls Try.prog 28 #[.slice a xs.length cap] w fun e w' => e = .returned (.bool R) ∧ Below w.heap.size w w' := by
  go_enter Try.func28, Try.ntmps28
  go_wp2
  go_loopw [7] (fun iv wr => ∃ k : Nat, iv = .int .i64 k ∧ k ≤ xs.length ∧ Hid (EG.okUp xs k) ∧ Below w.heap.size w wr) (fun iv _ => (xs.length - intOf iv).toNat)
  case atStart => exact ⟨0, rfl, by omega, show Hid _ from fun j hj => by omega, Below.refl _ _⟩
  case round =>
    obtain ⟨k, rfl, hk, hT, hb⟩ := hrel
    by_cases hlk : k < xs.length
    · obtain ⟨b, off, rfl, hlt, c0, c1, c2⟩ := (hin.below hb).at hlk
      have HY : Hid _ := fun h => EG.okUp_succ hT.out (k := k) h
      have HN : Hid _ := fun h => EG.okP_no hlk h
      clear hin hT
      generalize MI3.at_ xs k = x at *
      obtain ⟨x0, x1, x2⟩ := x
      obtain ⟨q, hq⟩ : ∃ q, EG.okE ⟨x0, x1, x2⟩ = q := ⟨_, rfl⟩
      have HQ : Hid _ := hq
      clear hq
      have hb' : ∀ o, Below w.heap.size w (wr.alloc o) := fun o => hb.alloc hb.size _
      have HB : Hid _ := hb'
      clear hb'
      go_wp2
      all_goals first
        | (go_ret
           refine ⟨retB7 ?_, HB.out _⟩
           rw [← hR.out, HN.out ?_]
           simp only [EG.okE, decide_eq_false_iff_not]
           clear hR HN HY HQ HB c0 c1 c2
           simp only [Bool.and_eq_true, Bool.or_eq_true, Bool.not_eq_true', Bool.not_eq_false', decide_eq_true_eq, decide_eq_false_iff_not, Bool.false_eq_true, beq_iff_eq, bne_iff_ne, ne_eq, false_iff, true_iff] at *
           omega)
        | (have hT : Hid _ := HY.out (by
             simp only [EG.okE, decide_eq_true_eq]
             clear hR HN HY HQ HB c0 c1 c2
             simp only [Bool.and_eq_true, Bool.or_eq_true, Bool.not_eq_true', Bool.not_eq_false', decide_eq_true_eq, decide_eq_false_iff_not, Bool.false_eq_true, beq_iff_eq, beq_eq_false_iff_ne, bne_iff_ne, ne_eq, false_iff, true_iff] at *
             omega)
           go_roundw
           case rel => exact ⟨k + 1, by go_num, by omega, hT, HB.out _⟩
           case measure => simp [intOf]; omega)
    · obtain rfl : k = xs.length := by omega
      have hF : Hid (R = decide ((xs.length : Int) ≤ 24)) := by
        rw [← hR.out, Bool.eq_iff_iff, EG.okP_iff, decide_eq_true_eq]; exact ⟨fun h => by omega, fun h => ⟨by omega, hT.out⟩⟩
      clear hin hT hR
      go_wp2
      go_ret
      exact ⟨retB7 hF.out.symm, hb⟩
end Go.Proofs.Ytdglialjcibbbaa
