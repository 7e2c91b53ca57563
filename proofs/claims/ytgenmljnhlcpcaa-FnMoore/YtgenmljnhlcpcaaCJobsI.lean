/- GoodJobs of the program, at any jobs. -/
import Derived.Test.YtgenmljnhlcpcaaRows
import Derived.Test.YtgenmljnhlcpcaaMRetB
import Derived.Test.YtgenmljnhlcpcaaMJD
import Derived.WalkKit
import Derived.WalkSpells
import Derived.WalkLawsBesides
import Derived.Outline
import Derived.Deep.RegionWith
namespace Go.Proofs.Ytgenmljnhlcpcaa
open Go.RowKit
set_option linter.unusedSimpArgs false in
set_option maxHeartbeats 1600000 in
set_option maxRecDepth 100000 in
theorem isGoodJ_any (c : I2) (w : World) (R : Bool) (hR : Hid (JD.okE c = R)) :
    Calls Try.prog 30 #[c.v] w fun e w' => e = .returned (.bool R) ∧ Below w.heap.size w w' := by
  obtain ⟨x0, x1⟩ := c
  have hB : ∀ o, Below w.heap.size w (w.alloc o) := fun o => (Below.refl _ w).alloc (Nat.le_refl _) o
  go_enter Try.func30, Try.ntmps30
  go_wp2
  all_goals go_ret
  all_goals refine ⟨retB7 ?_, hB _⟩
  all_goals (rw [← hR.out]; simp only [JD.okE]; clear hR hB)
  all_goals (rw [Bool.eq_iff_iff]; simp only [Bool.and_eq_true, Bool.or_eq_true, Bool.not_eq_true', Bool.not_eq_false', decide_eq_true_eq, decide_eq_false_iff_not, Bool.false_eq_true, beq_iff_eq, bne_iff_ne, ne_eq, false_iff, true_iff] at *; first | omega | (unfold wrap64; omega))
set_option maxHeartbeats 1600000 in
set_option maxRecDepth 100000 in
theorem implGoodJobs_any (a : Option Addr) (cap : Nat) (xs : List I2) (w : World) (hn : xs.length ≤ 1048576) (hin : MI2.RowAt w a xs) (R : Bool) (hR : Hid (JD.okP xs = R)) :
    Calls Try.prog 11 #[.slice a xs.length cap] w fun e w' => e = .returned (.bool R) ∧ Below w.heap.size w w' := by
  by_cases hl : xs.length ≤ 10
  · go_enter Try.func11, Try.ntmps11
    go_wp2
    go_loopw [10] (fun iv wr => ∃ k : Nat, iv = .int .i64 k ∧ k ≤ xs.length ∧ Hid (JD.okUp xs k) ∧ Below w.heap.size w wr) (fun iv _ => (xs.length - intOf iv).toNat)
    case atStart => exact ⟨0, rfl, by omega, show Hid _ from fun j hj => by omega, Below.refl _ _⟩
    case round =>
      obtain ⟨k, rfl, hk, hT, hb⟩ := hrel
      by_cases hlk : k < xs.length
      · obtain ⟨b, off, rfl, hlt, c0, c1⟩ := (hin.below hb).at hlk
        have HY : Hid _ := fun h => JD.okUp_succ hT.out (k := k) h
        have HN : Hid _ := fun h => JD.okP_no hlk h
        clear hin hT
        generalize MI2.at_ xs k = x at *
        obtain ⟨x0, x1⟩ := x
        have IG : Hid (∀ W : World, Calls Try.prog 30 #[.agg #[.int .i64 x0, .int .i64 x1]] W fun e w' => e = .returned (.bool (JD.okE ⟨x0, x1⟩)) ∧ Below W.heap.size W w') := fun W => isGoodJ_any ⟨x0, x1⟩ W _ rfl
        generalize JD.okE ⟨x0, x1⟩ = q at *
        have hb' : Below w.heap.size w (wr.alloc (.cells #[.int .i64 x0, .int .i64 x1] 48)) := hb.alloc hb.size _
        have HB : Hid _ := hb'
        clear hb'
        go_wp2_with fail
        refine (IG.out _).mono ?_
        rintro e w2 ⟨rfl, hb2⟩
        have hB2 := HB.out.trans (hb2.mono HB.out.size)
        clear hb2 hb HB IG c0 c1 hlt
        cases q
        · have hF : Hid (R = false) := by rw [← hR.out]; exact HN.out rfl
          clear HN HY hR
          go_wp2
          go_ret
          exact ⟨retB7 hF.out.symm, hB2⟩
        · have hT : Hid _ := HY.out rfl
          clear HN HY hR
          go_wp2
          go_roundw
          case rel => exact ⟨k + 1, by go_num, by omega, hT, hB2⟩
          case measure => simp [intOf]; omega
      · obtain rfl : k = xs.length := by omega
        have hF : Hid (R = true) := by rw [← hR.out]; exact (JD.okP_iff xs).2 ⟨hl, hT.out⟩
        clear hin hT hR
        go_wp2
        go_ret
        exact ⟨retB7 hF.out.symm, hb⟩
  · have hF : Hid (R = false) := by rw [← hR.out]; exact JD.okP_no_len (by omega)
    clear hin hR
    go_enter Try.func11, Try.ntmps11
    go_wp2
    go_ret
    exact ⟨retB7 hF.out.symm, Below.refl _ _⟩
end Go.Proofs.Ytgenmljnhlcpcaa
