/- GoodJobs, the specification's, at any jobs. -/
import Derived.Test.YtgenmljnhlcpcaaRows
import Derived.Test.YtgenmljnhlcpcaaMRetB
import Derived.Test.YtgenmljnhlcpcaaMJD
import Derived.WalkKit
import Derived.WalkSpells
import Derived.WalkLawsBesides
import Derived.Outline
import Derived.Deep.RegionWith
namespace Go.Proofs.Ytgenmljnhlcpcaa
open Go.RowKit
set_option linter.unusedSimpArgs false in
set_option maxHeartbeats 1600000 in
set_option maxRecDepth 100000 in
theorem specGoodJobs_any (a : Option Addr) (cap : Nat) (xs : List I2) (w : World) (hn : xs.length ≤ 1048576) (hin : MI2.RowAt w a xs) (R : Bool) (hR : Hid (JD.okP xs = R)) :
    Calls Try.prog 27 #[.slice a xs.length cap] w fun e w' => e = .returned (.bool R) ∧ Below w.heap.size w w' := by
  go_enter Try.func27, Try.ntmps27
  go_wp2
  go_loopw [7] (fun iv wr => ∃ k : Nat, iv = .int .i64 k ∧ k ≤ xs.length ∧ Hid (JD.okUp xs k) ∧ Below w.heap.size w wr) (fun iv _ => (xs.length - intOf iv).toNat)
  case atStart => exact ⟨0, rfl, by omega, show Hid _ from fun j hj => by omega, Below.refl _ _⟩
  case round =>
    obtain ⟨k, rfl, hk, hT, hb⟩ := hrel
    by_cases hlk : k < xs.length
    · obtain ⟨b, off, rfl, hlt, c0, c1⟩ := (hin.below hb).at hlk
      have HY : Hid _ := fun h => JD.okUp_succ hT.out (k := k) h
      have HN : Hid _ := fun h => JD.okP_no hlk h
      clear hin hT
      generalize MI2.at_ xs k = x at *
      obtain ⟨x0, x1⟩ := x
      obtain ⟨q, hq⟩ : ∃ q, JD.okE ⟨x0, x1⟩ = q := ⟨_, rfl⟩
      have HQ : Hid _ := hq
      clear hq
      have hb' : ∀ o, Below w.heap.size w (wr.alloc o) := fun o => hb.alloc hb.size _
      have HB : Hid _ := hb'
      clear hb'
      go_wp2
      all_goals first
        | (go_ret
           refine ⟨retB7 ?_, HB.out _⟩
           rw [← hR.out, HN.out ?_]
           simp only [JD.okE, decide_eq_false_iff_not]
           clear hR HN HY HQ HB c0 c1
           try simp only [Bool.and_eq_true, Bool.or_eq_true, Bool.not_eq_true', Bool.not_eq_false', decide_eq_true_eq, decide_eq_false_iff_not, Bool.false_eq_true, beq_iff_eq, bne_iff_ne, ne_eq, false_iff, true_iff] at *
           omega)
        | (have hT : Hid _ := HY.out (by
             simp only [JD.okE, decide_eq_true_eq]
             clear hR HN HY HQ HB c0 c1
             try simp only [Bool.and_eq_true, Bool.or_eq_true, Bool.not_eq_true', Bool.not_eq_false', decide_eq_true_eq, decide_eq_false_iff_not, Bool.false_eq_true, beq_iff_eq, beq_eq_false_iff_ne, bne_iff_ne, ne_eq, false_iff, true_iff] at *
             omega)
           go_roundw
           case rel => exact ⟨k + 1, by go_num, by omega, hT, HB.out _⟩
           case measure => simp [intOf]; omega)
    · obtain rfl : k = xs.length := by omega
      have hF : Hid (R = decide ((xs.length : Int) ≤ 10)) := by
        rw [← hR.out, Bool.eq_iff_iff, JD.okP_iff, decide_eq_true_eq]; exact ⟨fun h => by omega, fun h => ⟨by omega, hT.out⟩⟩
      clear hin hT hR
      go_wp2
      go_ret
      exact ⟨retB7 hF.out.symm, hb⟩
end Go.Proofs.Ytgenmljnhlcpcaa
