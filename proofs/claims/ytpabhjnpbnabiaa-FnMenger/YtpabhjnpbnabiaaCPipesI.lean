/- GoodPipes of the program, at any pipes. -/
import Derived.Test.YtpabhjnpbnabiaaRows
import Derived.Test.YtpabhjnpbnabiaaMRetB
import Derived.Test.YtpabhjnpbnabiaaMFL
import Derived.WalkKit
import Derived.WalkSpells
import Derived.WalkLawsBesides
import Derived.Outline
import Derived.Deep.RegionWith
namespace Go.Proofs.Ytpabhjnpbnabiaa
open Go.RowKit
set_option linter.unusedSimpArgs false in
set_option maxHeartbeats 1600000 in
set_option maxRecDepth 100000 in
theorem isGoodP_any (c : I3) (w : World) (R : Bool) (hR : Hid (FL.okE c = R)) :
    Calls Try.prog 57 #[c.v] w fun e w' => e = .returned (.bool R) ∧ Below w.heap.size w w' := by
  obtain ⟨x0, x1, x2⟩ := c
  have hB : ∀ o, Below w.heap.size w (w.alloc o) := fun o => (Below.refl _ w).alloc (Nat.le_refl _) o
  go_enter Try.func57, Try.ntmps57
  go_wp2
  all_goals go_ret
  all_goals refine ⟨retB7 ?_, hB _⟩
  all_goals (rw [← hR.out]; simp only [FL.okE]; clear hR hB)
  all_goals (rw [Bool.eq_iff_iff]; simp only [Bool.and_eq_true, Bool.or_eq_true, Bool.not_eq_true', Bool.not_eq_false', decide_eq_true_eq, decide_eq_false_iff_not, Bool.false_eq_true, beq_iff_eq, bne_iff_ne, ne_eq, false_iff, true_iff] at *; first | omega | (unfold wrap64; omega))
set_option maxHeartbeats 1600000 in
set_option maxRecDepth 100000 in
theorem implGoodPipes_any (a : Option Addr) (cap : Nat) (xs : List I3) (w : World) (hn : xs.length ≤ 1048576) (hin : MI3.RowAt w a xs) (R : Bool) (hR : Hid (FL.okP xs = R)) :
    Calls Try.prog 33 #[.slice a xs.length cap] w fun e w' => e = .returned (.bool R) ∧ Below w.heap.size w w' := by
  by_cases hl : xs.length ≤ 20
  · go_enter Try.func33, Try.ntmps33
    go_wp2
    go_loopw [10] (fun iv wr => ∃ k : Nat, iv = .int .i64 k ∧ k ≤ xs.length ∧ Hid (FL.okUp xs k) ∧ Below w.heap.size w wr) (fun iv _ => (xs.length - intOf iv).toNat)
    case atStart => exact ⟨0, rfl, by omega, show Hid _ from fun j hj => by omega, Below.refl _ _⟩
    case round =>
      obtain ⟨k, rfl, hk, hT, hb⟩ := hrel
      by_cases hlk : k < xs.length
      · obtain ⟨b, off, rfl, hlt, c0, c1, c2⟩ := (hin.below hb).at hlk
        have HY : Hid _ := fun h => FL.okUp_succ hT.out (k := k) h
        have HN : Hid _ := fun h => FL.okP_no hlk h
        clear hin hT
        generalize MI3.at_ xs k = x at *
        obtain ⟨x0, x1, x2⟩ := x
        have IG : Hid (∀ W : World, Calls Try.prog 57 #[.agg #[.int .i64 x0, .int .i64 x1, .int .i64 x2]] W fun e w' => e = .returned (.bool (FL.okE ⟨x0, x1, x2⟩)) ∧ Below W.heap.size W w') := fun W => isGoodP_any ⟨x0, x1, x2⟩ W _ rfl
        generalize FL.okE ⟨x0, x1, x2⟩ = q at *
        have hb' : Below w.heap.size w (wr.alloc (.cells #[.int .i64 x0, .int .i64 x1, .int .i64 x2] 68)) := hb.alloc hb.size _
        have HB : Hid _ := hb'
        clear hb'
        go_wp2_with fail
        refine (IG.out _).mono ?_
        rintro e w2 ⟨rfl, hb2⟩
        have hB2 := HB.out.trans (hb2.mono HB.out.size)
        clear hb2 hb HB IG c0 c1 c2 hlt
        cases q
        · have hF : Hid (R = false) := by rw [← hR.out]; exact HN.out rfl
          clear HN HY hR
          go_wp2
          go_ret
          exact ⟨retB7 hF.out.symm, hB2⟩
        · have hT : Hid _ := HY.out rfl
          clear HN HY hR
          go_wp2
          go_roundw
          case rel => exact ⟨k + 1, by go_num, by omega, hT, hB2⟩
          case measure => simp [intOf]; omega
      · obtain rfl : k = xs.length := by omega
        have hF : Hid (R = true) := by rw [← hR.out]; exact (FL.okP_iff xs).2 ⟨hl, hT.out⟩
        clear hin hT hR
        go_wp2
        go_ret
        exact ⟨retB7 hF.out.symm, hb⟩
  · have hF : Hid (R = false) := by rw [← hR.out]; exact FL.okP_no_len (by omega)
    clear hin hR
    go_enter Try.func33, Try.ntmps33
    go_wp2
    go_ret
    exact ⟨retB7 hF.out.symm, Below.refl _ _⟩
end Go.Proofs.Ytpabhjnpbnabiaa
