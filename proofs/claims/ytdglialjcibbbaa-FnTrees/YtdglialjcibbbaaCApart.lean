/- Each node a part of its own. -/
import Derived.Test.YtdglialjcibbbaaRows
import Derived.Test.YtdglialjcibbbaaMPM
import Derived.WalkKit
import Derived.WalkSpells
import Derived.WalkLawsBesides
import Derived.Outline
namespace Go.Proofs.Ytdglialjcibbbaa
open Go.RowKit
theorem id_put (k : Nat) : (fun j => if j = k then k else j) = fun j : Nat => j := by
  funext j; split
  · rename_i h; exact h.symm
  · rfl
set_option maxHeartbeats 800000 in
set_option maxRecDepth 100000 in
theorem eachApart_any (w : World) : Calls Try.prog 31 #[] w fun e w' => e = .returned (.map (some w.heap.size)) ∧ PMn w' w.heap.size 8 (fun n => n) ∧ Below w.heap.size w w' := by
  have hmm := @run_makeMap Try.prog
  have HM : Hid _ := PMn.made w (fun n => n)
  go_enter Try.func31, Try.ntmps31
  go_wp2
  go_loopw [4] (fun iv wr => ∃ k : Nat, iv = .int .i64 k ∧ k ≤ 8 ∧ Hid (PMn wr w.heap.size k (fun n => n)) ∧ Below w.heap.size w wr) (fun iv _ => (8 - intOf iv).toNat)
  case atStart => exact ⟨0, rfl, by omega, HM, (Below.refl _ _).alloc (Nat.le_refl _) _⟩
  case round =>
    obtain ⟨k, rfl, hk, hT, hb⟩ := hrel
    by_cases hlk : k < 8
    · obtain ⟨w', hrun, hP, hg⟩ := PMn.put (v := k) hT.out (Nat.le_refl k) hlk hk (by omega)
      rw [id_put, show max k (k + 1) = k + 1 by omega] at hP
      have hB := hb.grown hg hb.size (fun j hj => by cases hj; exact Nat.le_refl _)
      have HP : Hid _ := hP
      clear hP hT hg HM
      go_wp2
      go_roundw
      case rel => exact ⟨k + 1, by go_num, by omega, HP, hB⟩
      case measure => simp [intOf]; omega
    · obtain rfl : k = 8 := by omega
      clear HM
      go_wp2
      go_ret
      exact ⟨rfl, hT.out, hb⟩
end Go.Proofs.Ytdglialjcibbbaa
