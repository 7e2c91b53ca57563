/- byCost of the program: the function value that tells which of two edges is cheaper. -/
import Derived.Test.YtdglialjcibbbaaRows
import Derived.Test.YtdglialjcibbbaaMPR
import Derived.WalkKit
import Derived.WalkSpells
import Derived.WalkLawsBesides
import Derived.Outline
import Derived.Deep.QuietTactic
import Derived.BigQuiet
namespace Go.Proofs.Ytdglialjcibbbaa
open Go.RowKit
set_option maxHeartbeats 400000 in
set_option maxRecDepth 100000 in
theorem byCost_any (a : Option Addr) (ca n : Nat) (w : World) : Calls Try.prog 52 #[.slice a n ca] w fun e w' => e = .returned (.func (.func 66) #[] #[.pointer (some ⟨w.heap.size, 0, none⟩)]) ∧ w.alloc (.cells #[.slice a n ca] 23) = w' := by
  go_enter Try.func52, Try.ntmps52
  go_wp2
  go_ret
  exact ⟨rfl, rfl⟩
/-- What cmp.Compare answers. -/
def EG.cmpI (x y : Int) : Int := if x < y then -1 else if y < x then 1 else 0
theorem EG.cmpI_lt (x y : Int) : decide (EG.cmpI x y < 0) = decide (x < y) := by
  unfold EG.cmpI; split
  · rename_i h; simp [h]
  · rename_i h
    split <;> simp [h]
set_option maxHeartbeats 400000 in
set_option maxRecDepth 100000 in
theorem compare_any (x y : Int) (w : World) : Calls Try.prog 67 #[.int .i64 x, .int .i64 y] w fun e w' => e = .returned (.int .i64 (EG.cmpI x y)) ∧ w = w' := by
  by_cases h1 : x < y
  · have hC : Hid (EG.cmpI x y = -1) := by show _ = _; simp [EG.cmpI, h1]
    go_enter Try.func67, Try.ntmps67
    go_wp2
    go_ret
    exact ⟨by rw [hC.out]; rfl, rfl⟩
  · by_cases h2 : y < x
    · have hC : Hid (EG.cmpI x y = 1) := by show _ = _; simp [EG.cmpI, h1, h2]
      go_enter Try.func67, Try.ntmps67
      go_wp2
      go_ret
      exact ⟨by rw [hC.out]; rfl, rfl⟩
    · have hC : Hid (EG.cmpI x y = 0) := by show _ = _; simp [EG.cmpI, h1, h2]
      go_enter Try.func67, Try.ntmps67
      go_wp2
      go_ret
      exact ⟨by rw [hC.out]; rfl, rfl⟩
set_option maxHeartbeats 800000 in
set_option maxRecDepth 100000 in
theorem cmpC_any (a : Option Addr) (ca c : Nat) (xs : List I3) (j k : Nat) (w : World) (hj : j < xs.length) (hk : k < xs.length) (_hl : xs.length ≤ 24) (hc : w.cell? ⟨c, 0, none⟩ = some (.slice a xs.length ca)) (hin : MI3.RowAt w a xs) :
    Calls Try.prog 66 #[.int .i64 (j : Int), .int .i64 (k : Int), .pointer (some ⟨c, 0, none⟩)] w fun e w' => e = .returned (.int .i64 (EG.cmpI (EG.cost xs j) (EG.cost xs k))) ∧ ∃ m, w' = w.drewN m := by
  obtain ⟨b2, off2, rfl, hlt2, _, _, c2⟩ := hin.at hj
  obtain ⟨b3, off3, hab, hlt3, _, _, c3⟩ := hin.at hk
  cases hab
  clear hin
  rw [show (MI3.at_ xs j).a2 = EG.cost xs j from rfl] at c2
  rw [show (MI3.at_ xs k).a2 = EG.cost xs k from rfl] at c3
  generalize EG.cost xs j = x at *
  generalize EG.cost xs k = y at *
  go_enter Try.func66, Try.ntmps66
  go_wp2_with fail
  go_quiet ((go_at_call 67; exact (compare_any _ _ _).mono (by rintro e w' ⟨rfl, rfl⟩; exact ⟨rfl, _, rfl⟩)))
  go_wp2
  go_ret
  exact ⟨rfl, _, rfl⟩
end Go.Proofs.Ytdglialjcibbbaa
