/- The law FnExactNewCell answers true at every argument. -/
import Derived.Test.YtfdjmmoomokccaaRows
import Derived.Test.YtfdjmmoomokccaaCCeN
import Derived.Test.YtfdjmmoomokccaaCEqCell
import Derived.WalkKit
import Derived.WalkSpells
import Derived.WalkLawsBesides
import Derived.Outline
namespace Go.Proofs.Ytfdjmmoomokccaa
open Go.RowKit
set_option maxHeartbeats 800000 in
set_option maxRecDepth 100000 in
theorem lawNewCell_any (p u : Int) (w : World) : Calls Try.prog 4 #[.int .i64 p, .int .i64 u] w fun e w' => e = .returned (.bool true) ∧ Below w.heap.size w w' := by
  have SG : Hid (∀ W : World, Calls Try.prog 11 #[.int .i64 p, .int .i64 u] W fun e w' => e = .returned (.tuple #[(BK.newC p u).v, .bool (BK.okS p u)]) ∧ Below W.heap.size W w') := fun W => newCS_any p u W
  have IG : Hid (∀ W : World, Calls Try.prog 12 #[.int .i64 p, .int .i64 u] W fun e w' => e = .returned (.tuple #[(BK.newC p u).v, .bool (BK.okS p u)]) ∧ Below W.heap.size W w') := fun W => newCI_any p u W
  generalize BK.okS p u = q at *
  generalize BK.newC p u = x at *
  obtain ⟨xp, xu, xd⟩ := x
  go_enter Try.func4, Try.ntmps4
  go_wp2_with fail
  refine Calls.mono (SG.out _) ?_
  rintro e w1 ⟨rfl, hb1⟩
  go_wp2_with fail
  refine Calls.mono (IG.out _) ?_
  rintro e w2 ⟨rfl, hb2⟩
  have hsz := hb2.size
  simp only [World.alloc, Array.size_push] at hsz
  have k : ∀ j, w2.cell? ⟨w1.heap.size, j, none⟩ = (w1.alloc (.cells #[.int .i64 xp, .int .i64 xu, .int .i64 xd] 29)).cell? ⟨w1.heap.size, j, none⟩ := fun j => hb2.cell (by simp)
  have hB2 : Below w.heap.size w w2 := (hb1.alloc hb1.size _).trans (hb2.mono (by have := hb1.size; simp; omega))
  have hl : w1.heap.size < w2.heap.size := by omega
  have k0 := k 0
  have k1 := k 1
  have k2 := k 2
  simp at k0 k1 k2
  clear k hsz hb2 SG IG
  go_wp2_with fail
  refine (eqCell_any ⟨xp, xu, xd⟩ _).mono ?_
  rintro e w3 ⟨rfl, hb3⟩
  have hB3 : Below w.heap.size w w3 := (hB2.alloc hB2.size _).trans (hb3.mono (by have := hB2.size; simp; omega))
  clear hb3 k0 k1 k2
  cases q
  all_goals (go_wp2; go_ret; exact ⟨rfl, hB3⟩)
end Go.Proofs.Ytfdjmmoomokccaa
