/- The law FnExactGoodCell answers true at every argument. -/
import Derived.Test.YtfdjmmoomokccaaRows
import Derived.Test.YtfdjmmoomokccaaCCe1
import Derived.Test.YtfdjmmoomokccaaCToCell
import Derived.WalkKit
import Derived.WalkSpells
import Derived.WalkLawsBesides
import Derived.Outline
namespace Go.Proofs.Ytfdjmmoomokccaa
open Go.RowKit
set_option maxHeartbeats 800000 in
set_option maxRecDepth 100000 in
theorem lawGoodCell_any (b : Ce) (w : World) : Calls Try.prog 6 #[b.v] w fun e w' => e = .returned (.bool true) ∧ Below w.heap.size w w' := by
  have TB : Hid (∀ W : World, Calls Try.prog 18 #[b.v] W fun e w' => e = .returned b.v ∧ Below W.heap.size W w') := fun W => toCell_any b W
  obtain ⟨R, hR⟩ : ∃ R, BK.goodC b = R := ⟨_, rfl⟩
  have SG : Hid (∀ W : World, Calls Try.prog 17 #[b.v] W fun e w' => e = .returned (.bool R) ∧ Below W.heap.size W w') := fun W => goodCS_any b W R hR
  have IG : Hid (∀ W : World, Calls Try.prog 19 #[b.v] W fun e w' => e = .returned (.bool R) ∧ Below W.heap.size W w') := fun W => goodCI_any b W R hR
  clear hR
  obtain ⟨xp, xu, xd⟩ := b
  have hB : Below w.heap.size w _ := (Below.refl _ w).alloc (Nat.le_refl _) (.cells #[.int .i64 xp, .int .i64 xu, .int .i64 xd] 37)
  go_enter Try.func6, Try.ntmps6
  go_wp2_with fail
  refine Calls.mono (TB.out _) ?_
  rintro e w1 ⟨rfl, hb1⟩
  have k : ∀ j, w1.cell? ⟨w.heap.size, j, none⟩ = (w.alloc (.cells #[.int .i64 xp, .int .i64 xu, .int .i64 xd] 37)).cell? ⟨w.heap.size, j, none⟩ := fun j => hb1.cell (by simp)
  have hlt : w.heap.size < w1.heap.size := by have := hb1.size; simp only [World.alloc, Array.size_push] at this; omega
  have hB1 := hB.trans (hb1.mono hB.size)
  clear hb1 hB
  go_wp2_with fail
  refine Calls.mono (SG.out _) ?_
  rintro e w2 ⟨rfl, hb2⟩
  have k' : ∀ j, w2.cell? ⟨w.heap.size, j, none⟩ = _ := fun j => (hb2.cell hlt).trans (k j)
  have hlt2 : w.heap.size < w2.heap.size := Nat.lt_of_lt_of_le hlt hb2.size
  have k0 := k' 0
  have k1 := k' 1
  have k2 := k' 2
  simp at k0 k1 k2
  have hB2 := hB1.trans (hb2.mono hB1.size)
  clear k k' hlt hb2 hB1 SG
  go_wp2_with fail
  refine Calls.mono (TB.out _) ?_
  rintro e w3 ⟨rfl, hb3⟩
  have hB3 := hB2.trans (hb3.mono hB2.size)
  clear hb3 hB2 TB hlt2 k0 k1 k2
  go_wp2_with fail
  refine Calls.mono (IG.out _) ?_
  rintro e w4 ⟨rfl, hb4⟩
  have hB4 := hB3.trans (hb4.mono hB3.size)
  clear hb4 hB3 IG
  cases R
  all_goals (go_wp2; go_ret; exact ⟨rfl, hB4⟩)
end Go.Proofs.Ytfdjmmoomokccaa
