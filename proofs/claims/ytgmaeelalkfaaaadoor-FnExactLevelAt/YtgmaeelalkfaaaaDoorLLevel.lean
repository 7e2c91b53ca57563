/- The law FnExactLevelAt answers true at every bucket and time. -/
import Derived.Test.YtgmaeelalkfaaaaDoorRows
import Derived.Test.YtgmaeelalkfaaaaDoorCLevI
import Derived.Test.YtgmaeelalkfaaaaDoorCLevS
import Derived.Test.YtgmaeelalkfaaaaDoorCToBucket
import Derived.WalkKit
import Derived.WalkSpells
import Derived.WalkLawsBesides
import Derived.Outline
namespace Go.Proofs.YtgmaeelalkfaaaaDoor
open Go.RowKit
set_option maxHeartbeats 800000 in
set_option maxRecDepth 100000 in
theorem lawLevel_any (b : Bk) (n : Int) (a : Addr) (w : World) (hE : Er1 w a) : Calls Tryd.prog 3 #[b.v, .int .i64 n] w fun e w' => e = .returned (.bool true) ∧ Below w.heap.size w w' := by
  have TB : Hid (∀ W : World, Calls Tryd.prog 8 #[b.v] W fun e w' => e = .returned b.v ∧ Below W.heap.size W w') := fun W => toBucket_any b W
  have SG : Hid (∀ W : World, Calls Tryd.prog 7 #[b.v, .int .i64 n] W fun e w' => e = .returned (.tuple #[.int .i64 (BK.lev b n), .bool (BK.levOk b n)]) ∧ Below W.heap.size W w') := fun W => specLevel_any b n W
  have IG : Hid (∀ (W : World) (_ : Er1 W a), Calls Tryd.prog 9 #[b.v, .int .i64 n] W fun e w' => e = .returned (.tuple #[.int .i64 (BK.lev b n), .bool (BK.levOk b n)]) ∧ Below W.heap.size W w') := fun W h => implLevel_any b n a W h
  generalize BK.lev b n = L at *
  generalize BK.levOk b n = K at *
  have HE : Hid _ := hE
  clear hE
  obtain ⟨p, u, l, t⟩ := b
  have hB : Below w.heap.size w _ := (Below.refl _ w).alloc (Nat.le_refl _) (.cells #[.int .i64 p, .int .i64 u, .int .i64 l, .int .i64 t] 23)
  go_enter Tryd.func3, Tryd.ntmps3
  go_wp2_with fail
  refine Calls.mono (TB.out _) ?_
  rintro e w1 ⟨rfl, hb1⟩
  have k : ∀ j, w1.cell? ⟨w.heap.size, j, none⟩ = (w.alloc (.cells #[.int .i64 p, .int .i64 u, .int .i64 l, .int .i64 t] 23)).cell? ⟨w.heap.size, j, none⟩ := fun j => hb1.cell (by simp)
  have hlt : w.heap.size < w1.heap.size := by have := hb1.size; simp only [World.alloc, Array.size_push] at this; omega
  have hB1 := hB.trans (hb1.mono hB.size)
  clear hb1 hB
  go_wp2_with fail
  refine Calls.mono (SG.out _) ?_
  rintro e w2 ⟨rfl, hb2⟩
  have k' : ∀ j, w2.cell? ⟨w.heap.size, j, none⟩ = _ := fun j => (hb2.cell hlt).trans (k j)
  have hlt2 : w.heap.size < w2.heap.size := Nat.lt_of_lt_of_le hlt hb2.size
  have k0 := k' 0
  have k1 := k' 1
  have k2 := k' 2
  have k3 := k' 3
  simp at k0 k1 k2 k3
  have hB2 := hB1.trans (hb2.mono hB1.size)
  clear k k' hlt hb2 hB1 SG
  go_wp2_with fail
  refine Calls.mono (TB.out _) ?_
  rintro e w3 ⟨rfl, hb3⟩
  have hB3 := hB2.trans (hb3.mono hB2.size)
  clear hb3 hB2 TB hlt2 k0 k1 k2 k3
  go_wp2_with fail
  refine Calls.mono (IG.out _ (HE.out.below hB3 (Nat.le_refl _))) ?_
  rintro e w4 ⟨rfl, hb4⟩
  have hB4 := hB3.trans (hb4.mono hB3.size)
  clear hb4 hB3 IG HE
  cases K
  all_goals (go_wp2; go_ret; exact ⟨rfl, hB4⟩)
end Go.Proofs.YtgmaeelalkfaaaaDoor
