/- markPile and heldPile at any pile of a block of its own: every cell is put, and read again. -/
import Derived.Test.YtjekofjhplhemaaRows
import Derived.Test.YtjekofjhplhemaaCMarkB
import Derived.WalkKit
import Derived.WalkSpells
import Derived.WalkLawsBesides
import Derived.Outline
namespace Go.Proofs.Ytjekofjhplhemaa
open Go.RowKit
set_option linter.unusedSimpArgs false in
set_option maxHeartbeats 400000 in
set_option maxRecDepth 100000 in
theorem markPile_any (a : Option Addr) (g n cap k : Nat) (m : List Value) (w : World) (hz : n ≤ 1048576) (hk : k ≤ 1000000) (hc : m.length = n * 10) (hin : n = 0 ∨ (a = some ⟨g, 0, none⟩ ∧ MA.Rg w g 0 m)) :
    Calls Try.prog 16 #[.agg #[.slice a n cap], .int .i64 (k : Int)] w fun e w' => e = .returned (.int .i64 ((k + 10 * n : Nat) : Int)) ∧ MC.Only g w w' ∧ (n = 0 ∨ MA.Rg w' g 0 (MP.flat (mks k n))) := by
  have MB : Hid _ := fun W h => markB_any a g n cap k m W hz hk hc h
  have hB : Below w.heap.size w (w.alloc (.cells #[.slice a n cap] 31)) := (Below.refl _ w).alloc (Nat.le_refl _) _
  have HI : Hid (n = 0 ∨ (a = some ⟨g, 0, none⟩ ∧ MA.Rg (w.alloc (.cells #[.slice a n cap] 31)) g 0 m)) := hin.imp id fun h => ⟨h.1, h.2.below hB h.2.lt⟩
  clear hin
  go_enter Try.func16, Try.ntmps16
  go_wp2_with fail
  refine (MB.out _ HI.out).mono ?_
  rintro e w2 ⟨rfl, hO, hm⟩
  have hO2 := (MC.Only.of_below (p := g) hB).trans hO
  have HM : Hid _ := hm
  clear MB HI hO hB hm
  go_wp2
  go_ret
  exact ⟨rfl, hO2, HM.out⟩
set_option linter.unusedSimpArgs false in
set_option maxHeartbeats 400000 in
set_option maxRecDepth 100000 in
theorem heldPile_any (a : Option Addr) (g n cap k : Nat) (w : World) (hz : n ≤ 1048576) (hk : k ≤ 1000000) (hin : n = 0 ∨ (a = some ⟨g, 0, none⟩ ∧ MA.Rg w g 0 (MP.flat (mks k n)))) :
    Calls Try.prog 17 #[.agg #[.slice a n cap], .int .i64 (k : Int)] w fun e w' => e = .returned (.int .i64 ((k + 10 * n : Nat) : Int)) ∧ Below w.heap.size w w' := by
  have MB : Hid _ := fun W h => heldB_any a g n cap k W hz hk h
  have hB : Below w.heap.size w (w.alloc (.cells #[.slice a n cap] 31)) := (Below.refl _ w).alloc (Nat.le_refl _) _
  have HI : Hid (n = 0 ∨ (a = some ⟨g, 0, none⟩ ∧ MA.Rg (w.alloc (.cells #[.slice a n cap] 31)) g 0 (MP.flat (mks k n)))) := hin.imp id fun h => ⟨h.1, h.2.below hB h.2.lt⟩
  clear hin
  go_enter Try.func17, Try.ntmps17
  go_wp2_with fail
  refine (MB.out _ HI.out).mono ?_
  rintro e w2 ⟨rfl, hb2⟩
  have hB2 := hB.trans (hb2.mono hB.size)
  clear MB HI hB hb2
  have hk0 : ¬ ((k + 10 * n : Nat) : Int) < 0 := by omega
  go_wp2
  go_ret
  exact ⟨rfl, hB2⟩
end Go.Proofs.Ytjekofjhplhemaa
