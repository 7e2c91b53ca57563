/- The law FnExactAskCell answers true at every cell and time. -/
import Derived.Test.YtgmaeelalkfaaaaDoorRows
import Derived.Test.YtgmaeelalkfaaaaDoorCAskCI
import Derived.Test.YtgmaeelalkfaaaaDoorCAskCS
import Derived.Test.YtgmaeelalkfaaaaDoorCToCell
import Derived.Test.YtgmaeelalkfaaaaDoorCEqCell
import Derived.WalkKit
import Derived.WalkSpells
import Derived.WalkLawsBesides
import Derived.Outline
namespace Go.Proofs.YtgmaeelalkfaaaaDoor
open Go.RowKit
set_option maxHeartbeats 800000 in
set_option maxRecDepth 100000 in
theorem lawAskC_any (c : Ce) (n : Int) (a b : Addr) (w : World) (hE : Er2 w a b) : Calls Tryd.prog 5 #[c.v, .int .i64 n] w fun e w' => e = .returned (.bool true) ∧ Below w.heap.size w w' := by
  have TB : Hid (∀ W : World, Calls Tryd.prog 14 #[c.v] W fun e w' => e = .returned c.v ∧ Below W.heap.size W w') := fun W => toCell_any c W
  have SG : Hid (∀ W : World, Calls Tryd.prog 13 #[c.v, .int .i64 n] W fun e w' => e = .returned (.tuple #[(BK.askC c n).v, .bool (BK.letC c n), .bool (BK.dueOk c n)]) ∧ Below W.heap.size W w') := fun W => specAskC_any c n W
  have IG : Hid (∀ (W : World) (_ : Er2 W a b), Calls Tryd.prog 15 #[c.v, .int .i64 n] W fun e w' => e = .returned (.tuple #[(BK.askC c n).v, .bool (BK.letC c n), .bool (BK.dueOk c n)]) ∧ Below W.heap.size W w') := fun W h => implAskC_any c n a b W h
  generalize BK.askC c n = R at *
  generalize BK.letC c n = M at *
  generalize BK.dueOk c n = K at *
  have HE : Hid _ := hE
  clear hE
  obtain ⟨p, u, d⟩ := c
  obtain ⟨rp, ru, rd⟩ := R
  have hA := BK.At3.new w (.int .i64 p) (.int .i64 u) (.int .i64 d) 33 _ rfl
  have hB : Below w.heap.size w _ := (Below.refl _ w).alloc (Nat.le_refl _) (.cells #[.int .i64 p, .int .i64 u, .int .i64 d] 33)
  go_enter Tryd.func5, Tryd.ntmps5
  go_wp2_with fail
  refine Calls.mono (TB.out _) ?_
  rintro e w1 ⟨rfl, hb1⟩
  have hA1 := hA.below hb1 hA.lt
  have hB1 := hB.trans (hb1.mono hB.size)
  clear hb1 hB hA
  go_wp2_with fail
  refine Calls.mono (SG.out _) ?_
  rintro e w2 ⟨rfl, hb2⟩
  have hA2 := (hA1.below hb2 hA1.lt).alloc (.cells #[.int .i64 rp, .int .i64 ru, .int .i64 rd] 34)
  have hX2 := BK.At3.new w2 (.int .i64 rp) (.int .i64 ru) (.int .i64 rd) 34 _ rfl
  have hB2 := (hB1.trans (hb2.mono hB1.size)).alloc (Nat.le_trans hB1.size hb2.size) (.cells #[.int .i64 rp, .int .i64 ru, .int .i64 rd] 34)
  obtain ⟨k0, k1, k2⟩ := hA2.cells
  have hltA := hA2.lt
  clear hb2 hB1 SG hA1 hA2
  go_wp2_with fail
  refine Calls.mono (TB.out _) ?_
  rintro e w3 ⟨rfl, hb3⟩
  have hX3 := hX2.below hb3 hX2.lt
  have hB3 := hB2.trans (hb3.mono hB2.size)
  clear hb3 hB2 TB k0 k1 k2 hX2 hltA
  go_wp2_with fail
  refine Calls.mono (IG.out _ (HE.out.below hB3 (Nat.le_refl _))) ?_
  rintro e w4 ⟨rfl, hb4⟩
  have hX4 := hX3.below hb4 hX3.lt
  have hB4 := hB3.trans (hb4.mono hB3.size)
  have hs4 := Nat.le_trans hB3.size hb4.size
  obtain ⟨k0, k1, k2⟩ := hX4.cells
  have hltX := hX4.lt
  clear hb4 hB3 IG HE hX3 hX4
  have hB5 := hB4.alloc hs4 (.cells #[.int .i64 rp, .int .i64 ru, .int .i64 rd] 34)
  clear hB4
  go_wp2_with fail
  refine (eqCell_any ⟨rp, ru, rd⟩ _).mono ?_
  rintro e w5 ⟨rfl, hb5⟩
  have hB6 := hB5.trans (hb5.mono hB5.size)
  clear hb5 hB5 k0 k1 k2 hltX hs4
  cases K <;> cases M
  all_goals (go_wp2; go_ret; exact ⟨rfl, hB6⟩)
end Go.Proofs.YtgmaeelalkfaaaaDoor
