/- The program's GoodBundle at any bundle. -/
import Derived.Test.YtdgflhgbcfehhaaRows
import Derived.Test.YtdgflhgbcfehhaaCGoodBundle
import Derived.WalkKit
import Derived.WalkSpells
import Derived.WalkLawsBesides
import Derived.Outline
namespace Go.Proofs.Ytdgflhgbcfehhaa
open Go.RowKit
set_option maxHeartbeats 400000 in
set_option maxRecDepth 100000 in
theorem implGoodBundle_any (b : Bd) (w : World) (hs : b.py.size ≤ 1048576) (R : Bool) (hR : Hid (B1.good b = R)) :
    Calls Try.prog 16 #[b.v] w fun e w' => e = .returned (.bool R) ∧ Below w.heap.size w w' := by
  have IG : Hid _ := fun W => isGood_any b W hs R hR
  have PO : Hid _ := fun W => parcelOf_any b W
  obtain ⟨fr, to, gr, md, no, lf, hp, of, tl, py⟩ := b
  clear hR hs
  go_enter Try.func16, Try.ntmps16
  go_wp2_with fail
  refine Calls.mono (PO.out _) ?_
  rintro e w1 ⟨rfl, hb1⟩
  have hB1 : Below w.heap.size w w1 := ((Below.refl _ w).alloc (Nat.le_refl _) _).trans (hb1.mono (by simp))
  clear PO hb1
  go_wp2_with fail
  refine Calls.mono (IG.out _) ?_
  rintro e w2 ⟨rfl, hb2⟩
  have hB2 := hB1.trans (hb2.mono hB1.size)
  clear IG hb2 hB1
  go_wp2
  go_ret
  exact ⟨rfl, hB2⟩
end Go.Proofs.Ytdgflhgbcfehhaa
