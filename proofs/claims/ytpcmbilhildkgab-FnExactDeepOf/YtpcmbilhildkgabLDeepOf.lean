/- The law FnExactDeepOf answers true at every slice of items. -/
import Derived.Test.YtpcmbilhildkgabRows
import Derived.Test.YtpcmbilhildkgabCToItemS
import Derived.Test.YtpcmbilhildkgabCEqItemS
import Derived.Test.YtpcmbilhildkgabCSzItemS
import Derived.Test.YtpcmbilhildkgabCSpecItems
import Derived.Test.YtpcmbilhildkgabCImplItems
import Derived.WalkKit
import Derived.WalkSpells
import Derived.WalkLawsBesides
import Derived.Outline
namespace Go.Proofs.Ytpcmbilhildkgab
open Go.RowKit
set_option maxHeartbeats 1600000 in
set_option maxRecDepth 100000 in
theorem lawDeepOf_any (a : Option Addr) (len cap : Nat) (xs : List It) (w : World) (hl : len ≤ maxLen) (hx : xs.length = len) (ht : Hid (∀ k, k < xs.length → (M11.at_ xs k).text.size ≤ maxLen)) (hm : Hid (∀ k, k < xs.length → (M11.at_ xs k).many ≤ 9223372036854775807)) (hin : M11.ItemsAt w a xs) :
    Calls Try.prog 4 #[.slice a len cap] w fun e w' => e = .returned (.bool true) ∧ Below w.heap.size w w' := by
  subst hx
  have SZ : Hid _ := szItemS_any a cap xs w hl ht hin
  unfold maxLen at hl
  go_enter Try.func4, Try.ntmps4
  go_wp2_with fail
  refine Calls.mono SZ.out ?_
  rintro e w0 ⟨r, rfl, hr, hb0⟩
  clear SZ
  rcases hr with hr | ⟨hr, h1, hT⟩
  · go_wp2
    go_ret
    exact ⟨rfl, hb0⟩
  · have hwf : Hid (M11.Wf xs) := fun j hj => ⟨hT.out j hj, hm.out j hj⟩
    clear hT ht hm
    go_wp2_with fail
    refine (toItemS_any a cap xs _ h1 (hin.below hb0)).mono ?_
    rintro e w1 ⟨rfl, hin1, hb1⟩
    have hB1 := hb0.trans (hb1.mono hb0.size)
    clear hb0 hb1
    go_wp2_with fail
    refine (specDeepOf_any _ _ xs _ h1 hwf hin1).mono ?_
    rintro e w2 ⟨rfl, hb2⟩
    have hB2 := hB1.trans (hb2.mono hB1.size)
    clear hB1 hb2 hin1
    go_wp2_with fail
    refine (toItemS_any a cap xs _ h1 (hin.below hB2)).mono ?_
    rintro e w3 ⟨rfl, hin3, hb3⟩
    have hB3 := hB2.trans (hb3.mono hB2.size)
    clear hb3 hB2
    go_wp2_with fail
    refine (implDeepOf_any _ _ xs _ h1 hwf hin3).mono ?_
    rintro e w4 ⟨rfl, hb4⟩
    have hin4 := hin3.below hb4
    have hB4 := hB3.trans (hb4.mono hB3.size)
    clear hb4 hin3 hB3
    have EQ : Hid _ := fun W A B h1' h2' => eqItemS_any A B xs.length xs.length xs xs W (by omega) (by omega) h1' h2'
    generalize M12.deepR xs = Dp at *
    generalize M12.good xs = Gd at *
    go_wp2_with fail
    refine (toItemS_any a cap xs _ h1 (hin.below hB4)).mono ?_
    rintro e w5 ⟨rfl, hin5, hb5⟩
    have hin45 := hin4.below hb5
    have hB5 := hB4.trans (hb5.mono hB4.size)
    clear hb5 hin4 hB4
    go_wp2_with fail
    refine Calls.mono (EQ.out _ _ _ hin45 hin5) ?_
    rintro e w6 ⟨rfl, hb6⟩
    have hB6 := hB5.trans (hb6.mono hB5.size)
    clear EQ hin45 hin5 hB5 hb6
    go_wp2
    go_ret
    exact ⟨rfl, hB6⟩
end Go.Proofs.Ytpcmbilhildkgab
