/- The law FnExactReadItems answers true at every text. -/
import Derived.Test.YtkpkahhhmoaafaaRows
import Derived.Test.YtkpkahhhmoaafaaCSpecRead
import Derived.Test.YtkpkahhhmoaafaaCEqItemS
import Derived.Test.YtkpkahhhmoaafaaCMarkItemS
import Derived.WalkKit
import Derived.WalkSpells
import Derived.WalkLawsBesides
import Derived.Outline
namespace Go.Proofs.Ytkpkahhhmoaafaa
open Go.RowKit
set_option maxHeartbeats 1600000 in
set_option maxRecDepth 100000 in
theorem lawReadItems_any (s : ByteArray) (w : World) (hs0 : s.size ≤ maxLen) :
    Calls Try.prog 5 #[.string s] w fun e w' => e = .returned (.bool true) ∧ Below w.heap.size w w' := by
  have hs := hs0
  unfold maxLen at hs
  have hrl := M16.read_len s
  by_cases h1 : s.size ≤ 1048576
  · go_enter Try.func5, Try.ntmps5
    go_wp2_with fail
    refine (specReadItems_any s _ hs0).mono ?_
    rintro e w1 ⟨a0, cap0, rfl, own0, B1⟩
    go_wp2_with fail
    refine (implReadItems_any s _ hs0).mono ?_
    rintro e w2 ⟨a1, cap1, rfl, own1, B2⟩
    obtain ⟨xs, hxs⟩ : ∃ xs, xs = (M16.read s).1 := ⟨_, rfl⟩
    obtain ⟨ok, hok⟩ : ∃ ok, ok = (M16.read s).2 := ⟨_, rfl⟩
    rw [← hxs] at own0 own1 hrl ⊢
    rw [← hok]
    have HZ : Hid (xs = (M16.read s).1) := hxs
    have HO : Hid (ok = (M16.read s).2) := hok
    clear hxs hok
    have in0 := own_items own0 rfl
    have in1 := own_items own1 rfl
    clear own0
    have EQ : Hid _ := fun W A B ca cb h1' h2' => eqItemS_any A B ca cb xs xs W (by omega) (by omega) h1' h2'
    have ES : Hid (∀ (W : World) (A B : Option Addr) (ca cb : Nat), M11.ItemsAt W A xs → M11.ItemsAt W B xs → Calls Try.prog 25 #[.slice A xs.length ca, .slice B xs.length cb] W fun e w' => e = .returned (.bool true) ∧ Below W.heap.size W w') := fun W A B ca cb h1' h2' => by
      have := EQ.out W A B ca cb h1' h2'
      simpa using this
    clear EQ
    go_wp2_with fail
    refine (ES.out _ _ _ _ _ in1 (in0.below B2)).mono ?_
    rintro e w3 ⟨rfl, B3⟩
    have own3 := M11.own_below own1 B3
    have C3 := B2.trans (B3.mono B2.size)
    clear in1 own1 B2 B3
    go_wp2_with fail
    refine (markItemS_any w1.heap.size _ xs 1 _ (by omega) (by omega) C3.size own3).mono ?_
    rintro e w4 ⟨rfl, own4, B4⟩
    have C4 := C3.trans B4
    have in4 := own_items own4 (M18.mkI_len _ _)
    clear own3 own4 B4 C3
    go_wp2_with fail
    refine (heldItemS_any _ _ xs.length 1 _ (by omega) (by omega) in4).mono ?_
    rintro e w4' ⟨rfl, B4'⟩
    have C4' := C4.trans (B4'.mono C4.size)
    have in4a := in4.below B4'
    clear in4 B4' C4
    go_wp2_with fail
    refine (implReadItems_any s _ hs0).mono ?_
    rintro e w5 ⟨a2, cap2, rfl, own5, B5⟩
    rw [← HZ.out] at own5 ⊢
    rw [← HO.out]
    have in5 := own_items own5 rfl
    have C5 := C4'.trans (B5.mono C4'.size)
    have in4b := in4a.below B5
    clear own5 in4a C4'
    go_wp2_with fail
    refine (ES.out _ _ _ _ _ in5 (in0.below C5)).mono ?_
    rintro e w6 ⟨rfl, B6⟩
    have C6 := C5.trans (B6.mono C5.size)
    have in6 := in4b.below B6
    clear in4b in5 C5 B6 B5 in0 ES
    go_wp2_with fail
    refine (heldItemS_any _ _ xs.length 1 _ (by omega) (by omega) in6).mono ?_
    rintro e w7 ⟨rfl, B7⟩
    have C7 := C6.trans (B7.mono C6.size)
    clear B7 C6 in6
    go_wp2
    go_ret
    exact ⟨rfl, B1.trans (C7.mono B1.size)⟩
  · go_enter Try.func5, Try.ntmps5
    go_wp2
    go_ret
    exact ⟨rfl, Below.refl _ _⟩
end Go.Proofs.Ytkpkahhhmoaafaa
