/- GoodLinks of both, links as pipes: pipesOfOne of the program, l9Pipes and l9Ask of the specification. -/
import Derived.Test.YtpabhjnpbnabiaaRows
import Derived.Test.YtpabhjnpbnabiaaMLK
import Derived.Test.YtpabhjnpbnabiaaCPipesI
import Derived.Test.YtpabhjnpbnabiaaCLinksI
import Derived.Test.YtpabhjnpbnabiaaCLinksS
import Derived.Test.YtpabhjnpbnabiaaCAskI
import Derived.Test.YtpabhjnpbnabiaaCNode8S
import Derived.Test.YtpabhjnpbnabiaaM5
import Derived.WalkKit
import Derived.WalkSpells
import Derived.WalkLawsBesides
import Derived.Outline
namespace Go.Proofs.Ytpabhjnpbnabiaa
open Go.RowKit
set_option maxHeartbeats 1600000 in
set_option maxRecDepth 100000 in
theorem implGoodLinks_any (a : Option Addr) (cap : Nat) (xs : List I2) (w : World) (hn : xs.length ≤ 1048576) (hin : MI2.RowAt w a xs) (R : Bool) (hR : Hid (FL.okP (LK.pip xs) = R)) :
    Calls Try.prog 11 #[.slice a xs.length cap] w fun e w' => e = .returned (.bool R) ∧ Below w.heap.size w w' := by
  have PO : Hid _ := pipesOfOne_any a cap xs w hn hin
  have GP : Hid (∀ (g : Nat) (W : World), MI3.RowAt W (some ⟨g, 0, none⟩) (LK.pip xs) → Calls Try.prog 33 #[.slice (some ⟨g, 0, none⟩) xs.length xs.length] W fun e w' => e = .returned (.bool R) ∧ Below W.heap.size W w') := fun g W h => by
    have := implGoodPipes_any (some ⟨g, 0, none⟩) xs.length (LK.pip xs) W (by rw [LK.pip_len]; exact hn) h R hR
    rwa [LK.pip_len] at this
  clear hin hR
  go_enter Try.func11, Try.ntmps11
  go_wp2_with fail
  refine Calls.mono PO.out ?_
  rintro e w1 ⟨g, rfl, ho, hb1⟩
  have GP2 : Hid _ := GP.out g w1 (MI3.RowAt.of_own ho)
  clear PO GP ho
  go_wp2_with fail
  refine Calls.mono GP2.out ?_
  rintro e w2 ⟨rfl, hb2⟩
  clear GP2
  go_wp2
  go_ret
  exact ⟨rfl, hb1.trans (hb2.mono hb1.size)⟩
set_option maxHeartbeats 1600000 in
set_option maxRecDepth 100000 in
theorem l9Pipes_any (a : Option Addr) (cap : Nat) (xs : List I2) (w : World) (hz : xs.length ≤ 1048576) (hin : MI2.RowAt w a xs) :
    Calls Try.prog 24 #[.slice a xs.length cap] w fun e w' => ∃ a1 c1, e = .returned (.slice a1 xs.length c1) ∧ MI3.RowAt w' a1 (LK.pip xs) ∧ Below w.heap.size w w' := by
  obtain ⟨i0, hi, hz0, hz1, hz2⟩ := info_parts Try.infoPipe9
  have HI : Hid (MI2.RowAt w a xs) := hin
  clear hin
  go_enter Try.func24, Try.ntmps24
  go_wp2
  go_loopw [3, 8] (fun v iv wr => ∃ k : Nat, iv = .int .i64 k ∧ k ≤ xs.length ∧ wr.ownsRow w.heap.size 68 3 v k (MI3.flat (LK.pip (xs.take k))) ∧ Below w.heap.size w wr) (fun _ iv _ => (xs.length - intOf iv).toNat)
  case atStart => exact ⟨0, rfl, by omega, World.ownsRow_nil _ _ _ _, Below.refl _ _⟩
  case round =>
    obtain ⟨k, rfl, hk, hown, hb⟩ := hrel
    have hbs := hb.size
    by_cases hl : k < xs.length
    · obtain ⟨b, off, rfl, hlt, c0, c1⟩ := (HI.out.below hb).at hl
      have HX : Hid (LK.pip (xs.take (k + 1)) = LK.pip (xs.take k) ++ [LK.pip1 (MI2.at_ xs k)]) := LK.pip_snoc xs k hl
      generalize MI2.at_ xs k = x at *
      obtain ⟨x0, x1⟩ := x
      have HB : Hid (Below w.heap.size w (wr.alloc (.cells #[.int .i64 x0, .int .i64 x1] 59))) := hb.alloc hb.size _
      have HO : Hid (World.ownsRow (wr.alloc (.cells #[.int .i64 x0, .int .i64 x1] 59)) w.heap.size 68 3 _ k (MI3.flat (LK.pip (xs.take k)))) := hown.alloc _
      clear hown HI
      go_wp2_with (at_builtin; go_loud (refine wpList_append_own _ rfl _ _ 50 rfl w.heap.size 68 i0 (.agg #[.int .i64 0, .int .i64 0, .int .i64 0]) 3 24 Try.underlying50 hi hz0 hz1 hz2 rfl (by decide) _ _ _ rfl (World.ownsRow.alloc HO.out _) ⟨wr.heap.size + 1, 0, none⟩ 1 1 [.int .i64 x0, .int .i64 x1, .int .i64 1] rfl rfl ?c1 ?c2 ?c3 ?c4 ?c5 ?_))
      all_goals try (first | rfl | omega | exact LK.newN _ _ _ _ (by simp) | exact ⟨rfl, rfl, rfl⟩ | exact LK.oneN [x0, x1, 1] | (unfold maxLen; omega) | (simp; omega))
      intro v' w3 hown1 hgrow _
      have R1 : w3.ownsRow w.heap.size 68 3 v' (k + 1) (MI3.flat (LK.pip (xs.take (k + 1)))) := by
        rw [HX.out, MI3.flat_app]; exact hown1
      have R2 := (HB.out.alloc HB.out.size _).grown hgrow (by have := HB.out.size; simp at this ⊢; omega) (fun j hj => (HO.out.lt j hj).1)
      clear hown1 hgrow HO HB HX
      go_wp2
      go_roundw
      case rel => exact ⟨k + 1, by go_num, by omega, R1, R2⟩
      case measure => simp [intOf]; omega
    · obtain rfl : k = xs.length := by omega
      rw [List.take_length] at hown
      obtain ⟨a3, c3, hv, hr⟩ := LK.own_row hown
      rw [hv] at hown ⊢
      have HR : Hid (MI3.RowAt wr a3 (LK.pip xs)) := hr
      clear hown hr HI
      go_wp2
      go_ret
      exact ⟨a3, c3, rfl, HR.out, hb⟩
end Go.Proofs.Ytpabhjnpbnabiaa
