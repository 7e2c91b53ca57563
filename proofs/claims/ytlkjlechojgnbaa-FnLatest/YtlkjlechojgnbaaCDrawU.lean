/- DrawUsesOf: a plan and a row of numbers. -/
import Derived.Test.YtlkjlechojgnbaaRows
import Derived.Test.YtlkjlechojgnbaaCOver
namespace Go.Proofs.Ytlkjlechojgnbaa
open Go.RowKit
set_option linter.unusedSimpArgs false in
set_option maxHeartbeats 1600000 in
set_option maxRecDepth 100000 in
theorem drawUses_any (a : Option Addr) (zs : List Int) (cap : Nat) (w : World) (hz : zs.length ≤ 140737488355328) (hb : MC.BytesAt w w.heap.size a zs) :
    Calls Try.prog 21 #[.slice a zs.length cap] w fun e w' => ∃ a1 c1 xs a2 c2 os, e = .returned (.tuple #[.slice a1 (List.length xs) c1, .slice a2 (List.length os) c2]) ∧ xs.length ≤ 21 ∧ os.length ≤ 6 ∧ MI5.RowAt w' a1 xs ∧ M4.IntsAt w' a2 os ∧ Below w.heap.size w w' := by
  obtain ⟨i0, hi, hz0, hz1, hz2⟩ := info_parts Try.info3
  go_enter Try.func21, Try.ntmps21
  go_wp2_with fail
  refine (plan_any w.heap.size a zs cap 0 _ hz (by omega) (cur_new hb)).mono ?_
  rintro e w1 ⟨a1, c1, xs, rfl, hxl, hX, hc1, ho1⟩
  have hs1 := hc1.lt
  have HX : Hid (∀ W : World, MC.Only w.heap.size w1 W → MI5.RowAt W a1 xs) := fun W h => by
    obtain ⟨a9, c9, e9, hR9⟩ := PLD.own_row5 (MC.own_only hX h (by simp))
    simp only [Value.slice.injEq] at e9
    obtain ⟨rfl, -, -⟩ := e9
    exact hR9
  have HB1 : Hid _ := new_below rfl ho1
  clear hX hb ho1
  go_wp2_with fail
  refine (over_any w.heap.size a zs cap _ a1 c1 xs _ hz (by omega) hxl hc1 HX).mono ?_
  rintro e w2 ⟨a2, c2, os, rfl, hol, -, hT, hc2, ho2⟩
  have HT : Hid _ := hT
  clear hT hc1
  go_wp2_with fail
  refine (one_any w.heap.size a zs cap _ _ _ hz (by omega) hc2).mono ?_
  rintro e w3 ⟨b, rfl, hc3, ho3⟩
  have hs2 := ho2.size
  have hs3 := ho3.size
  have ho13 := ho2.trans ho3
  have HT3 : Hid _ := MC.own_only HT.out ho3 (by omega)
  clear HT hc2 ho2 ho3
  cases b with
  | false =>
    have hI : M4.IntsAt w3 a2 os := M5.own_ints HT3.out
    have hR := HX.out w3 ho13
    have hB := HB1.out.trans (ho13.below (Nat.le_refl _) (by omega))
    clear HT3 HX HB1 hc3 ho13
    go_wp2
    go_ret2
    exact ⟨a1, c1, xs, a2, c2, os, rfl, hxl, by omega, hR, hI, hB⟩
  | true =>
    go_wp2_with fail
    refine (pick_any w.heap.size a zs cap _ _ _ hz (by omega) hc3).mono ?_
    rintro e w4 ⟨r, rfl, hr, _, hc4, ho4⟩
    have hr2 : r < 22 := by omega
    have ho14 := ho13.trans ho4
    have hs4 := ho4.size
    have HT4 : Hid _ := MC.own_only HT3.out ho4 (by omega)
    clear HT3 hc3 ho13 ho4 hr
    go_wp2_with (at_builtin; refine wpList_append_own _ rfl _ _ 26 rfl w1.heap.size 3 i0 (.int .i64 0) 1 8 Try.underlying26 hi hz0 hz1 hz2 rfl (by decide) _ _ _ rfl (World.ownsRow.alloc HT4.out _) ⟨w4.heap.size, 0, none⟩ 1 1 [.int .i64 ((r : Int) - 1)] rfl rfl ?c1 ?c2 ?c3 ?c4 ?c5 ?_)
    case c1 => exact M2.new1 _ _ _
    case c2 => exact M2.one1 _ _
    case c3 => unfold maxLen; omega
    case c4 => omega
    case c5 => simp; omega
    intro v' wn hown1 hgrow _
    have hl2 : (os ++ [(r : Int) - 1]).length = os.length + 1 := by simp
    have R1 : wn.ownsRow w1.heap.size 3 1 v' (os ++ [(r : Int) - 1]).length (M4.iv (os ++ [(r : Int) - 1])) := by
      rw [hl2]
      simpa [M4.iv] using hown1
    have R3 := (ho14.alloc _).grown hgrow (fun j hj => (World.ownsRow.lt HT4.out j hj).1)
    clear hown1 hgrow HT4 hc4
    generalize os ++ [(r : Int) - 1] = l2 at *
    obtain ⟨av, oc, hv⟩ := M5.own_view R1
    have hv1 := hv.1
    clear hv
    subst hv1
    have hI : M4.IntsAt wn av l2 := M5.own_ints R1
    have hR := HX.out wn R3
    have hB := HB1.out.trans (R3.below (Nat.le_refl _) (by omega))
    clear R1 R3 HX HB1 ho14
    go_wp2
    go_ret2
    exact ⟨a1, c1, xs, av, oc, l2, rfl, hxl, by omega, hR, hI, hB⟩
end Go.Proofs.Ytlkjlechojgnbaa
