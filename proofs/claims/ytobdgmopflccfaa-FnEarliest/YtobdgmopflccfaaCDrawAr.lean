/- DrawArriveBy: a plan, a start and contacts, drawn. -/
import Derived.Test.YtobdgmopflccfaaRows
import Derived.Test.YtobdgmopflccfaaCPlanE
import Derived.Test.YtobdgmopflccfaaCOver
namespace Go.Proofs.Ytobdgmopflccfaa
open Go.RowKit
set_option linter.unusedSimpArgs false in
set_option maxHeartbeats 1600000 in
set_option maxRecDepth 100000 in
theorem drawArrive_any (a : Option Addr) (zs : List Int) (cap : Nat) (w : World) (hz : zs.length ≤ 140737488355328) (hb : MC.BytesAt w w.heap.size a zs) :
    Calls Try.prog 13 #[.slice a zs.length cap] w fun e w' => ∃ a1 c1 xs f t a2 c2 os, e = .returned (.tuple #[.slice a1 (List.length xs) c1, .int .i64 f, .int .i64 t, .slice a2 (List.length os) c2]) ∧ xs.length ≤ 21 ∧ os.length ≤ 5 ∧ MI5.RowAt w' a1 xs ∧ M4.IntsAt w' a2 os ∧ Below w.heap.size w w' := by
  go_enter Try.func13, Try.ntmps13
  go_wp2_with fail
  refine (plan_any w.heap.size a zs cap 0 _ hz (by omega) (cur_new hb)).mono ?_
  rintro e w1 ⟨a1, c1, xs, rfl, hxl, hX, hc1, ho1⟩
  have hs1 := hc1.lt
  have HX : Hid (∀ W : World, MC.Only w.heap.size w1 W → MI5.RowAt W a1 xs) := fun W h => by
    obtain ⟨a9, c9, e9, hR9⟩ := PLD.own_row5 (MC.own_only hX h (by simp))
    simp only [Value.slice.injEq] at e9
    obtain ⟨rfl, -, -⟩ := e9
    exact hR9
  have HB1 : Hid _ := new_below rfl ho1
  clear hX hb ho1
  go_wp2_with fail
  refine (over_any w.heap.size a zs cap _ a1 c1 xs _ hz (by omega) hxl hc1 HX).mono ?_
  rintro e w2 ⟨a2, c2, os, rfl, hol, hor, hT, hc2, ho2⟩
  have HT : Hid _ := hT
  have HOR : Hid (∀ o ∈ os, 0 ≤ o ∧ o < (xs.length : Int)) := hor
  have hs2 := ho2.size
  clear hT hc1 hor
  go_wp2_with fail
  refine (pick_any w.heap.size a zs cap _ _ _ hz (by omega) hc2).mono ?_
  rintro e w3 ⟨r, rfl, _, _, hc3, ho3⟩
  have ho13 := ho2.trans ho3
  have HT3 : Hid (World.ownsRow w3 w1.heap.size 3 1 (.slice a2 os.length c2) os.length (M4.iv os)) := MC.own_only HT.out ho3 (by omega)
  have hs3 := ho13.size
  clear HT hc2 ho2 ho3
  have FIN : Hid (∀ W, MC.Only w.heap.size w1 W → Below w.heap.size w W) := fun W h => HB1.out.trans (h.below (Nat.le_refl _) HB1.out.size)
  by_cases h0 : 0 < os.length
  · have h0z : (0 : Int) < (os.length : Int) := by omega
    go_wp2_with fail
    refine (one_any w.heap.size a zs cap _ _ _ hz (by omega) hc3).mono ?_
    rintro e w4 ⟨b, rfl, hc4, ho4⟩
    have ho14 := ho13.trans ho4
    have HT4 : Hid (World.ownsRow w4 w1.heap.size 3 1 (.slice a2 os.length c2) os.length (M4.iv os)) := MC.own_only HT3.out ho4 (by omega)
    have hs4 := ho14.size
    clear hc3 ho4 HT3 ho13
    cases b with
    | true =>
      go_wp2_with fail
      refine (pick_any w.heap.size a zs cap _ _ _ hz (by omega) hc4).mono ?_
      rintro e w5 ⟨r5, rfl, _, _, hc5, ho5⟩
      have ho15 := ho14.trans ho5
      have hR5 := HX.out w5 ho15
      have hT5 : M4.IntsAt w5 a2 os := M5.own_ints (MC.own_only HT4.out ho5 (by omega))
      have HR5 : Hid _ := hR5
      have HT5 : Hid _ := hT5
      clear hc4 ho5 HT4 HX hR5 hT5 ho14
      go_wp2
      exact bodyPost_ret (results_tmp4L rfl _ _ _) rfl ⟨a1, c1, xs, _, _, a2, c2, os, rfl, hxl, hol, HR5.out, HT5.out, FIN.out _ ho15⟩
    | false =>
      obtain ⟨b6, off6, rfl, hlt6, hc6⟩ := (M5.own_ints HT4.out).at (k := 0) h0
      have hm := HOR.out (os.getD 0 0) (by rw [List.getD_eq_getElem?_getD, List.getElem?_eq_getElem h0]; exact List.getElem_mem h0)
      obtain ⟨z, hz0⟩ := Int.eq_ofNat_of_zero_le hm.1
      rw [hz0] at hc6 hm
      rw [Nat.add_zero] at hc6
      have hzx : z < xs.length := by omega
      obtain ⟨b8, off8, rfl, hlt8, hc8, -, -, -, -⟩ := (HX.out w4 ho14).at hzx
      generalize (MI5.at_ xs z).a0 = ff at hc8
      clear hm hz0
      go_wp2_with fail
      refine (pick_any w.heap.size a zs cap _ _ _ hz (by omega) hc4).mono ?_
      rintro e w5 ⟨r5, rfl, _, _, hc5, ho5⟩
      have ho15 := ho14.trans ho5
      have hR5 := HX.out w5 ho15
      have hT5 : M4.IntsAt w5 (some ⟨b6, off6, none⟩) os := M5.own_ints (MC.own_only HT4.out ho5 (by omega))
      have HR5 : Hid _ := hR5
      have HT5 : Hid _ := hT5
      clear hc4 ho5 HT4 HX hR5 hT5 ho14
      go_wp2
      exact bodyPost_ret (results_tmp4L rfl _ _ _) rfl ⟨_, c1, xs, _, _, _, c2, os, rfl, hxl, hol, HR5.out, HT5.out, FIN.out _ ho15⟩
  · have h0z : ¬ (0 : Int) < (os.length : Int) := by omega
    go_wp2_with fail
    refine (pick_any w.heap.size a zs cap _ _ _ hz (by omega) hc3).mono ?_
    rintro e w5 ⟨r5, rfl, _, _, hc5, ho5⟩
    have ho15 := ho13.trans ho5
    have hR5 := HX.out w5 ho15
    have hT5 : M4.IntsAt w5 a2 os := M5.own_ints (MC.own_only HT3.out ho5 (by omega))
    have HR5 : Hid _ := hR5
    have HT5 : Hid _ := hT5
    clear hc3 ho5 HT3 HX hR5 hT5 ho13
    go_wp2
    exact bodyPost_ret (results_tmp4L rfl _ _ _) rfl ⟨a1, c1, xs, _, _, a2, c2, os, rfl, hxl, hol, HR5.out, HT5.out, FIN.out _ ho15⟩
end Go.Proofs.Ytobdgmopflccfaa
