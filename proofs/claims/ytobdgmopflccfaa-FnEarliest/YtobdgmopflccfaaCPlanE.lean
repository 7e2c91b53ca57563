/- Draws of plans: a time, and what LatestFor, OpenAt and EarliestFrom are asked. -/
import Derived.Test.YtobdgmopflccfaaRows
import Derived.Test.YtobdgmopflccfaaCPlanD
import Derived.Test.YtobdgmopflccfaaRet3
namespace Go.Proofs.Ytobdgmopflccfaa
open Go.RowKit
theorem results_tmp4L {fn : Func} {t u v x : Tmp} (h : fn.results = #[.tmp t, .tmp u, .tmp v, .tmp x]) (tmps : Array Value) (P : Program) (w : World) :
    (results fn tmps).run P w = .ok (.tuple #[tmps.getD t undef, tmps.getD u undef, tmps.getD v undef, tmps.getD x undef]) w := by
  simp [results, h]
set_option linter.unusedSimpArgs false in
set_option maxHeartbeats 1600000 in
set_option maxRecDepth 100000 in
theorem whenTo_any (p : Nat) (a : Option Addr) (zs : List Int) (cap M : Nat) (w : World) (hz : zs.length ≤ 140737488355328) (hM : M ≤ 140737488340000) (hc : MC.Cur w p a zs cap M) :
    Calls Try.prog 26 #[.pointer (some ⟨p, 0, none⟩)] w fun e w' => ∃ z : Int, e = .returned (.int .i64 z) ∧ (-1 ≤ z ∧ z ≤ 1001) ∧ MC.Cur w' p a zs cap (M + 4) ∧ MC.Only p w w' := by
  have hplt := hc.lt
  go_enter Try.func26, Try.ntmps26
  go_wp2_with fail
  refine (one_any p a zs cap M _ _ hz (by omega) hc).mono ?_
  rintro e w1 ⟨b, rfl, hc1, ho1⟩
  have hs1 := ho1.size
  clear hc
  cases b with
  | false =>
    go_wp2_with fail
    refine (pick_any p a zs cap (M + 2) _ _ hz (by omega) hc1).mono ?_
    rintro e w2 ⟨r, rfl, hr, _, hc2, ho2⟩
    have hr5 : r < 50 := by omega
    have hoA := ho1.trans ho2
    clear ho1 ho2 hc1 hr
    go_wp2
    go_ret
    exact ⟨r, rfl, ⟨by omega, by omega⟩, hc2, hoA⟩
  | true =>
    go_wp2_with fail
    refine (among_any p a zs cap (M + 2) (some ⟨w1.heap.size, 0, none⟩) [-1, 1000, 1001] 3 _ hz (by omega) (hc1.alloc _) (by simp) (by simp) ?_ ?_).mono ?_
    · exact .inr ⟨w1.heap.size, 0, rfl, by simp, fun j hj => by
        rw [Nat.zero_add]
        have h3 : j < 3 := hj
        rcases (show j = 0 ∨ j = 1 ∨ j = 2 by omega) with rfl | rfl | rfl <;> exact World.cell?_alloc_at _ _ _ _ (by rfl)⟩
    · intro b off hb; cases hb; have := hc1.lt; omega
    rintro e w2 ⟨z, rfl, hz2, hc2, ho2⟩
    have hoA := (ho1.alloc (.cells #[.int .i64 (-1), .int .i64 1000, .int .i64 1001] 3)).trans ho2
    have hzz : -1 ≤ z ∧ z ≤ 1001 := by simp at hz2; omega
    clear ho1 ho2 hc1 hz2
    go_wp2
    go_ret
    exact ⟨z, rfl, hzz, hc2, hoA⟩
set_option linter.unusedSimpArgs false in
set_option maxHeartbeats 1600000 in
set_option maxRecDepth 100000 in
theorem drawOpenAt_any (a : Option Addr) (zs : List Int) (cap : Nat) (w : World) (hz : zs.length ≤ 140737488355328) (hb : MC.BytesAt w w.heap.size a zs) :
    Calls Try.prog 18 #[.slice a zs.length cap] w fun e w' => ∃ a1 c1 xs t, e = .returned (.tuple #[.slice a1 (List.length xs) c1, .int .i64 t]) ∧ (-1 ≤ t ∧ t ≤ 1001) ∧ xs.length ≤ 21 ∧ MI5.RowAt w' a1 xs ∧ Below w.heap.size w w' := by
  go_enter Try.func18, Try.ntmps18
  go_wp2_with fail
  refine (plan_any w.heap.size a zs cap 0 _ hz (by omega) (cur_new hb)).mono ?_
  rintro e w1 ⟨a1, c1, xs, rfl, hxl, hX, hc1, ho1⟩
  have HX : Hid _ := hX
  have HO1 : Hid _ := ho1
  clear hX hb ho1
  go_wp2_with fail
  refine (whenTo_any w.heap.size a zs cap _ _ hz (by omega) hc1).mono ?_
  rintro e w2 ⟨t, rfl, ht, hc2, ho2⟩
  have hR : MI5.RowAt w2 a1 xs := by
    obtain ⟨a9, c9, e9, hR9⟩ := PLD.own_row5 (MC.own_only HX.out ho2 (by simp))
    simp only [Value.slice.injEq] at e9
    obtain ⟨rfl, -, -⟩ := e9
    exact hR9
  have hB1 := new_below rfl (HO1.out.trans ho2)
  clear HX HO1 ho2 hc1 hc2
  go_wp2
  go_ret2
  exact ⟨a1, c1, xs, t, rfl, ht, hxl, hR, hB1⟩
set_option linter.unusedSimpArgs false in
set_option maxHeartbeats 1600000 in
set_option maxRecDepth 100000 in
theorem drawEarliest_any (a : Option Addr) (zs : List Int) (cap : Nat) (w : World) (hz : zs.length ≤ 140737488355328) (hb : MC.BytesAt w w.heap.size a zs) :
    Calls Try.prog 5 #[.slice a zs.length cap] w fun e w' => ∃ a1 c1 xs f t, e = .returned (.tuple #[.slice a1 (List.length xs) c1, .int .i64 f, .int .i64 t]) ∧ (0 ≤ f ∧ f ≤ 5) ∧ (-1 ≤ t ∧ t ≤ 1001) ∧ xs.length ≤ 21 ∧ MI5.RowAt w' a1 xs ∧ Below w.heap.size w w' := by
  go_enter Try.func5, Try.ntmps5
  go_wp2_with fail
  refine (plan_any w.heap.size a zs cap 0 _ hz (by omega) (cur_new hb)).mono ?_
  rintro e w1 ⟨a1, c1, xs, rfl, hxl, hX, hc1, ho1⟩
  have HX : Hid _ := hX
  have HO1 : Hid _ := ho1
  clear hX hb ho1
  go_wp2_with fail
  refine (pick_any w.heap.size a zs cap _ _ _ hz (by omega) hc1).mono ?_
  rintro e w2 ⟨r, rfl, hr, _, hc2, ho2⟩
  have hr6 : r < 6 := by omega
  have HO2 : Hid _ := ho2
  clear ho2 hc1 hr
  go_wp2_with fail
  refine (whenTo_any w.heap.size a zs cap _ _ hz (by omega) hc2).mono ?_
  rintro e w3 ⟨t, rfl, ht, hc3, ho3⟩
  have ho23 := HO2.out.trans ho3
  have hR : MI5.RowAt w3 a1 xs := by
    obtain ⟨a9, c9, e9, hR9⟩ := PLD.own_row5 (MC.own_only HX.out ho23 (by simp))
    simp only [Value.slice.injEq] at e9
    obtain ⟨rfl, -, -⟩ := e9
    exact hR9
  have hB1 := new_below rfl (HO1.out.trans ho23)
  clear HX HO1 HO2 ho3 ho23 hc2 hc3
  go_wp2
  go_ret3
  exact ⟨a1, c1, xs, r, t, rfl, ⟨by omega, by omega⟩, ht, hxl, hR, hB1⟩
set_option linter.unusedSimpArgs false in
set_option maxHeartbeats 1600000 in
set_option maxRecDepth 100000 in
theorem drawLatest_any (a : Option Addr) (zs : List Int) (cap : Nat) (w : World) (hz : zs.length ≤ 140737488355328) (hb : MC.BytesAt w w.heap.size a zs) :
    Calls Try.prog 15 #[.slice a zs.length cap] w fun e w' => ∃ a1 c1 xs f t b, e = .returned (.tuple #[.slice a1 (List.length xs) c1, .int .i64 f, .int .i64 t, .int .i64 b]) ∧ (0 ≤ f ∧ f ≤ 4) ∧ (0 ≤ t ∧ t ≤ 4) ∧ (-1 ≤ b ∧ b ≤ 2001) ∧ xs.length ≤ 21 ∧ MI5.RowAt w' a1 xs ∧ Below w.heap.size w w' := by
  go_enter Try.func15, Try.ntmps15
  go_wp2_with fail
  refine (plan_any w.heap.size a zs cap 0 _ hz (by omega) (cur_new hb)).mono ?_
  rintro e w1 ⟨a1, c1, xs, rfl, hxl, hX, hc1, ho1⟩
  have HX : Hid _ := hX
  have HO1 : Hid _ := ho1
  have hs1 := hc1.lt
  clear hX hb ho1
  go_wp2_with fail
  refine (pick_any w.heap.size a zs cap _ _ _ hz (by omega) hc1).mono ?_
  rintro e w2 ⟨r, rfl, hr, _, hc2, ho2⟩
  have hr6 : r < 5 := by omega
  have HO2 : Hid _ := ho2
  clear ho2 hc1 hr
  go_wp2_with fail
  refine (pick_any w.heap.size a zs cap _ _ _ hz (by omega) hc2).mono ?_
  rintro e w3 ⟨s, rfl, hs, _, hc3, ho3⟩
  have hs6 : s < 5 := by omega
  have HO3 : Hid _ := HO2.out.trans ho3
  clear ho3 hc2 hs HO2
  go_wp2_with fail
  refine (among_any w.heap.size a zs cap _ (some ⟨w3.heap.size, 0, none⟩) [-1, 0, 30, 60, 100, 2000, 2001] 7 _ hz (by omega) (hc3.alloc _) (by simp) (by simp) ?_ ?_).mono ?_
  · exact .inr ⟨w3.heap.size, 0, rfl, by simp, fun j hj => by
      rw [Nat.zero_add]
      have h3 : j < 7 := hj
      rcases (show j = 0 ∨ j = 1 ∨ j = 2 ∨ j = 3 ∨ j = 4 ∨ j = 5 ∨ j = 6 by omega) with rfl | rfl | rfl | rfl | rfl | rfl | rfl <;> exact World.cell?_alloc_at _ _ _ _ (by rfl)⟩
  · intro b off hb; cases hb; have := hc3.lt; omega
  rintro e w4 ⟨z, rfl, hz2, hc4, ho4⟩
  have hzz : -1 ≤ z ∧ z ≤ 2001 := by simp at hz2; omega
  have ho34 := (HO3.out.alloc (.cells #[.int .i64 (-1), .int .i64 0, .int .i64 30, .int .i64 60, .int .i64 100, .int .i64 2000, .int .i64 2001] 3)).trans ho4
  have hR : MI5.RowAt w4 a1 xs := by
    obtain ⟨a9, c9, e9, hR9⟩ := PLD.own_row5 (MC.own_only HX.out ho34 (by simp))
    simp only [Value.slice.injEq] at e9
    obtain ⟨rfl, -, -⟩ := e9
    exact hR9
  have hB1 := new_below rfl (HO1.out.trans ho34)
  clear HX HO1 HO3 ho4 ho34 hc3 hc4 hz2
  go_wp2
  refine bodyPost_ret (results_tmp4L rfl _ _ _) rfl ?_
  exact ⟨a1, c1, xs, r, s, z, rfl, ⟨by omega, by omega⟩, ⟨by omega, by omega⟩, hzz, hxl, hR, hB1⟩
end Go.Proofs.Ytobdgmopflccfaa
