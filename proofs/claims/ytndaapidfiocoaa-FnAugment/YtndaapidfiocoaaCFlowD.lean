/- A flow that is drawn: the cursor's flow (laid by tools/gen_flowd.py). -/
import Derived.Test.YtndaapidfiocoaaRows
import Derived.Test.YtndaapidfiocoaaMFA
import Derived.Test.YtndaapidfiocoaaCAmong
import Derived.Test.YtndaapidfiocoaaCOnceS
import Derived.Test.YtndaapidfiocoaaMRP
import Derived.Test.YtndaapidfiocoaaMInfo
import Derived.Test.YtndaapidfiocoaaM5
import Derived.WalkKit
import Derived.WalkSpells
import Derived.WalkLawsBesides
import Derived.Outline
import Derived.Deep.RegionHeld3
import Derived.BigRegion
namespace Go.Proofs.Ytndaapidfiocoaa
open Go.RowKit
theorem MC.Only.drewF {p : Nat} {w w' : World} (h : MC.Only p w w') : MC.Only p w w'.drew := ⟨h.os, h.tape, h.output, h.size, h.block⟩
namespace FL
theorem iv_set (fs : List Int) (r : Nat) (z : Int) : M4.iv (fs.set r z) = (M4.iv fs).set r (.int .i64 z) := by simp [M4.iv, List.map_set]
/-- Small numbers, as many at most. -/
structure Bd (fs : List Int) : Prop where
  len : fs.length ≤ 21
  lo : ∀ j, 0 ≤ fs.getD j 0 ∧ fs.getD j 0 ≤ 100
theorem Bd.zero {n : Nat} (h : n ≤ 21) : Bd (List.replicate n 0) := ⟨by simpa using h, fun j => by
  rw [List.getD_eq_getElem?_getD, List.getElem?_replicate]; split <;> simp⟩
theorem Bd.aug {xs : List I3} {f t : Int} {fs : List Int} (hb : agB xs f t fs = true) (hl : xs.length ≤ 21) : Bd (agL xs f t fs) := by
  have h : isR xs f t fs = true := by simp only [agB, Bool.and_eq_true] at hb; exact hb.1
  obtain ⟨A, h2, h3⟩ := isR_ask (aug_flow h hb).1
  refine ⟨by omega, fun j => ?_⟩
  by_cases hj : j < xs.length
  · have := h3 j hj; have := (A.good hj).c1; omega
  · rw [List.getD_eq_getElem?_getD, List.getElem?_eq_none (by omega)]; simp
end FL
set_option linter.unusedSimpArgs false in
set_option maxHeartbeats 3200000 in
set_option maxRecDepth 100000 in
theorem flowD_any (p : Nat) (a : Option Addr) (zs : List Int) (cap M : Nat) (la : Option Addr) (lc0 : Nat) (xs : List I3) (f t : Int) (w : World) (hz : zs.length ≤ 140737488355328) (hM : M ≤ 140737488340000) (hc : MC.Cur w p a zs cap M) (hx : xs.length ≤ 21) (hX : ∀ W : World, MC.Only p w W → MI3.RowAt W la xs) :
    Calls Try.prog 59 #[.pointer (some ⟨p, 0, none⟩), .slice la xs.length lc0, .int .i64 f, .int .i64 t] w fun e w' => ∃ a1 c1 l, e = .returned (.slice a1 (List.length l) c1) ∧ l.length ≤ 22 ∧ w'.ownsRow w.heap.size 3 1 (.slice a1 l.length c1) l.length (M4.iv l) ∧ MC.Cur w' p a zs cap (M + 20) ∧ MC.Only p w w' := by
  obtain ⟨i0, hi, hz0, hz1, hz2⟩ := info_parts Try.info3
  have hplt := hc.lt
  have HX : Hid (∀ W : World, MC.Only p w W → MI3.RowAt W la xs) := hX
  clear hX
  go_enter Try.func59, Try.ntmps59
  go_wp2_with (at_make; refine wpList_make_full _ rfl _ _ 26 rfl w.heap.size 3 i0 (.int .i64 0) 1 Try.underlying26 hi hz0 hz1 .i64 .i64 _ _ xs.length rfl rfl rfl rfl ?_ ?_ ?_ ?_)
  · rw [hz2]; omega
  · unfold maxLen; omega
  · omega
  intro w1 hown hgrow
  rw [M4.made_iv] at hown
  have hb1 : Below w.heap.size w w1 := (Below.refl _ _).grown hgrow (Nat.le_refl _) (fun k hk => by cases hk)
  have HOW : Hid (World.ownsRow w1 w.heap.size 3 1 (.slice (some ⟨w.heap.size, 0, none⟩) xs.length xs.length) xs.length (M4.iv (List.replicate xs.length 0))) := hown
  have hc1 := hc.below hb1
  have ho1 : MC.Only p w w1 := MC.Only.of_below hb1
  clear hgrow hown hb1 hc
  go_wp2_with fail
  refine (pick_any p a zs cap M _ _ hz (by omega) hc1).mono ?_
  rintro e w2 ⟨r, rfl, hr, _, hc2, ho2⟩
  have hr4 : r < 4 := by omega
  have HO2 : Hid (World.ownsRow w2 w.heap.size 3 1 (.slice (some ⟨w.heap.size, 0, none⟩) xs.length xs.length) xs.length (M4.iv (List.replicate xs.length 0))) := MC.own_only HOW.out ho2 hplt
  have ho02 := ho1.trans ho2
  have HB0 : Hid (FL.Bd (List.replicate xs.length 0)) := FL.Bd.zero hx
  clear hc1 ho1 ho2 HOW hr
  go_wp2_with fail
  go_loopw [9, 10, 11, 12, 13] (fun v nv _ _ _ wr => ∃ (m n : Nat) (fs : List Int) (la2 : Option Addr) (c : Nat), nv = .int .i64 m ∧ m ≤ 3 ∧ v = .slice la2 n c ∧ fs.length = n ∧ n ≤ 21 ∧ Hid (FL.Bd fs) ∧ Hid (World.ownsRow wr w.heap.size 3 1 (.slice la2 n c) n (M4.iv fs)) ∧ Hid (MC.Cur wr p a zs cap (M + 2)) ∧ MC.Only p w wr) (fun _ nv _ _ _ _ => (intOf nv).toNat)
  case atStart => exact ⟨r, xs.length, List.replicate xs.length 0, _, _, rfl, by omega, rfl, by simp, hx, HB0, HO2, hc2, ho02⟩
  case round =>
    clear HB0 HO2 hc2 ho02
    obtain ⟨m, n, fs, la2, c, rfl, hm, rfl, hfn, hn21, HBD, HOF, HCF, hof⟩ := hrel
    rename World => w3
    by_cases hm0 : 0 < m
    · have m0 : (0 : Int) < (m : Int) := by omega
      have SA : Hid _ := specAugment_any la la2 lc0 c xs fs f t w3 (by omega) (by omega) (HX.out w3 hof) (M5.own_ints HOF.out)
      rw [hfn] at SA
      have HAB : Hid (FL.agB xs f t fs = true → FL.Bd (FL.agL xs f t fs)) := fun h => FL.Bd.aug h hx
      generalize FL.agL xs f t fs = AL at *
      generalize FL.agN xs f t fs = AN at *
      generalize FL.agB xs f t fs = AB at *
      go_wp2_with fail
      refine Calls.mono SA.out ?_
      rintro e w4 ⟨a4, c4, rfl, o4, b4⟩
      have HC4 : Hid (MC.Cur w4 p a zs cap (M + 2)) := HCF.out.below b4
      have ho4 := hof.trans (MC.Only.of_below b4)
      have hs4 := hof.size
      cases AB with
      | false =>
        have HO4 : Hid (World.ownsRow w4 w.heap.size 3 1 (.slice la2 n c) n (M4.iv fs)) := M5.own_below HOF.out b4
        clear SA HAB o4 b4 HOF HCF hof
        go_wp2
        go_roundw
        case rel => exact ⟨m - 1, n, fs, la2, c, by go_num, by omega, rfl, hfn, hn21, HBD, HO4, HC4, ho4⟩
        case measure => simp [intOf]; omega
      | true =>
        have HB4 : Hid (FL.Bd AL) := HAB.out rfl
        have HO4 : Hid (World.ownsRow w4 w.heap.size 3 1 (.slice a4 AL.length c4) AL.length (M4.iv AL)) := FL.own_base o4 hs4
        have hAl := HB4.out.len
        clear SA HAB o4 b4 HOF HCF hof
        go_wp2
        go_roundw
        case rel => exact ⟨m - 1, AL.length, AL, a4, c4, by go_num, by omega, rfl, rfl, hAl, HB4, HO4, HC4, ho4⟩
        case measure => simp [intOf]; omega
    · obtain rfl : m = 0 := by omega
      have ho03 := hof
      by_cases hn0 : 0 < n
      · have hnz : (0 : Int) < (n : Int) := by omega
        obtain ⟨g, rfl⟩ : ∃ g, la2 = some ⟨g, 0, none⟩ := by
          rcases HOF.out.2 with ⟨h', h0⟩ | ⟨g, cap', cur, hv, _⟩
          · omega
          · simp only [Value.slice.injEq] at hv; exact ⟨g, hv.1⟩
        go_wp2_with fail
        refine (one_any p a zs cap (M + 2) _ _ hz (by omega) HCF.out).mono ?_
        rintro e w3' ⟨b, rfl, hc3, ho3⟩
        have HO3 : Hid (World.ownsRow w3' w.heap.size 3 1 (.slice (some ⟨g, 0, none⟩) n c) n (M4.iv fs)) := MC.own_only HOF.out ho3 hplt
        have HC3 : Hid (MC.Cur w3' p a zs cap (M + 4)) := hc3
        have ho03 := hof.trans ho3
        clear HOF HCF hof hc3 ho3 HX
        cases b with
        | false =>
          have HC5 : Hid (MC.Cur w3' p a zs cap (M + 8)) := HC3.out.more (by omega)
          have HO5 := HO3
          have ho05 := ho03
          have hfl := hfn
          clear HO3 HC3 ho03 HBD hfn
          generalize fs = fs5 at *
          generalize hga : (some ⟨g, 0, none⟩ : Option Addr) = ga at *
          clear hga
          go_wp2_with fail
          refine (one_any p a zs cap (M + 8) _ _ hz (by omega) (HC5.out)).mono ?_
          rintro e w7 ⟨b7, rfl, hc7, ho7⟩
          have HO7 : Hid (World.ownsRow w7 w.heap.size 3 1 (.slice ga n c) n (M4.iv fs5)) := MC.own_only HO5.out ho7 hplt
          have ho07 := ho05.trans ho7
          have hs7 := ho07.size
          clear HO5 HC5 ho05 ho7
          cases b7 with
          | false =>
            go_wp2
            go_ret
            exact ⟨ga, c, fs5, by rw [hfl]; rfl, by omega, by rw [hfl]; exact HO7.out, hc7.more (by omega), ho07⟩
          | true =>
            go_wp2_with (at_builtin; (refine wpList_append_own _ rfl _ _ 26 rfl w.heap.size 3 i0 (.int .i64 0) 1 8 Try.underlying26 hi hz0 hz1 hz2 rfl (by decide) _ _ _ rfl (World.ownsRow.alloc HO7.out _) ⟨w7.heap.size, 0, none⟩ 1 1 [.int .i64 0] rfl rfl ?k01 ?k02 ?k03 ?k04 ?k05 ?_))
            all_goals try (first | rfl | omega | exact M2.new1 _ _ _ | exact M2.one1 _ _ | (unfold maxLen; omega) | (simp; omega))
            intro v' wn hown1 hgrow _
            have R1 : wn.ownsRow w.heap.size 3 1 v' (fs5 ++ [0]).length (M4.iv (fs5 ++ [0])) := by
              have e1 : (fs5 ++ [0]).length = n + 1 := by simp [hfl]
              rw [e1]; simpa [M4.iv] using hown1
            have R2 := (hc7.alloc _).grown hgrow (fun j hj => by have := (HO7.out.lt j hj).1; omega)
            have R3 := (ho07.alloc _).grown hgrow (fun j hj => (HO7.out.lt j hj).1)
            have hl2 : (fs5 ++ [0]).length ≤ 22 := by simp; omega
            clear hown1 hgrow HO7
            generalize fs5 ++ [0] = fs9 at *
            obtain ⟨av, lc, hv⟩ := M5.own_view R1
            rw [hv.1] at R1 ⊢
            go_wp2
            go_ret
            exact ⟨av, lc, fs9, rfl, hl2, R1, R2.more (by omega), R3⟩
        | true =>
          go_wp2_with fail
          refine MR.frame fun A hA => ?_
          have hsz : A.tmps.size = 59 := by rw [hA]; rfl
          have e0 : A.eval (.tmp 0) = .pointer (some ⟨p, 0, none⟩) := by rw [hA]; rfl
          have f0 := MR.read (t := 0) (by rw [hsz]; decide) e0
          have e9 : A.eval (.tmp 9) = .slice (some ⟨g, 0, none⟩) n c := by rw [hA]; rfl
          have f9 := MR.read (t := 9) (by rw [hsz]; decide) e9
          have HA : Hid (A = _) := hA
          clear hA
          have hS : (fun _ : World => True) (World.drew w3') := trivial
          refine wp_region_held (S := fun _ : World => True) (by kernel_rfl) ?_
          change wpAnyH _ _ _ _ _ _ _ _ (World.drew _)
          refine MR.takeH (i := 0) (some 41) (.slice (some ⟨g, 0, none⟩) n c) rfl rfl (by kernel_rfl) (by kernel_rfl) (by kernel_rfl) (fun _ _ _ h => h) hS (MR.free rfl) (fun wq hw => by simp [execOp, MR.ev, MR.size, hsz, e0, f0, e9, f9, go_sem]) ?_
          refine MR.takeH (i := 1) (some 42) (.pointer (some ⟨p, 0, none⟩)) rfl rfl (by kernel_rfl) (by kernel_rfl) (by kernel_rfl) (fun _ _ _ h => h) hS (MR.free rfl) (fun wq hw => by simp [execOp, MR.ev, MR.size, hsz, e0, f0, e9, f9, go_sem]) ?_
          refine MR.takeH (i := 2) (some 43) (.slice (some ⟨g, 0, none⟩) n c) rfl rfl (by kernel_rfl) (by kernel_rfl) (by kernel_rfl) (fun _ _ _ h => h) hS (MR.free rfl) (fun wq hw => by simp [execOp, MR.ev, MR.size, hsz, e0, f0, e9, f9, go_sem]) ?_
          refine MR.takeH (i := 3) (some 44) (.int .i64 (n : Int)) rfl rfl (by kernel_rfl) (by kernel_rfl) (by kernel_rfl) (fun _ _ _ h => h) hS (MR.free rfl) (fun wq hw => by simp [execOp, MR.ev, MR.size, hsz, e0, f0, e9, f9, go_sem]) ?_
          refine MR.takeH (i := 7) (some 48) (.pointer (some ⟨p, 0, none⟩)) rfl rfl (by kernel_rfl) (by kernel_rfl) (by kernel_rfl) (fun _ _ _ h => h) hS (MR.free rfl) (fun wq hw => by simp [execOp, MR.ev, MR.size, hsz, e0, f0, e9, f9, go_sem]) ?_
          refine MR.callH (i := 4) (some 45) (25) (#[.pointer (some ⟨p, 0, none⟩), .int .i64 (n : Int)]) (by kernel_rfl) rfl rfl (MR.free rfl) (by simp [execOp, MR.ev, MR.size, hsz, e0, f0, e9, f9, go_sem]) ?_
          refine (pick_any p a zs cap (M + 4) _ _ hz (by omega) (HC3.out.below (Below.refl _ _).drew)).mono ?_
          rintro e w4 ⟨r, rfl, hr, _, hc4, ho4⟩
          have hrn : r < n := by omega
          have hr0 : (r : Int) < (n : Int) := by omega
          have ho34 : MC.Only p w3' w4 := (MC.Only.refl p w3').drewF.trans ho4
          obtain ⟨y, hy⟩ : ∃ y, fs.getD r 0 = y := ⟨_, rfl⟩
          have hyb := HBD.out.lo r
          rw [hy] at hyb
          have o4 := MC.own_only HO3.out ho34 hplt
          have cy4 : w4.cell? ⟨g, r, none⟩ = some (.int .i64 y) := by rw [o4.cellAt r (by omega)]; exact M4.iv_get _ _ _ (by rw [← hy, List.getD_eq_getElem?_getD, List.getElem?_eq_getElem (by omega)]; rfl)
          have HC4 : Hid (MC.Cur w4 p a zs cap (M + 6)) := hc4
          have HO4 : Hid (World.ownsRow w4 w.heap.size 3 1 (.slice (some ⟨g, 0, none⟩) n c) n (M4.iv fs)) := o4
          have ho04 := ho03.trans ho34
          clear ho4 hr hc4 hy o4 HC3 HO3
          refine ⟨_, rfl, trivial, ?_⟩
          refine MR.takeH (i := 5) (some 46) (.pointer (some ⟨g, r, none⟩)) rfl rfl (by kernel_rfl) (by kernel_rfl) (by kernel_rfl) (fun _ _ _ h => h) trivial (MR.free rfl) (fun wq hw => by simp [execOp, MR.ev, MR.size, hsz, e0, f0, e9, f9, hr0, hrn, go_sem]) ?_
          refine MR.two (i := 6) (j := 8) (by kernel_rfl) ?_ ?_
          · refine MR.nowW (w' := w4) (some 47) (.int .i64 y) rfl rfl (MR.free rfl) (by simp [execOp, MR.ev, MR.size, hsz, e0, f0, e9, f9, cy4, go_sem]) ⟨trivial, ?_⟩
            refine MR.callH (i := 8) (some 49) (25) (#[.pointer (some ⟨p, 0, none⟩), .int .i64 3]) (by kernel_rfl) rfl rfl (MR.free rfl) (by simp [execOp, MR.ev, MR.size, hsz, e0, f0, e9, f9, go_sem]) ?_
            refine (pick_any p a zs cap (M + 6) _ _ hz (by omega) HC4.out).mono ?_
            rintro e w5 ⟨r5, rfl, hr5, _, hc5, ho5⟩
            have hr53 : r5 < 3 := by omega
            have o5 := MC.own_only HO4.out ho5 hplt
            have cy5 : w5.cell? ⟨g, r, none⟩ = some (.int .i64 y) := (ho5.cell (x := ⟨g, r, none⟩) (by show g < _; exact (HO4.out.lt g rfl).2) (by show g ≠ p; have := (HO4.out.lt g rfl).1; omega)).trans cy4
            have fz5 := o5.frozenAt r
            have hw1 : IntKind.i64.wrap ((r5 : Int) - 1) = (r5 : Int) - 1 := by rw [IntKind.wrap_i64]; omega
            have hw2 : IntKind.i64.wrap (y + ((r5 : Int) - 1)) = y + ((r5 : Int) - 1) := by rw [IntKind.wrap_i64]; omega
            have st := o5.stored r (.int .i64 (y + ((r5 : Int) - 1)))
            have HC5 : Hid (MC.Cur (w5.setCell ⟨g, r, none⟩ (.int .i64 (y + ((r5 : Int) - 1)))) p a zs cap (M + 8)) := hc5.grown st.2 (fun j hj => by cases hj; have := (HO4.out.lt g rfl).1; omega)
            have ho05 := (ho04.trans ho5).grown st.2 (fun j hj => by cases hj; exact (HO4.out.lt g rfl).1)
            have HO5 : Hid (World.ownsRow (w5.setCell ⟨g, r, none⟩ (.int .i64 (y + ((r5 : Int) - 1)))) w.heap.size 3 1 (.slice (some ⟨g, 0, none⟩) n c) n (M4.iv (fs.set r (y + ((r5 : Int) - 1))))) := by show World.ownsRow _ _ _ _ _ _ _; rw [FL.iv_set]; exact st.1
            have hfl : (fs.set r (y + ((r5 : Int) - 1))).length = n := by rw [List.length_set]; exact hfn
            clear hr5 hc5 ho5 o5 st HO4 HC4 ho04
            refine ⟨_, rfl, trivial, ?_⟩
            refine MR.takeH (i := 9) (some 50) (.int .i64 ((r5 : Int) - 1)) rfl rfl (by kernel_rfl) (by kernel_rfl) (by kernel_rfl) (fun _ _ _ h => h) trivial (MR.free rfl) (fun wq hw => by simp [execOp, MR.ev, MR.size, hsz, e0, f0, e9, f9, hw1, go_sem]) ?_
            refine MR.takeH (i := 10) (some 51) (.int .i64 (y + ((r5 : Int) - 1))) rfl rfl (by kernel_rfl) (by kernel_rfl) (by kernel_rfl) (fun _ _ _ h => h) trivial (MR.free rfl) (fun wq hw => by simp [execOp, MR.ev, MR.size, hsz, e0, f0, e9, f9, hw2, go_sem]) ?_
            refine MR.takeH (i := 11) (some 52) (.pointer (some ⟨g, r, none⟩)) rfl rfl (by kernel_rfl) (by kernel_rfl) (by kernel_rfl) (fun _ _ _ h => h) trivial (MR.free rfl) (fun wq hw => by simp [execOp, MR.ev, MR.size, hsz, e0, f0, e9, f9, hr0, hrn, go_sem]) ?_
            refine MR.storeH (w' := w5.setCell ⟨g, r, none⟩ (.int .i64 (y + ((r5 : Int) - 1)))) (i := 12) (by kernel_rfl) rfl (MR.free rfl) (by simp [execOp, MR.ev, MR.size, hsz, e0, f0, e9, f9, cy5, fz5, go_sem]) ⟨trivial, ?_⟩
            refine wpAnyH_done (by kernel_rfl) ?_ _
            rw [HA.out]
            clear HA hsz e0 f0 e9 f9 cy5 fz5 cy4 hw1 hw2
            generalize fs.set r (y + ((r5 : Int) - 1)) = fs5 at *
            generalize w5.setCell ⟨g, r, none⟩ (.int .i64 (y + ((r5 : Int) - 1))) = w6 at *
            generalize hyv : y + ((r5 : Int) - 1) = yv at *
            clear hyv
            simp only [Act.put, List.setIfInBounds_toArray, List.set_cons_succ, List.set_cons_zero]
            generalize hga : (some ⟨g, 0, none⟩ : Option Addr) = ga at *
            clear hga
            go_wp2_with fail
            refine (one_any p a zs cap (M + 8) _ _ hz (by omega) (HC5.out)).mono ?_
            rintro e w7 ⟨b7, rfl, hc7, ho7⟩
            have HO7 : Hid (World.ownsRow w7 w.heap.size 3 1 (.slice ga n c) n (M4.iv fs5)) := MC.own_only HO5.out ho7 hplt
            have ho07 := ho05.trans ho7
            have hs7 := ho07.size
            clear HO5 HC5 ho05 ho7
            cases b7 with
            | false =>
              go_wp2
              go_ret
              exact ⟨ga, c, fs5, by rw [hfl]; rfl, by omega, by rw [hfl]; exact HO7.out, hc7.more (by omega), ho07⟩
            | true =>
              go_wp2_with (at_builtin; (refine wpList_append_own _ rfl _ _ 26 rfl w.heap.size 3 i0 (.int .i64 0) 1 8 Try.underlying26 hi hz0 hz1 hz2 rfl (by decide) _ _ _ rfl (World.ownsRow.alloc HO7.out _) ⟨w7.heap.size, 0, none⟩ 1 1 [.int .i64 0] rfl rfl ?k11 ?k12 ?k13 ?k14 ?k15 ?_))
              all_goals try (first | rfl | omega | exact M2.new1 _ _ _ | exact M2.one1 _ _ | (unfold maxLen; omega) | (simp; omega))
              intro v' wn hown1 hgrow _
              have R1 : wn.ownsRow w.heap.size 3 1 v' (fs5 ++ [0]).length (M4.iv (fs5 ++ [0])) := by
                have e1 : (fs5 ++ [0]).length = n + 1 := by simp [hfl]
                rw [e1]; simpa [M4.iv] using hown1
              have R2 := (hc7.alloc _).grown hgrow (fun j hj => by have := (HO7.out.lt j hj).1; omega)
              have R3 := (ho07.alloc _).grown hgrow (fun j hj => (HO7.out.lt j hj).1)
              have hl2 : (fs5 ++ [0]).length ≤ 22 := by simp; omega
              clear hown1 hgrow HO7
              generalize fs5 ++ [0] = fs9 at *
              obtain ⟨av, lc, hv⟩ := M5.own_view R1
              rw [hv.1] at R1 ⊢
              go_wp2
              go_ret
              exact ⟨av, lc, fs9, rfl, hl2, R1, R2.more (by omega), R3⟩
          · refine MR.callW (some 49) (25) (#[.pointer (some ⟨p, 0, none⟩), .int .i64 3]) rfl rfl (MR.free rfl) (by simp [execOp, MR.ev, MR.size, hsz, e0, f0, e9, f9, go_sem]) ?_
            refine (pick_any p a zs cap (M + 6) _ _ hz (by omega) HC4.out).mono ?_
            rintro e w5 ⟨r5, rfl, hr5, _, hc5, ho5⟩
            have hr53 : r5 < 3 := by omega
            have o5 := MC.own_only HO4.out ho5 hplt
            have cy5 : w5.cell? ⟨g, r, none⟩ = some (.int .i64 y) := (ho5.cell (x := ⟨g, r, none⟩) (by show g < _; exact (HO4.out.lt g rfl).2) (by show g ≠ p; have := (HO4.out.lt g rfl).1; omega)).trans cy4
            have fz5 := o5.frozenAt r
            have hw1 : IntKind.i64.wrap ((r5 : Int) - 1) = (r5 : Int) - 1 := by rw [IntKind.wrap_i64]; omega
            have hw2 : IntKind.i64.wrap (y + ((r5 : Int) - 1)) = y + ((r5 : Int) - 1) := by rw [IntKind.wrap_i64]; omega
            have st := o5.stored r (.int .i64 (y + ((r5 : Int) - 1)))
            have HC5 : Hid (MC.Cur (w5.setCell ⟨g, r, none⟩ (.int .i64 (y + ((r5 : Int) - 1)))) p a zs cap (M + 8)) := hc5.grown st.2 (fun j hj => by cases hj; have := (HO4.out.lt g rfl).1; omega)
            have ho05 := (ho04.trans ho5).grown st.2 (fun j hj => by cases hj; exact (HO4.out.lt g rfl).1)
            have HO5 : Hid (World.ownsRow (w5.setCell ⟨g, r, none⟩ (.int .i64 (y + ((r5 : Int) - 1)))) w.heap.size 3 1 (.slice (some ⟨g, 0, none⟩) n c) n (M4.iv (fs.set r (y + ((r5 : Int) - 1))))) := by show World.ownsRow _ _ _ _ _ _ _; rw [FL.iv_set]; exact st.1
            have hfl : (fs.set r (y + ((r5 : Int) - 1))).length = n := by rw [List.length_set]; exact hfn
            clear hr5 hc5 ho5 o5 st HO4 HC4 ho04
            refine ⟨_, rfl, trivial, ?_⟩
            refine MR.takeH (i := 9) (some 50) (.int .i64 ((r5 : Int) - 1)) rfl rfl (by kernel_rfl) (by kernel_rfl) (by kernel_rfl) (fun _ _ _ h => h) trivial (MR.free rfl) (fun wq hw => by simp [execOp, MR.ev, MR.size, hsz, e0, f0, e9, f9, hw1, go_sem]) ?_
            refine MR.nowH (w' := w5) (i := 6) (some 47) (.int .i64 y) (by kernel_rfl) rfl rfl (MR.free rfl) (by simp [execOp, MR.ev, MR.size, hsz, e0, f0, e9, f9, cy5, go_sem]) ⟨trivial, ?_⟩
            refine MR.takeH (i := 10) (some 51) (.int .i64 (y + ((r5 : Int) - 1))) rfl rfl (by kernel_rfl) (by kernel_rfl) (by kernel_rfl) (fun _ _ _ h => h) trivial (MR.free rfl) (fun wq hw => by simp [execOp, MR.ev, MR.size, hsz, e0, f0, e9, f9, hw2, go_sem]) ?_
            refine MR.takeH (i := 11) (some 52) (.pointer (some ⟨g, r, none⟩)) rfl rfl (by kernel_rfl) (by kernel_rfl) (by kernel_rfl) (fun _ _ _ h => h) trivial (MR.free rfl) (fun wq hw => by simp [execOp, MR.ev, MR.size, hsz, e0, f0, e9, f9, hr0, hrn, go_sem]) ?_
            refine MR.storeH (w' := w5.setCell ⟨g, r, none⟩ (.int .i64 (y + ((r5 : Int) - 1)))) (i := 12) (by kernel_rfl) rfl (MR.free rfl) (by simp [execOp, MR.ev, MR.size, hsz, e0, f0, e9, f9, cy5, fz5, go_sem]) ⟨trivial, ?_⟩
            refine wpAnyH_done (by kernel_rfl) ?_ _
            rw [HA.out]
            clear HA hsz e0 f0 e9 f9 cy5 fz5 cy4 hw1 hw2
            generalize fs.set r (y + ((r5 : Int) - 1)) = fs5 at *
            generalize w5.setCell ⟨g, r, none⟩ (.int .i64 (y + ((r5 : Int) - 1))) = w6 at *
            generalize hyv : y + ((r5 : Int) - 1) = yv at *
            clear hyv
            simp only [Act.put, List.setIfInBounds_toArray, List.set_cons_succ, List.set_cons_zero]
            generalize hga : (some ⟨g, 0, none⟩ : Option Addr) = ga at *
            clear hga
            go_wp2_with fail
            refine (one_any p a zs cap (M + 8) _ _ hz (by omega) (HC5.out)).mono ?_
            rintro e w7 ⟨b7, rfl, hc7, ho7⟩
            have HO7 : Hid (World.ownsRow w7 w.heap.size 3 1 (.slice ga n c) n (M4.iv fs5)) := MC.own_only HO5.out ho7 hplt
            have ho07 := ho05.trans ho7
            have hs7 := ho07.size
            clear HO5 HC5 ho05 ho7
            cases b7 with
            | false =>
              go_wp2
              go_ret
              exact ⟨ga, c, fs5, by rw [hfl]; rfl, by omega, by rw [hfl]; exact HO7.out, hc7.more (by omega), ho07⟩
            | true =>
              go_wp2_with (at_builtin; (refine wpList_append_own _ rfl _ _ 26 rfl w.heap.size 3 i0 (.int .i64 0) 1 8 Try.underlying26 hi hz0 hz1 hz2 rfl (by decide) _ _ _ rfl (World.ownsRow.alloc HO7.out _) ⟨w7.heap.size, 0, none⟩ 1 1 [.int .i64 0] rfl rfl ?k21 ?k22 ?k23 ?k24 ?k25 ?_))
              all_goals try (first | rfl | omega | exact M2.new1 _ _ _ | exact M2.one1 _ _ | (unfold maxLen; omega) | (simp; omega))
              intro v' wn hown1 hgrow _
              have R1 : wn.ownsRow w.heap.size 3 1 v' (fs5 ++ [0]).length (M4.iv (fs5 ++ [0])) := by
                have e1 : (fs5 ++ [0]).length = n + 1 := by simp [hfl]
                rw [e1]; simpa [M4.iv] using hown1
              have R2 := (hc7.alloc _).grown hgrow (fun j hj => by have := (HO7.out.lt j hj).1; omega)
              have R3 := (ho07.alloc _).grown hgrow (fun j hj => (HO7.out.lt j hj).1)
              have hl2 : (fs5 ++ [0]).length ≤ 22 := by simp; omega
              clear hown1 hgrow HO7
              generalize fs5 ++ [0] = fs9 at *
              obtain ⟨av, lc, hv⟩ := M5.own_view R1
              rw [hv.1] at R1 ⊢
              go_wp2
              go_ret
              exact ⟨av, lc, fs9, rfl, hl2, R1, R2.more (by omega), R3⟩
      · have hnz : ¬ (0 : Int) < (n : Int) := by omega
        clear hn0
        have HC5 : Hid (MC.Cur w3 p a zs cap (M + 8)) := HCF.out.more (by omega)
        have HO5 := HOF
        have ho05 := hof
        have hfl := hfn
        clear HOF HCF hof ho03 HBD hfn HX
        generalize fs = fs5 at *
        generalize la2 = ga at *
        go_wp2_with fail
        refine (one_any p a zs cap (M + 8) _ _ hz (by omega) (HC5.out)).mono ?_
        rintro e w7 ⟨b7, rfl, hc7, ho7⟩
        have HO7 : Hid (World.ownsRow w7 w.heap.size 3 1 (.slice ga n c) n (M4.iv fs5)) := MC.own_only HO5.out ho7 hplt
        have ho07 := ho05.trans ho7
        have hs7 := ho07.size
        clear HO5 HC5 ho05 ho7
        cases b7 with
        | false =>
          go_wp2
          go_ret
          exact ⟨ga, c, fs5, by rw [hfl]; rfl, by omega, by rw [hfl]; exact HO7.out, hc7.more (by omega), ho07⟩
        | true =>
          go_wp2_with (at_builtin; (refine wpList_append_own _ rfl _ _ 26 rfl w.heap.size 3 i0 (.int .i64 0) 1 8 Try.underlying26 hi hz0 hz1 hz2 rfl (by decide) _ _ _ rfl (World.ownsRow.alloc HO7.out _) ⟨w7.heap.size, 0, none⟩ 1 1 [.int .i64 0] rfl rfl ?k31 ?k32 ?k33 ?k34 ?k35 ?_))
          all_goals try (first | rfl | omega | exact M2.new1 _ _ _ | exact M2.one1 _ _ | (unfold maxLen; omega) | (simp; omega))
          intro v' wn hown1 hgrow _
          have R1 : wn.ownsRow w.heap.size 3 1 v' (fs5 ++ [0]).length (M4.iv (fs5 ++ [0])) := by
            have e1 : (fs5 ++ [0]).length = n + 1 := by simp [hfl]
            rw [e1]; simpa [M4.iv] using hown1
          have R2 := (hc7.alloc _).grown hgrow (fun j hj => by have := (HO7.out.lt j hj).1; omega)
          have R3 := (ho07.alloc _).grown hgrow (fun j hj => (HO7.out.lt j hj).1)
          have hl2 : (fs5 ++ [0]).length ≤ 22 := by simp; omega
          clear hown1 hgrow HO7
          generalize fs5 ++ [0] = fs9 at *
          obtain ⟨av, lc, hv⟩ := M5.own_view R1
          rw [hv.1] at R1 ⊢
          go_wp2
          go_ret
          exact ⟨av, lc, fs9, rfl, hl2, R1, R2.more (by omega), R3⟩
end Go.Proofs.Ytndaapidfiocoaa
