/- Rows of rows that are alike: the laws' sameLists; roads and two nodes, drawn: DrawWayBetween (laid by tools/gen_samel.py). -/
import Derived.Test.YtclhfhjkcocdcaaRows
import Derived.Test.YtclhfhjkcocdcaaCSameInts
import Derived.Test.YtclhfhjkcocdcaaMNE
import Derived.Test.YtclhfhjkcocdcaaMRP
import Derived.Test.YtclhfhjkcocdcaaMRH
import Derived.Test.YtclhfhjkcocdcaaCRoadD
import Derived.WalkKit
import Derived.WalkSpells
import Derived.WalkLawsBesides
import Derived.Outline
namespace Go.Proofs.Ytclhfhjkcocdcaa
open Go.RowKit
set_option linter.unusedSimpArgs false in
set_option maxHeartbeats 1600000 in
set_option maxRecDepth 100000 in
theorem sameLists_any (a b : Option Addr) (ca cb : Nat) (L : List (List Int)) (w : World) (hL : L.length ≤ 1048576) (ht : NE.tot L ≤ 1048576) (ha : NE.RowsAt w a L) (hb : NE.RowsAt w b L) :
    Calls Try.prog 10 #[.slice a L.length ca, .slice b L.length cb] w fun e w' => e = .returned (.bool true) ∧ Below w.heap.size w w' := by
  have HA : Hid _ := ha
  have HB : Hid _ := hb
  clear ha hb
  go_enter Try.func10, Try.ntmps10
  go_wp2
  go_loopw [13] (fun iv wr => ∃ k : Nat, iv = .int .i64 k ∧ k ≤ L.length ∧ Below w.heap.size w wr) (fun iv _ => (L.length - intOf iv).toNat)
  case atStart => exact ⟨0, rfl, by omega, Below.refl _ _⟩
  case round =>
    obtain ⟨k, rfl, hk, hb⟩ := hrel
    by_cases hlk : k < L.length
    · have hki : (k : Int) < (L.length : Int) := by omega
      obtain ⟨b1, off1, a1, d1, hab1, hlt1, e1, _, i1⟩ := (HA.out.below hb).at hlk
      obtain ⟨b2, off2, a2, d2, hab2, hlt2, e2, _, i2⟩ := (HB.out.below hb).at hlk
      have hrt := NE.tot_row L hlk
      have SI : Hid (∀ w' : World, Below wr.heap.size wr w' → Calls Try.prog 13 #[.slice a1 (NE.rw_ L k).length d1, .slice a2 (NE.rw_ L k).length d2] w' fun e w'' => e = .returned (.bool true) ∧ Below w'.heap.size w' w'') := fun w' h => by
        have := sameInts_any a1 a2 d1 d2 (NE.rw_ L k) (NE.rw_ L k) w' (by omega) (by omega) (i1.below h) (i2.below h)
        rwa [decide_eq_true rfl] at this
      generalize (NE.rw_ L k).length = rl at *
      subst hab1 hab2
      have HBW : Hid _ := hb
      clear i1 i2 hb HA HB
      go_wp2_with fail
      refine MR.frame fun A hA => ?_
      have hsz : A.tmps.size = 27 := by rw [hA]; rfl
      have e0 : A.eval (.tmp 0) = .slice (some ⟨b1, off1, none⟩) L.length ca := by rw [hA]; rfl
      have f0 := MR.read (t := 0) (by rw [hsz]; decide) e0
      have g1 : A.eval (.tmp 1) = .slice (some ⟨b2, off2, none⟩) L.length cb := by rw [hA]; rfl
      have f1 := MR.read (t := 1) (by rw [hsz]; decide) g1
      have e5 : A.eval (.tmp 5) = .int .i64 (k : Int) := by rw [hA]; rfl
      have f5 := MR.read (t := 5) (by rw [hsz]; decide) e5
      have HA : Hid (A = _) := hA
      clear hA
      have hS : (fun w' => Below wr.heap.size wr w') (World.drew _) := (Below.refl _ wr).drew
      refine wp_region_held (S := fun w' => Below wr.heap.size wr w') (by kernel_rfl) ?_
      change wpAnyH _ _ _ _ _ _ _ _ (World.drew _)
      refine MR.takeH (i := 0) (some 16) (.slice (some ⟨b1, off1, none⟩) L.length ca) rfl rfl (by kernel_rfl) (by kernel_rfl) (by kernel_rfl) (fun _ _ _ h => h) hS (MR.free rfl) (fun wq hw => by simp [execOp, MR.ev, MR.size, hsz, e0, f0, g1, f1, e5, f5, go_sem]) ?_
      refine MR.takeH (i := 1) (some 17) (.int .i64 (k : Int)) rfl rfl (by kernel_rfl) (by kernel_rfl) (by kernel_rfl) (fun _ _ _ h => h) hS (MR.free rfl) (fun wq hw => by simp [execOp, MR.ev, MR.size, hsz, e0, f0, g1, f1, e5, f5, go_sem]) ?_
      refine MR.takeH (i := 2) (some 18) (.pointer (some ⟨b1, off1 + k, none⟩)) rfl rfl (by kernel_rfl) (by kernel_rfl) (by kernel_rfl) (fun _ _ _ h => h) hS (MR.free rfl) (fun wq hw => by simp [execOp, MR.ev, MR.size, hsz, e0, f0, g1, f1, e5, f5, Try.underlying25, hlk, hki, go_sem]) ?_
      refine MR.takeH (i := 3) (some 19) (.slice a1 rl d1) rfl rfl (by kernel_rfl) (by kernel_rfl) (by kernel_rfl) (fun _ _ _ h => h) hS (MR.free rfl) (fun wq hw => by simp [execOp, MR.ev, MR.size, hsz, e0, f0, g1, f1, e5, f5, (hw.cell (p := ⟨b1, off1 + k, none⟩) hlt1).trans e1, go_sem]) ?_
      refine MR.takeH (i := 4) (some 20) (.slice (some ⟨b2, off2, none⟩) L.length cb) rfl rfl (by kernel_rfl) (by kernel_rfl) (by kernel_rfl) (fun _ _ _ h => h) hS (MR.free rfl) (fun wq hw => by simp [execOp, MR.ev, MR.size, hsz, e0, f0, g1, f1, e5, f5, go_sem]) ?_
      refine MR.takeH (i := 5) (some 21) (.int .i64 (k : Int)) rfl rfl (by kernel_rfl) (by kernel_rfl) (by kernel_rfl) (fun _ _ _ h => h) hS (MR.free rfl) (fun wq hw => by simp [execOp, MR.ev, MR.size, hsz, e0, f0, g1, f1, e5, f5, go_sem]) ?_
      refine MR.takeH (i := 6) (some 22) (.pointer (some ⟨b2, off2 + k, none⟩)) rfl rfl (by kernel_rfl) (by kernel_rfl) (by kernel_rfl) (fun _ _ _ h => h) hS (MR.free rfl) (fun wq hw => by simp [execOp, MR.ev, MR.size, hsz, e0, f0, g1, f1, e5, f5, Try.underlying25, hlk, hki, go_sem]) ?_
      refine MR.takeH (i := 7) (some 23) (.slice a2 rl d2) rfl rfl (by kernel_rfl) (by kernel_rfl) (by kernel_rfl) (fun _ _ _ h => h) hS (MR.free rfl) (fun wq hw => by simp [execOp, MR.ev, MR.size, hsz, e0, f0, g1, f1, e5, f5, (hw.cell (p := ⟨b2, off2 + k, none⟩) hlt2).trans e2, go_sem]) ?_
      refine MR.callH (i := 8) (some 24) (13) (#[.slice a1 rl d1, .slice a2 rl d2]) (by kernel_rfl) rfl rfl (MR.free rfl) (by simp [execOp, MR.ev, MR.size, hsz, e0, f0, g1, f1, e5, f5, go_sem]) ?_
      refine (SI.out _ hS).mono ?_
      rintro e w2 ⟨rfl, hb2⟩
      have hS2 : Below wr.heap.size wr w2 := hS.trans (hb2.mono hS.size)
      refine ⟨_, rfl, hS2, ?_⟩
      refine MR.takeH (i := 9) (some 25) (.bool false) rfl rfl (by kernel_rfl) (by kernel_rfl) (by kernel_rfl) (fun _ _ _ h => h) hS2 (MR.free rfl) (fun wq hw => by simp [execOp, MR.ev, MR.size, hsz, e0, f0, g1, f1, e5, f5, go_sem]) ?_
      refine wpAnyH_done (by kernel_rfl) ?_ _
      rw [HA.out]
      simp only [Act.put, List.setIfInBounds_toArray, List.set_cons_succ, List.set_cons_zero]
      have HB3 : Hid _ := HBW.out.trans (hS2.mono HBW.out.size)
      clear HA hsz e0 f0 g1 f1 e5 f5 hS hS2 hb2 SI HBW e1 e2
      go_wp2
      go_roundw
      case rel => exact ⟨k + 1, by go_num, by omega, HB3.out⟩
      case measure => simp [intOf]; omega
    · obtain rfl : k = L.length := by omega
      clear HA HB
      go_wp2
      go_ret
      exact ⟨rfl, hb⟩
set_option linter.unusedSimpArgs false in
set_option maxHeartbeats 1600000 in
set_option maxRecDepth 100000 in
theorem drawWay_any (a : Option Addr) (zs : List Int) (cap : Nat) (w : World) (hz : zs.length ≤ 140737488355328) (hb : MC.BytesAt w w.heap.size a zs) :
    Calls Try.prog 14 #[.slice a zs.length cap] w fun e w' => ∃ a1 c1 xs f t, e = .returned (.tuple #[.slice a1 (List.length xs) c1, .int .i64 f, .int .i64 t]) ∧ xs.length ≤ 21 ∧ MI3.RowAt w' a1 xs ∧ Below w.heap.size w w' := by
  go_enter Try.func14, Try.ntmps14
  go_wp2_with fail
  refine (roads_any w.heap.size a zs cap 0 _ hz (by omega) (cur_new hb)).mono ?_
  rintro e w1 ⟨a1, c1, xs, rfl, hxl, hX, hc1, ho1⟩
  have hplt := hc1.lt
  have hXb : w1.ownsRow (w.heap.size + 1) 37 3 (.slice a1 xs.length c1) xs.length (MI3.flat xs) := by
    refine ⟨hX.1, ?_⟩
    rcases hX.2 with h | ⟨g, c2, cur, e1, hg, rest⟩
    · exact .inl h
    · exact .inr ⟨g, c2, cur, e1, by simp at hg; omega, rest⟩
  have HX : Hid (∀ W : World, MC.Only w.heap.size w1 W → MI3.RowAt W a1 xs) := fun W h => by
    obtain ⟨a9, c9, e9, hR9⟩ := RDD.own_row3 (MC.own_only hXb h (by omega))
    simp only [Value.slice.injEq] at e9
    obtain ⟨rfl, -, -⟩ := e9
    exact hR9
  have hB1 := new_below rfl ho1
  clear hX hXb ho1 hb
  go_wp2_with fail
  refine (pick_any w.heap.size a zs cap 300 _ _ hz (by omega) (hc1.more (by omega))).mono ?_
  rintro e w2 ⟨f, rfl, _, _, hc2, ho2⟩
  clear hc1
  go_wp2_with fail
  refine (pick_any w.heap.size a zs cap 302 _ _ hz (by omega) hc2).mono ?_
  rintro e w3 ⟨t, rfl, _, ht, hc3, ho3⟩
  have ho13 := ho2.trans ho3
  have hR := HX.out w3 ho13
  have hB := hB1.trans (ho13.below (Nat.le_refl _) (by omega))
  clear hc2 ho2 ho3 hc3 HX hB1 ho13
  go_wp2
  go_ret3
  exact ⟨a1, c1, xs, (f : Int), (t : Int), rfl, hxl, hR, hB⟩
end Go.Proofs.Ytclhfhjkcocdcaa
