import Derived.Test.YtcpkcaaplhgioaaRows
import Derived.Test.YtcpkcaaplhgioaaCAmong
import Derived.Test.YtcpkcaaplhgioaaMInfo
import Derived.WalkKit
import Derived.WalkSpells
import Derived.WalkLawsBesides
import Derived.Outline
import Derived.Test.YtcpkcaaplhgioaaM5
import Derived.Test.YtcpkcaaplhgioaaCLinksD
import Derived.Test.YtcpkcaaplhgioaaCWaysS
import Derived.Test.YtcpkcaaplhgioaaMCurNew
import Derived.Test.YtcpkcaaplhgioaaMAA
import Derived.Deep.RegionHeld3
import Derived.BigRegion
/- Some of a row's numbers, drawn. -/
namespace Go.Proofs.Ytcpkcaaplhgioaa
open Go.RowKit
set_option linter.unusedSimpArgs false in
set_option maxHeartbeats 1600000 in
set_option maxRecDepth 100000 in
theorem someOf_any (p : Nat) (a : Option Addr) (zs : List Int) (cap M n : Nat) (w : World) (hz : zs.length ≤ 140737488355328) (hM : M ≤ 140737488340000) (hn : n ≤ 1000) (hc : MC.Cur w p a zs cap M) :
    Calls Try.prog 19 #[.pointer (some ⟨p, 0, none⟩), .int .i64 (n : Int)] w fun e w' => ∃ a1 c1 l, e = .returned (.slice a1 (List.length l) c1) ∧ l.length ≤ n + 1 ∧ w'.ownsRow w.heap.size 3 1 (.slice a1 l.length c1) l.length (M4.iv l) ∧ MC.Cur w' p a zs cap (M + 2 * n + 2) ∧ MC.Only p w w' := by
  obtain ⟨i0, hi, hz0, hz1, hz2⟩ := info_parts Try.info3
  have hplt := hc.lt
  go_enter Try.func19, Try.ntmps19
  go_wp2
  go_loopw [5, 6] (fun v iv wr => ∃ (k : Nat) (l : List Int), iv = .int .i64 k ∧ k ≤ n ∧ l.length ≤ k ∧ wr.ownsRow w.heap.size 3 1 v l.length (M4.iv l) ∧ MC.Cur wr p a zs cap (M + 2 * k) ∧ MC.Only p w wr) (fun _ iv _ => (n - intOf iv).toNat)
  case atStart => exact ⟨0, [], rfl, by omega, by simp, World.ownsRow_nil _ _ _ _, hc, MC.Only.refl _ _⟩
  case round =>
    clear hc
    obtain ⟨k, l, rfl, hk, hl, hown, hcr, hon⟩ := hrel
    have hws := hon.size
    by_cases hkn : k < n
    · have kn : (k : Int) < (n : Int) := by omega
      go_wp2_with fail
      refine (one_any p a zs cap (M + 2 * k) _ _ hz (by omega) hcr).mono ?_
      rintro e w1 ⟨b, rfl, hc1, ho1⟩
      have hownW := MC.own_only hown ho1 hplt
      have hon1 := hon.trans ho1
      have hs1 := hon1.size
      clear ho1 hown hcr hon
      cases b with
      | false =>
        go_wp2
        go_roundw
        case rel => exact ⟨k + 1, l, by go_num, by omega, by omega, hownW, hc1, hon1⟩
        case measure => simp [intOf]; omega
      | true =>
        go_wp2_with (at_builtin; refine wpList_append_own _ rfl _ _ 24 rfl w.heap.size 3 i0 (.int .i64 0) 1 8 Try.underlying24 hi hz0 hz1 hz2 rfl (by decide) _ _ _ rfl (hownW.alloc _) ⟨w1.heap.size, 0, none⟩ 1 1 [.int .i64 (k : Int)] rfl rfl ?c1 ?c2 ?c3 ?c4 ?c5 ?_)
        case c1 => exact M2.new1 _ _ _
        case c2 => exact M2.one1 _ _
        case c3 => unfold maxLen; omega
        case c4 => omega
        case c5 => simp; omega
        intro v' wn hown1 hgrow _
        have R1 : wn.ownsRow w.heap.size 3 1 v' (l ++ [(k : Int)]).length (M4.iv (l ++ [(k : Int)])) := by simpa [M4.iv] using hown1
        have R2 := (hc1.alloc _).grown hgrow (fun j hj => by have := (hownW.lt j hj).1; omega)
        have R3 := (hon1.alloc _).grown hgrow (fun j hj => (hownW.lt j hj).1)
        have hl2 : (l ++ [(k : Int)]).length ≤ k + 1 := by simp; omega
        clear hown1 hgrow hownW
        generalize l ++ [(k : Int)] = l2 at *
        go_wp2
        go_roundw
        case rel => exact ⟨k + 1, l2, by go_num, by omega, by omega, R1, R2, R3⟩
        case measure => simp [intOf]; omega
    · obtain rfl : k = n := by omega
      go_wp2_with fail
      refine (one_any p a zs cap (M + 2 * k) _ _ hz (by omega) hcr).mono ?_
      rintro e w1 ⟨b, rfl, hc1, ho1⟩
      have hownW := MC.own_only hown ho1 hplt
      have hon1 := hon.trans ho1
      have hs1 := hon1.size
      clear ho1 hown hcr hon
      cases b with
      | false =>
        obtain ⟨av, lc, hv⟩ := M5.own_view hownW
        rw [hv.1] at hownW ⊢
        go_wp2
        go_ret
        exact ⟨av, lc, l, rfl, by omega, hownW, hc1, hon1⟩
      | true =>
        go_wp2_with (at_builtin; refine wpList_append_own _ rfl _ _ 24 rfl w.heap.size 3 i0 (.int .i64 0) 1 8 Try.underlying24 hi hz0 hz1 hz2 rfl (by decide) _ _ _ rfl (hownW.alloc _) ⟨w1.heap.size, 0, none⟩ 1 1 [.int .i64 (k : Int)] rfl rfl ?c1 ?c2 ?c3 ?c4 ?c5 ?_)
        case c1 => exact M2.new1 _ _ _
        case c2 => exact M2.one1 _ _
        case c3 => unfold maxLen; omega
        case c4 => omega
        case c5 => simp; omega
        intro v' wn hown1 hgrow _
        have R1 : wn.ownsRow w.heap.size 3 1 v' (l ++ [(k : Int)]).length (M4.iv (l ++ [(k : Int)])) := by simpa [M4.iv] using hown1
        have R2 := (hc1.alloc _).grown hgrow (fun j hj => by have := (hownW.lt j hj).1; omega)
        have R3 := (hon1.alloc _).grown hgrow (fun j hj => (hownW.lt j hj).1)
        have hl2 : (l ++ [(k : Int)]).length ≤ k + 1 := by simp; omega
        clear hown1 hgrow hownW
        generalize l ++ [(k : Int)] = l2 at *
        obtain ⟨av, lc, hv⟩ := M5.own_view R1
        rw [hv.1] at R1 ⊢
        go_wp2
        go_ret
        exact ⟨av, lc, l2, rfl, by omega, R1, R2, R3⟩
end Go.Proofs.Ytcpkcaaplhgioaa

/- DrawIsWay: links, two nodes and a row, drawn (laid by tools/gen_drawis.py). -/
namespace Go.Proofs.Ytcpkcaaplhgioaa
open Go.RowKit
theorem results_tmp4 {fn : Func} {t u v x : Tmp} (h : fn.results = #[.tmp t, .tmp u, .tmp v, .tmp x]) (tmps : Array Value) (P : Program) (w : World) :
    (results fn tmps).run P w = .ok (.tuple #[tmps.getD t undef, tmps.getD u undef, tmps.getD v undef, tmps.getD x undef]) w := by
  simp [results, h]
theorem MC.Only.drew {p : Nat} {w w' : World} (h : MC.Only p w w') : MC.Only p w w'.drew := ⟨h.os, h.tape, h.output, h.size, h.block⟩
theorem NR.Own.cellOf {T : TypeId} {w : World} {B g n c : Nat} {ws : List (List Int)} {A : Nat → Option Addr} {C : Nat → Nat} (h : NR.Own T w B (.slice (some ⟨g, 0, none⟩) n c) ws A C) {j : Nat} (hj : j < ws.length) : w.cell? ⟨g, j, none⟩ = some (.slice (A j) (NR.rw_ ws j).length (C j)) := by
  have hn : n = ws.length := by
    rcases h.out.2 with ⟨h', _⟩ | ⟨g', cap, cur, hv, _⟩
    · cases h'
    · simp only [Value.slice.injEq] at hv; exact hv.2.1
  subst hn
  have c0 := h.out.cellAt j (by omega)
  rw [NR.hd_get ws A C hj] at c0
  exact c0
set_option linter.unusedSimpArgs false in
set_option maxHeartbeats 1600000 in
set_option maxRecDepth 100000 in
theorem drawIsWay_any (a : Option Addr) (zs : List Int) (cap : Nat) (w : World) (hz : zs.length ≤ 140737488355328) (hb : MC.BytesAt w w.heap.size a zs) :
    Calls Try.prog 4 #[.slice a zs.length cap] w fun e w' => ∃ a1 c1 xs f t a2 c2 way, e = .returned (.tuple #[.slice a1 (List.length xs) c1, .int .i64 f, .int .i64 t, .slice a2 (List.length way) c2]) ∧ xs.length ≤ 21 ∧ way.length ≤ 1048576 ∧ MI2.RowAt w' a1 xs ∧ M4.IntsAt w' a2 way ∧ Below w.heap.size w w' := by
  go_enter Try.func4, Try.ntmps4
  go_wp2_with fail
  refine (links_any w.heap.size a zs cap 0 _ hz (by omega) (cur_new hb)).mono ?_
  rintro e w1 ⟨a1, c1, xs, rfl, hxl, hX, hc1, ho1⟩
  have hplt := hc1.lt
  have hXb : w1.ownsRow (w.heap.size + 1) 38 2 (.slice a1 xs.length c1) xs.length (MI2.flat xs) := by
    refine ⟨hX.1, ?_⟩
    rcases hX.2 with h | ⟨g, c2, cur, e1, hg, rest⟩
    · exact .inl h
    · exact .inr ⟨g, c2, cur, e1, by simp at hg; omega, rest⟩
  have HX : Hid (∀ W : World, MC.Only w.heap.size w1 W → MI2.RowAt W a1 xs) := fun W h => by
    obtain ⟨a9, c9, e9, hR9⟩ := LK.own_row2 (MC.own_only hXb h (by omega))
    simp only [Value.slice.injEq] at e9
    obtain ⟨rfl, -, -⟩ := e9
    exact hR9
  have hB1 := new_below rfl ho1
  clear hX hXb ho1 hb
  go_wp2_with fail
  refine (pick_any w.heap.size a zs cap 100 _ _ hz (by omega) (hc1.more (by omega))).mono ?_
  rintro e w2 ⟨f, rfl, _, _, hc2, ho2⟩
  clear hc1
  go_wp2_with fail
  refine (pick_any w.heap.size a zs cap 102 _ _ hz (by omega) hc2).mono ?_
  rintro e w3 ⟨t, rfl, _, _, hc3, ho3⟩
  have ho13 := ho2.trans ho3
  have hs3 := ho13.size
  have HT : Hid _ := LK.wsL_tot xs (f : Int) (t : Int)
  have SW : Hid _ := specWaysO_any a1 c1 xs (f : Int) (t : Int) w3 (by omega) (HX.out w3 ho13)
  generalize LK.wsL xs (f : Int) (t : Int) = ws at *
  generalize FL.ask (LK.pip xs) (f : Int) (t : Int) = is at *
  clear hc2 ho2 ho3
  generalize hn : ws.length = n at *
  go_wp2_with fail
  refine Calls.mono SW.out ?_
  rintro e w4 ⟨a5, c5, AA, CC, rfl, hOW, hb4⟩
  have hc4 := hc3.below hb4
  have ho14 := ho13.trans (MC.Only.of_below hb4)
  clear SW hc3 ho13 hb4
  have some_ : ∀ (w6 : World), MC.Cur w6 w.heap.size a zs cap 106 → MC.Only w.heap.size w1 w6 → Hid (Calls Try.prog 19 #[.pointer (some ⟨w.heap.size, 0, none⟩), .int .i64 (xs.length : Int)] w6 fun e w' => ∃ a1' c1' l, e = .returned (.slice a1' (List.length l) c1') ∧ l.length ≤ 1048576 ∧ M4.IntsAt w' a1' l ∧ MI2.RowAt w' a1 xs ∧ Below w.heap.size w w') := fun w6 h1 h2 => by
    refine (someOf_any w.heap.size a zs cap 106 xs.length w6 hz (by omega) (by omega) h1).mono ?_
    rintro e w7 ⟨a7, c7, l, rfl, hl, h3, _, h4⟩
    exact ⟨a7, c7, l, rfl, by omega, M5.own_ints h3, HX.out _ (h2.trans h4), hB1.trans ((h2.trans h4).below (Nat.le_refl _) (by omega))⟩
  have HSO : Hid _ := some_
  clear some_
  by_cases hcase : is = true ∧ 0 < n
  · obtain ⟨rfl, hn0⟩ := hcase
    have hn0' : (0 : Int) < (n : Int) := by omega
    obtain ⟨g, rfl⟩ : ∃ g, a5 = some ⟨g, 0, none⟩ := by
      rcases hOW.out.2 with ⟨h', h0⟩ | ⟨g, cap', cur, hv, _⟩
      · omega
      · simp only [Value.slice.injEq] at hv; exact ⟨g, hv.1⟩
    have HOW4 : Hid (NR.Own 24 w4 w3.heap.size (.slice (some ⟨g, 0, none⟩) n c5) ws AA CC) := hOW
    clear hOW
    go_wp2_with fail
    refine (one_any w.heap.size a zs cap 104 _ _ hz (by omega) hc4).mono ?_
    rintro e w6 ⟨b, rfl, hc6, ho6⟩
    have hpB : w.heap.size < w3.heap.size := by omega
    have HOW : Hid (NR.Own 24 w6 w3.heap.size (.slice (some ⟨g, 0, none⟩) n c5) ws AA CC) := HOW4.out.only ho6 hpB
    have ho16 := ho14.trans ho6
    have HC6 : Hid (MC.Cur w6 w.heap.size a zs cap 106) := hc6
    clear HOW4 ho14 ho6 hc4 hc6
    cases b with
    | true =>
      have SO : Hid _ := (HSO.out w6 HC6.out ho16).out
      clear HSO HX HC6 ho16 HOW HT
      go_wp2_with fail
      refine Calls.mono SO.out ?_
      rintro e w7 ⟨a7, c7, l, rfl, hl, hI, hR, hB⟩
      clear SO
      go_wp2
      refine bodyPost_ret (results_tmp4 rfl _ _ _) rfl ?_
      exact ⟨a1, c1, xs, (f : Int), (t : Int), a7, c7, l, rfl, hxl, hl, hR, hI, hB⟩
    | false =>
      go_wp2_with fail
      focus
        refine MR.frame fun A hA => ?_
        have hsz : A.tmps.size = 56 := by rw [hA]; rfl
        have e6 : A.eval (.tmp 6) = .pointer (some ⟨w.heap.size, 0, none⟩) := by rw [hA]; rfl
        have f6 := MR.read (t := 6) (by rw [hsz]; decide) e6
        have e7 : A.eval (.tmp 7) = .slice a1 xs.length c1 := by rw [hA]; rfl
        have f7 := MR.read (t := 7) (by rw [hsz]; decide) e7
        have e8 : A.eval (.tmp 8) = .int .i64 (f : Int) := by rw [hA]; rfl
        have f8 := MR.read (t := 8) (by rw [hsz]; decide) e8
        have e9 : A.eval (.tmp 9) = .int .i64 (t : Int) := by rw [hA]; rfl
        have f9 := MR.read (t := 9) (by rw [hsz]; decide) e9
        have e10 : A.eval (.tmp 10) = .slice (some ⟨g, 0, none⟩) n c5 := by rw [hA]; rfl
        have f10 := MR.read (t := 10) (by rw [hsz]; decide) e10
        have HA : Hid (A = _) := hA
        clear hA
        have hS : (fun W : World => MC.Only w.heap.size w6 W) (World.drew _) := ((MC.Only.refl _ w6).drew)
        refine wp_region_held (S := fun W : World => MC.Only w.heap.size w6 W) (by kernel_rfl) ?_
        change wpAnyH _ _ _ _ _ _ _ _ (World.drew _)
        refine MR.takeH (i := 0) (some 39) (.slice a1 xs.length c1) rfl rfl (by kernel_rfl) (by kernel_rfl) (by kernel_rfl) (fun _ _ _ h => h) hS (MR.free rfl) (fun wq hw => by simp [execOp, MR.ev, MR.size, hsz, e6, f6, e7, f7, e8, f8, e9, f9, e10, f10, go_sem]) ?_
        refine MR.takeH (i := 1) (some 40) (.int .i64 (f : Int)) rfl rfl (by kernel_rfl) (by kernel_rfl) (by kernel_rfl) (fun _ _ _ h => h) hS (MR.free rfl) (fun wq hw => by simp [execOp, MR.ev, MR.size, hsz, e6, f6, e7, f7, e8, f8, e9, f9, e10, f10, go_sem]) ?_
        refine MR.takeH (i := 2) (some 41) (.int .i64 (t : Int)) rfl rfl (by kernel_rfl) (by kernel_rfl) (by kernel_rfl) (fun _ _ _ h => h) hS (MR.free rfl) (fun wq hw => by simp [execOp, MR.ev, MR.size, hsz, e6, f6, e7, f7, e8, f8, e9, f9, e10, f10, go_sem]) ?_
        refine MR.takeH (i := 3) (some 42) (.slice (some ⟨g, 0, none⟩) n c5) rfl rfl (by kernel_rfl) (by kernel_rfl) (by kernel_rfl) (fun _ _ _ h => h) hS (MR.free rfl) (fun wq hw => by simp [execOp, MR.ev, MR.size, hsz, e6, f6, e7, f7, e8, f8, e9, f9, e10, f10, go_sem]) ?_
        refine MR.takeH (i := 4) (some 43) (.pointer (some ⟨w.heap.size, 0, none⟩)) rfl rfl (by kernel_rfl) (by kernel_rfl) (by kernel_rfl) (fun _ _ _ h => h) hS (MR.free rfl) (fun wq hw => by simp [execOp, MR.ev, MR.size, hsz, e6, f6, e7, f7, e8, f8, e9, f9, e10, f10, go_sem]) ?_
        refine MR.takeH (i := 5) (some 44) (.slice (some ⟨g, 0, none⟩) n c5) rfl rfl (by kernel_rfl) (by kernel_rfl) (by kernel_rfl) (fun _ _ _ h => h) hS (MR.free rfl) (fun wq hw => by simp [execOp, MR.ev, MR.size, hsz, e6, f6, e7, f7, e8, f8, e9, f9, e10, f10, go_sem]) ?_
        refine MR.takeH (i := 6) (some 45) (.int .i64 (n : Int)) rfl rfl (by kernel_rfl) (by kernel_rfl) (by kernel_rfl) (fun _ _ _ h => h) hS (MR.free rfl) (fun wq hw => by simp [execOp, MR.ev, MR.size, hsz, e6, f6, e7, f7, e8, f8, e9, f9, e10, f10, go_sem]) ?_
        refine MR.callH (i := 7) (some 46) (16) (#[.pointer (some ⟨w.heap.size, 0, none⟩), .int .i64 (n : Int)]) (by kernel_rfl) rfl rfl (MR.free rfl) (by simp [execOp, MR.ev, MR.size, hsz, e6, f6, e7, f7, e8, f8, e9, f9, e10, f10, go_sem]) ?_
        refine (pick_any w.heap.size a zs cap 106 _ _ hz (by omega) (HC6.out.below (Below.refl _ _).drew)).mono ?_
        rintro e w7 ⟨r, rfl, hr, _, _, ho7⟩
        have hrn : r < n := by omega
        have hr0 : (r : Int) < (n : Int) := by omega
        have hS7 : MC.Only w.heap.size w6 w7 := hS.trans ho7
        have CL : Hid (∀ W : World, MC.Only w.heap.size w6 W → W.cell? ⟨g, r, none⟩ = some (.slice (AA r) (NR.rw_ ws r).length (CC r))) := fun W h => (HOW.out.only h hpB).cellOf (by omega)
        clear ho7 hr
        refine ⟨_, rfl, hS7, ?_⟩
        refine MR.takeH (i := 8) (some 47) (.pointer (some ⟨g, r, none⟩)) rfl rfl (by kernel_rfl) (by kernel_rfl) (by kernel_rfl) (fun _ _ _ h => h) hS7 (MR.free rfl) (fun wq hw => by simp [execOp, MR.ev, MR.size, hsz, e6, f6, e7, f7, e8, f8, e9, f9, e10, f10, hr0, hrn, go_sem]) ?_
        refine MR.takeH (i := 9) (some 48) (.slice (AA r) (NR.rw_ ws r).length (CC r)) rfl rfl (by kernel_rfl) (by kernel_rfl) (by kernel_rfl) (fun _ _ _ h => h) hS7 (MR.free rfl) (fun wq hw => by simp [execOp, MR.ev, MR.size, hsz, e6, f6, e7, f7, e8, f8, e9, f9, e10, f10, CL.out wq hw, go_sem]) ?_
        refine MR.takeH (i := 10) (some 2) (.slice a1 xs.length c1) rfl rfl (by kernel_rfl) (by kernel_rfl) (by kernel_rfl) (fun _ _ _ h => h) hS7 (MR.free rfl) (fun wq hw => by simp [execOp, MR.ev, MR.size, hsz, e6, f6, e7, f7, e8, f8, e9, f9, e10, f10, go_sem]) ?_
        refine MR.takeH (i := 11) (some 3) (.int .i64 (f : Int)) rfl rfl (by kernel_rfl) (by kernel_rfl) (by kernel_rfl) (fun _ _ _ h => h) hS7 (MR.free rfl) (fun wq hw => by simp [execOp, MR.ev, MR.size, hsz, e6, f6, e7, f7, e8, f8, e9, f9, e10, f10, go_sem]) ?_
        refine MR.takeH (i := 12) (some 4) (.int .i64 (t : Int)) rfl rfl (by kernel_rfl) (by kernel_rfl) (by kernel_rfl) (fun _ _ _ h => h) hS7 (MR.free rfl) (fun wq hw => by simp [execOp, MR.ev, MR.size, hsz, e6, f6, e7, f7, e8, f8, e9, f9, e10, f10, go_sem]) ?_
        refine MR.takeH (i := 13) (some 5) (.slice (AA r) (NR.rw_ ws r).length (CC r)) rfl rfl (by kernel_rfl) (by kernel_rfl) (by kernel_rfl) (fun _ _ _ h => h) hS7 (MR.free rfl) (fun wq hw => by simp [execOp, MR.ev, MR.size, hsz, e6, f6, e7, f7, e8, f8, e9, f9, e10, f10, go_sem]) ?_
        refine wpAnyH_done (by kernel_rfl) ?_ _
        have hR := HX.out w7 (ho16.trans hS7)
        have hI := ((HOW.out.only hS7 hpB).row r (by omega)).ints
        have hB := hB1.trans ((ho16.trans hS7).below (Nat.le_refl _) (by omega))
        have hlr : (NR.rw_ ws r).length ≤ 1048576 := Nat.le_trans (NR.tot_row ws (by omega)) HT.out
        rw [HA.out]
        clear HA CL hS hS7 hsz e6 f6 e7 f7 e8 f8 e9 f9 e10 f10 HOW HSO HX HC6 ho16 HT
        generalize NR.rw_ ws r = l at *
        simp only [Act.put, List.setIfInBounds_toArray, List.set_cons_succ, List.set_cons_zero]
        go_wp2
        refine bodyPost_ret (results_tmp4 rfl _ _ _) rfl ?_
        exact ⟨a1, c1, xs, (f : Int), (t : Int), AA r, CC r, l, rfl, hxl, hlr, hR, hI, hB⟩
  · have SO : Hid _ := (HSO.out w4 (hc4.more (by omega)) ho14).out
    clear HSO HX hc4 ho14 hOW HT
    cases is with
    | true =>
      obtain rfl : n = 0 := by
        rcases Nat.eq_zero_or_pos n with h | h
        · exact h
        · exact absurd ⟨rfl, h⟩ hcase
      clear hcase
      go_wp2_with fail
      refine Calls.mono SO.out ?_
      rintro e w7 ⟨a7, c7, l, rfl, hl, hI, hR, hB⟩
      clear SO
      go_wp2
      refine bodyPost_ret (results_tmp4 rfl _ _ _) rfl ?_
      exact ⟨a1, c1, xs, (f : Int), (t : Int), a7, c7, l, rfl, hxl, hl, hR, hI, hB⟩
    | false =>
      clear hcase
      go_wp2_with fail
      refine Calls.mono SO.out ?_
      rintro e w7 ⟨a7, c7, l, rfl, hl, hI, hR, hB⟩
      clear SO
      go_wp2
      refine bodyPost_ret (results_tmp4 rfl _ _ _) rfl ?_
      exact ⟨a1, c1, xs, (f : Int), (t : Int), a7, c7, l, rfl, hxl, hl, hR, hI, hB⟩
end Go.Proofs.Ytcpkcaaplhgioaa
