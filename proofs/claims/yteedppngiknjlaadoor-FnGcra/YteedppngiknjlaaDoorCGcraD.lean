/- Cells that are drawn. -/
import Derived.Test.YteedppngiknjlaaDoorRows
import Derived.Test.YteedppngiknjlaaDoorCTimesD
import Derived.Test.YteedppngiknjlaaDoorCAskCS
import Derived.Test.YteedppngiknjlaaDoorCCeN
import Derived.Test.YteedppngiknjlaaDoorMBKc
import Derived.WalkKit
import Derived.WalkSpells
import Derived.WalkLawsBesides
import Derived.Outline
import Derived.Deep.MidRow
namespace Go.Proofs.YteedppngiknjlaaDoor
open Go.RowKit
theorem Tryd.szCe : (Tryd.prog.info? 31).map (·.size) = some 3 := by kernel_rfl
set_option linter.unusedSimpArgs false in
set_option maxHeartbeats 3200000 in
set_option maxRecDepth 100000 in
theorem gcra_any (p : Nat) (a : Option Addr) (zs : List Int) (cap M : Nat) (w : World) (hz : zs.length ≤ 140737488355328) (hM : M ≤ 140737488330000) (hc : MC.Cur w p a zs cap M) :
    Calls Tryd.prog 36 #[.pointer (some ⟨p, 0, none⟩)] w fun e w' => ∃ c : Ce, e = .returned c.v ∧ MC.Cur w' p a zs cap (M + 160) ∧ MC.Only p w w' := by
  have hplt := hc.lt
  have hZ := BK.At3.new w (.int .i64 0) (.int .i64 0) (.int .i64 0) 31 _ rfl
  go_enter Tryd.func36, Tryd.ntmps36
  go_wp2_with fail
  refine (sizes_any p a zs cap M _ hz (by omega) (hc.alloc _)).mono ?_
  rintro e w1 ⟨x, y, rfl, hc1, ho1⟩
  have hZ1 := hZ.only ho1 (by omega)
  have hO1 := ((MC.Only.refl p w).alloc (.cells #[.int .i64 0, .int .i64 0, .int .i64 0] 31)).trans ho1
  clear hc ho1 hZ
  have NC : Hid (∀ W : World, Calls Tryd.prog 51 #[.int .i64 x, .int .i64 y] W fun e w' => e = .returned (.tuple #[(BK.newC x y).v, .bool (BK.okS x y)]) ∧ Below W.heap.size W w') := fun W => newCS_any x y W
  generalize BK.newC x y = C at *
  generalize BK.okS x y = K at *
  obtain ⟨cp, cu, cd⟩ := C
  go_wp2_with fail
  refine (NC.out _).mono ?_
  rintro e w2 ⟨rfl, hb2⟩
  have hzl := hZ1.lt
  have hb2s := hb2.size
  have hZ2 := (hZ1.below hb2 hZ1.lt).alloc (.cells #[.int .i64 cp, .int .i64 cu, .int .i64 cd] 31)
  have hA2 := BK.At3.new w2 (.int .i64 cp) (.int .i64 cu) (.int .i64 cd) 31 _ rfl
  have hO2 := (hO1.trans (MC.Only.of_below hb2)).alloc (.cells #[.int .i64 cp, .int .i64 cu, .int .i64 cd] 31)
  have hc2 := (hc1.below hb2).alloc (.cells #[.int .i64 cp, .int .i64 cu, .int .i64 cd] 31)
  have hzg : w.heap.size < w2.heap.size := by omega
  clear hb2 hZ1 hO1 hc1 NC hzl hb2s
  cases K with
  | false =>
    go_wp2_with fail
    refine (newCS_any 5 2 _).mono ?_
    rintro e w3 ⟨rfl, hb3⟩
    have hb3s := hb3.size
    have hA3 := hA2.below hb3 hA2.lt
    have hZ3 := hZ2.below hb3 hZ2.lt
    have hO3 := hO2.trans (MC.Only.of_below hb3)
    have hc3 := hc2.below hb3
    have hA3l := hA3.lt
    generalize BK.newC 5 2 = C2 at *
    generalize BK.okS 5 2 = K2 at *
    obtain ⟨ep, eu, ed⟩ := C2
    obtain ⟨k0, k1, k2⟩ := hA3.cells
    have y0 := hA3.free 0
    have y1 := hA3.free 1
    have y2 := hA3.free 2
    have HC : Hid (MC.Cur (((w3.setCell ⟨w2.heap.size, 0, none⟩ (.int .i64 ep)).setCell ⟨w2.heap.size, 1, none⟩ (.int .i64 eu)).setCell ⟨w2.heap.size, 2, none⟩ (.int .i64 ed)) p a zs cap (M + 6)) := BK.cur_set (BK.cur_set (BK.cur_set hc3 (by omega)) (by omega)) (by omega)
    have HA : Hid (BK.At3 (((w3.setCell ⟨w2.heap.size, 0, none⟩ (.int .i64 ep)).setCell ⟨w2.heap.size, 1, none⟩ (.int .i64 eu)).setCell ⟨w2.heap.size, 2, none⟩ (.int .i64 ed)) w2.heap.size (.int .i64 ep) (.int .i64 eu) (.int .i64 ed) 31) := hA3.put _ _ _
    have HZ : Hid (BK.At3 (((w3.setCell ⟨w2.heap.size, 0, none⟩ (.int .i64 ep)).setCell ⟨w2.heap.size, 1, none⟩ (.int .i64 eu)).setCell ⟨w2.heap.size, 2, none⟩ (.int .i64 ed)) w.heap.size (.int .i64 0) (.int .i64 0) (.int .i64 0) 31) := ((hZ3.far (by omega)).far (by omega)).far (by omega)
    have HO : Hid (MC.Only p w (((w3.setCell ⟨w2.heap.size, 0, none⟩ (.int .i64 ep)).setCell ⟨w2.heap.size, 1, none⟩ (.int .i64 eu)).setCell ⟨w2.heap.size, 2, none⟩ (.int .i64 ed))) := BK.only_set (BK.only_set (BK.only_set hO3 (by omega)) (by omega)) (by omega)
    have HB : Hid (w2.heap.size + 1 ≤ (((w3.setCell ⟨w2.heap.size, 0, none⟩ (.int .i64 ep)).setCell ⟨w2.heap.size, 1, none⟩ (.int .i64 eu)).setCell ⟨w2.heap.size, 2, none⟩ (.int .i64 ed)).heap.size) := by show _ ≤ _; simp; omega
    have HZG : Hid (w.heap.size < w2.heap.size) := hzg
    clear hA3 hZ3 hO3 hc3 hb3 hA2 hZ2 hO2 hc2 hA3l hb3s hzg
    go_wp2_with fail
    refine (times_any p a zs cap (M + 6) _ hz (by omega) HC.out).mono ?_
    rintro e w5 ⟨a1, c1, l, rfl, hl, hown, hc5, ho5⟩
    have hzg := HZG.out
    have hA5 := HA.out.only ho5 (by omega)
    have hZ5 := HZ.out.only ho5 (by omega)
    have hO5 := HO.out.trans ho5
    have hown5 := BV.own_le hown HB.out
    clear HC HA HZ HO ho5 hown HB HZG
    generalize w2.heap.size = g at *
    go_wp2_with fail
    go_loopw [32] (fun iv wr => ∃ (k : Nat) (x : Ce), iv = .int .i64 k ∧ k ≤ l.length ∧ BK.At3 wr g (.int .i64 x.p) (.int .i64 x.u) (.int .i64 x.d) 31 ∧ BK.At3 wr w.heap.size (.int .i64 0) (.int .i64 0) (.int .i64 0) 31 ∧ wr.ownsRow (g + 1) 3 1 (.slice a1 l.length c1) l.length (M4.iv l) ∧ MC.Cur wr p a zs cap (M + 146) ∧ MC.Only p w wr) (fun iv _ => (l.length - intOf iv).toNat)
    case atStart => exact ⟨0, ⟨_, _, _⟩, rfl, by omega, hA5, hZ5, hown5, hc5, hO5⟩
    case round =>
      clear hA5 hZ5 hown5 hc5 hO5
      obtain ⟨k, x, rfl, hk, hA, hZ, hown, hcr, hor⟩ := hrel
      have hgs := hA.lt
      by_cases hlk : k < l.length
      · obtain ⟨b1, off, rfl, hlt, hcc⟩ := (M5.own_ints hown).at hlk
        obtain ⟨k0, k1, k2⟩ := hA.cells
        have AX : Hid _ := specAskC_any x (l.getD k 0)
        generalize l.getD k 0 = t at *
        generalize BK.letC x t = Mq at *
        generalize BK.dueOk x t = V at *
        generalize BK.askC x t = R at *
        obtain ⟨xp, xu, xd⟩ := x
        obtain ⟨rp, ru, rd⟩ := R
        go_wp2_with fail
        refine (AX.out _).mono ?_
        rintro e w6 ⟨rfl, hb6⟩
        have hbs := hb6.size
        have hA6 := (hA.below hb6 hgs).alloc (.cells #[.int .i64 rp, .int .i64 ru, .int .i64 rd] 31)
        have hZ6 := (hZ.below hb6 hZ.lt).alloc (.cells #[.int .i64 rp, .int .i64 ru, .int .i64 rd] 31)
        have hown6 := (M5.own_below hown hb6).alloc (.cells #[.int .i64 rp, .int .i64 ru, .int .i64 rd] 31)
        have hc6 := (hcr.below hb6).alloc (.cells #[.int .i64 rp, .int .i64 ru, .int .i64 rd] 31)
        have ho6 := (hor.trans (MC.Only.of_below hb6)).alloc (.cells #[.int .i64 rp, .int .i64 ru, .int .i64 rd] 31)
        have hg6 : g < w6.heap.size := by omega
        clear hb6 hA hZ hown hcr hor AX k0 k1 k2 hcc hlt
        cases V
        · go_wp2
          go_roundw
          case rel => exact ⟨k + 1, ⟨xp, xu, xd⟩, by go_num, by omega, hA6, hZ6, hown6, hc6, ho6⟩
          case measure => simp [intOf]; omega
        · have HP : Hid (BK.At3 ((w6.alloc (.cells #[.int .i64 rp, .int .i64 ru, .int .i64 rd] 31)).setCells g 0 (#[.int .i64 rp, .int .i64 ru, .int .i64 rd] : Array Value).toList) g (.int .i64 rp) (.int .i64 ru) (.int .i64 rd) 31) := hA6.put (.int .i64 rp) (.int .i64 ru) (.int .i64 rd)
          have hOn : MC.Only g (w6.alloc (.cells #[.int .i64 rp, .int .i64 ru, .int .i64 rd] 31)) ((w6.alloc (.cells #[.int .i64 rp, .int .i64 ru, .int .i64 rd] 31)).setCells g 0 (#[.int .i64 rp, .int .i64 ru, .int .i64 rd] : Array Value).toList) := (((MC.Only.refl g (w6.alloc (.cells #[.int .i64 rp, .int .i64 ru, .int .i64 rd] 31))).setCell 0 _).setCell 1 _).setCell 2 _
          have HZ6 : Hid (BK.At3 ((w6.alloc (.cells #[.int .i64 rp, .int .i64 ru, .int .i64 rd] 31)).setCells g 0 (#[.int .i64 rp, .int .i64 ru, .int .i64 rd] : Array Value).toList) w.heap.size (.int .i64 0) (.int .i64 0) (.int .i64 0) 31) := ((hZ6.far (by omega)).far (by omega)).far (by omega)
          have HO6 : Hid (World.ownsRow ((w6.alloc (.cells #[.int .i64 rp, .int .i64 ru, .int .i64 rd] 31)).setCells g 0 (#[.int .i64 rp, .int .i64 ru, .int .i64 rd] : Array Value).toList) _ _ _ _ _ _) := MC.own_only hown6 hOn (by omega)
          have HC6 : Hid (MC.Cur ((w6.alloc (.cells #[.int .i64 rp, .int .i64 ru, .int .i64 rd] 31)).setCells g 0 (#[.int .i64 rp, .int .i64 ru, .int .i64 rd] : Array Value).toList) p a zs cap (M + 146)) := BK.cur_set (BK.cur_set (BK.cur_set hc6 (by omega)) (by omega)) (by omega)
          have HN6 : Hid (MC.Only p w ((w6.alloc (.cells #[.int .i64 rp, .int .i64 ru, .int .i64 rd] 31)).setCells g 0 (#[.int .i64 rp, .int .i64 ru, .int .i64 rd] : Array Value).toList)) := BK.only_set (BK.only_set (BK.only_set ho6 (by omega)) (by omega)) (by omega)
          have TH : Hid (World.there (w6.alloc (.cells #[.int .i64 rp, .int .i64 ru, .int .i64 rd] 31)) g 0 3) := fun j hj => by
            obtain ⟨c0, c1, c2⟩ := hA6.cells
            refine ⟨?_, by rw [Nat.zero_add]; exact hA6.free j⟩
            rw [Nat.zero_add]
            rcases (show j = 0 ∨ j = 1 ∨ j = 2 by omega) with rfl | rfl | rfl
            · rw [c0]; rfl
            · rw [c1]; rfl
            · rw [c2]; rfl
          have ON : Hid ((#[.int .i64 rp, .int .i64 ru, .int .i64 rd] : Array Value).all (·.oneCell') = true) := all_oneCell_toArray (cs := [.int .i64 rp, .int .i64 ru, .int .i64 rd]) (by intro v hv; simp at hv; rcases hv with rfl | rfl | rfl <;> rfl)
          have LR : Hid (World.rangeAt (w6.alloc (.cells #[.int .i64 rp, .int .i64 ru, .int .i64 rd] 31)) w6.heap.size 0 [.int .i64 rp, .int .i64 ru, .int .i64 rd]) := fun j v hv => by
            obtain ⟨c0, c1, c2⟩ := (BK.At3.new w6 (.int .i64 rp) (.int .i64 ru) (.int .i64 rd) 31 _ rfl).cells
            rw [Nat.zero_add]
            match j, hv with
            | 0, hv => rw [c0]; exact hv
            | 1, hv => rw [c1]; exact hv
            | 2, hv => rw [c2]; exact hv
          clear hOn hA6 hZ6 hown6 hc6 ho6
          go_wp2_with (refine wpList_load_mid rfl 31 (.tmp 9) rfl w6.heap.size 0 rfl [.int .i64 rp, .int .i64 ru, .int .i64 rd] _ LR.out Tryd.underlying31 rfl Tryd.szCe ?_; refine wpList_store_mid rfl 31 (.tmp 5) (.tmp 44) rfl g 0 #[.int .i64 rp, .int .i64 ru, .int .i64 rd] rfl rfl ?sq1 ?sq2 ?sq3 ?_; exact TH.out; exact Tryd.szCe; exact ON.out; clear TH LR ON; generalize World.setCells _ _ _ _ = W4 at *)
          go_roundw
          case rel => exact ⟨k + 1, ⟨rp, ru, rd⟩, by go_num, by omega, HP.out, HZ6.out, HO6.out, HC6.out, HN6.out⟩
          case measure => simp [intOf]; omega
      · obtain rfl : k = l.length := by omega
        clear hlk hown
        obtain ⟨xp, xu, xd⟩ := x
        go_wp2_with fail
        refine (one_any p a zs cap (M + 146) _ _ hz (by omega) hcr).mono ?_
        rintro e w7 ⟨b, rfl, hc7, ho7⟩
        have hA7 := hA.only ho7 (by omega)
        have hZ7 := hZ.only ho7 (by omega)
        have hor7 := hor.trans ho7
        clear hcr hA hZ ho7 hor
        cases b with
        | false =>
          obtain ⟨k0, k1, k2⟩ := hA7.cells
          obtain ⟨d0, d1, d2⟩ := hZ7.cells
          have z0 := hZ7.free 0
          have z1 := hZ7.free 1
          have z2 := hZ7.free 2
          clear hA7 hZ7
          go_wp2
          exact bodyPost_ret (v := Ce.v ⟨xp, xu, xd⟩) (by simp [results, Tryd.results36, go_sem, d0, d1, d2]) rfl ⟨⟨xp, xu, xd⟩, rfl, (BK.cur_set (BK.cur_set (BK.cur_set hc7 (by omega)) (by omega)) (by omega)).more (by omega), BK.only_set (BK.only_set (BK.only_set hor7 (Nat.le_refl _)) (Nat.le_refl _)) (Nat.le_refl _)⟩
        | true =>
          have hs7 := hA7.lt
          go_wp2_with fail
          refine (among_any p a zs cap (M + 148) (some ⟨w7.heap.size, 0, none⟩) [-1, 2000000, 2000001] 3 _ hz (by omega) (hc7.alloc _) (by simp) (by simp) (TD.new_ints _ _ _) ?_).mono ?_
          · intro b off hb; cases hb; have := hc7.lt; omega
          rintro e w8 ⟨y, rfl, -, hc8, ho8⟩
          have hA8 := (hA7.alloc (.cells #[.int .i64 (-1), .int .i64 2000000, .int .i64 2000001] 3)).only ho8 (by omega)
          have hZ8 := (hZ7.alloc (.cells #[.int .i64 (-1), .int .i64 2000000, .int .i64 2000001] 3)).only ho8 (by omega)
          have hor8 := (hor7.alloc (.cells #[.int .i64 (-1), .int .i64 2000000, .int .i64 2000001] 3)).trans ho8
          obtain ⟨k0, k1, k2⟩ := hA8.cells
          obtain ⟨d0, d1, d2⟩ := hZ8.cells
          have z0 := hZ8.free 0
          have z1 := hZ8.free 1
          have z2 := hZ8.free 2
          have y2 := hA8.free 2
          have hne : w.heap.size ≠ g := by omega
          have hne' : g ≠ w.heap.size := by omega
          clear hA8 hZ8 hA7 hZ7 hc7 hor7 ho8
          go_wp2
          exact bodyPost_ret (v := Ce.v ⟨xp, xu, y⟩) (by simp [results, Tryd.results36, go_sem, d0, d1, d2, hne, hne']) rfl ⟨⟨xp, xu, y⟩, rfl, (BK.cur_set (BK.cur_set (BK.cur_set (BK.cur_set hc8 (by omega)) (by omega)) (by omega)) (by omega)).more (by omega), BK.only_set (BK.only_set (BK.only_set (BK.only_set hor8 (by omega)) (Nat.le_refl _)) (Nat.le_refl _)) (Nat.le_refl _)⟩
  | true =>
    have HC : Hid _ := hc2
    have HA : Hid _ := hA2
    have HZ : Hid _ := hZ2
    have HO : Hid _ := hO2
    have HB : Hid (w2.heap.size + 1 ≤ (w2.alloc (.cells #[.int .i64 cp, .int .i64 cu, .int .i64 cd] 31)).heap.size) := by show _ ≤ _; simp
    have HZG : Hid (w.heap.size < w2.heap.size) := hzg
    clear hA2 hZ2 hO2 hc2 hzg
    go_wp2_with fail
    refine (times_any p a zs cap (M + 6) _ hz (by omega) HC.out).mono ?_
    rintro e w5 ⟨a1, c1, l, rfl, hl, hown, hc5, ho5⟩
    have hzg := HZG.out
    have hA5 := HA.out.only ho5 (by omega)
    have hZ5 := HZ.out.only ho5 (by omega)
    have hO5 := HO.out.trans ho5
    have hown5 := BV.own_le hown HB.out
    clear HC HA HZ HO ho5 hown HB HZG
    generalize w2.heap.size = g at *
    go_wp2_with fail
    go_loopw [32] (fun iv wr => ∃ (k : Nat) (x : Ce), iv = .int .i64 k ∧ k ≤ l.length ∧ BK.At3 wr g (.int .i64 x.p) (.int .i64 x.u) (.int .i64 x.d) 31 ∧ BK.At3 wr w.heap.size (.int .i64 0) (.int .i64 0) (.int .i64 0) 31 ∧ wr.ownsRow (g + 1) 3 1 (.slice a1 l.length c1) l.length (M4.iv l) ∧ MC.Cur wr p a zs cap (M + 146) ∧ MC.Only p w wr) (fun iv _ => (l.length - intOf iv).toNat)
    case atStart => exact ⟨0, ⟨_, _, _⟩, rfl, by omega, hA5, hZ5, hown5, hc5, hO5⟩
    case round =>
      clear hA5 hZ5 hown5 hc5 hO5
      obtain ⟨k, x, rfl, hk, hA, hZ, hown, hcr, hor⟩ := hrel
      have hgs := hA.lt
      by_cases hlk : k < l.length
      · obtain ⟨b1, off, rfl, hlt, hcc⟩ := (M5.own_ints hown).at hlk
        obtain ⟨k0, k1, k2⟩ := hA.cells
        have AX : Hid _ := specAskC_any x (l.getD k 0)
        generalize l.getD k 0 = t at *
        generalize BK.letC x t = Mq at *
        generalize BK.dueOk x t = V at *
        generalize BK.askC x t = R at *
        obtain ⟨xp, xu, xd⟩ := x
        obtain ⟨rp, ru, rd⟩ := R
        go_wp2_with fail
        refine (AX.out _).mono ?_
        rintro e w6 ⟨rfl, hb6⟩
        have hbs := hb6.size
        have hA6 := (hA.below hb6 hgs).alloc (.cells #[.int .i64 rp, .int .i64 ru, .int .i64 rd] 31)
        have hZ6 := (hZ.below hb6 hZ.lt).alloc (.cells #[.int .i64 rp, .int .i64 ru, .int .i64 rd] 31)
        have hown6 := (M5.own_below hown hb6).alloc (.cells #[.int .i64 rp, .int .i64 ru, .int .i64 rd] 31)
        have hc6 := (hcr.below hb6).alloc (.cells #[.int .i64 rp, .int .i64 ru, .int .i64 rd] 31)
        have ho6 := (hor.trans (MC.Only.of_below hb6)).alloc (.cells #[.int .i64 rp, .int .i64 ru, .int .i64 rd] 31)
        have hg6 : g < w6.heap.size := by omega
        clear hb6 hA hZ hown hcr hor AX k0 k1 k2 hcc hlt
        cases V
        · go_wp2
          go_roundw
          case rel => exact ⟨k + 1, ⟨xp, xu, xd⟩, by go_num, by omega, hA6, hZ6, hown6, hc6, ho6⟩
          case measure => simp [intOf]; omega
        · have HP : Hid (BK.At3 ((w6.alloc (.cells #[.int .i64 rp, .int .i64 ru, .int .i64 rd] 31)).setCells g 0 (#[.int .i64 rp, .int .i64 ru, .int .i64 rd] : Array Value).toList) g (.int .i64 rp) (.int .i64 ru) (.int .i64 rd) 31) := hA6.put (.int .i64 rp) (.int .i64 ru) (.int .i64 rd)
          have hOn : MC.Only g (w6.alloc (.cells #[.int .i64 rp, .int .i64 ru, .int .i64 rd] 31)) ((w6.alloc (.cells #[.int .i64 rp, .int .i64 ru, .int .i64 rd] 31)).setCells g 0 (#[.int .i64 rp, .int .i64 ru, .int .i64 rd] : Array Value).toList) := (((MC.Only.refl g (w6.alloc (.cells #[.int .i64 rp, .int .i64 ru, .int .i64 rd] 31))).setCell 0 _).setCell 1 _).setCell 2 _
          have HZ6 : Hid (BK.At3 ((w6.alloc (.cells #[.int .i64 rp, .int .i64 ru, .int .i64 rd] 31)).setCells g 0 (#[.int .i64 rp, .int .i64 ru, .int .i64 rd] : Array Value).toList) w.heap.size (.int .i64 0) (.int .i64 0) (.int .i64 0) 31) := ((hZ6.far (by omega)).far (by omega)).far (by omega)
          have HO6 : Hid (World.ownsRow ((w6.alloc (.cells #[.int .i64 rp, .int .i64 ru, .int .i64 rd] 31)).setCells g 0 (#[.int .i64 rp, .int .i64 ru, .int .i64 rd] : Array Value).toList) _ _ _ _ _ _) := MC.own_only hown6 hOn (by omega)
          have HC6 : Hid (MC.Cur ((w6.alloc (.cells #[.int .i64 rp, .int .i64 ru, .int .i64 rd] 31)).setCells g 0 (#[.int .i64 rp, .int .i64 ru, .int .i64 rd] : Array Value).toList) p a zs cap (M + 146)) := BK.cur_set (BK.cur_set (BK.cur_set hc6 (by omega)) (by omega)) (by omega)
          have HN6 : Hid (MC.Only p w ((w6.alloc (.cells #[.int .i64 rp, .int .i64 ru, .int .i64 rd] 31)).setCells g 0 (#[.int .i64 rp, .int .i64 ru, .int .i64 rd] : Array Value).toList)) := BK.only_set (BK.only_set (BK.only_set ho6 (by omega)) (by omega)) (by omega)
          have TH : Hid (World.there (w6.alloc (.cells #[.int .i64 rp, .int .i64 ru, .int .i64 rd] 31)) g 0 3) := fun j hj => by
            obtain ⟨c0, c1, c2⟩ := hA6.cells
            refine ⟨?_, by rw [Nat.zero_add]; exact hA6.free j⟩
            rw [Nat.zero_add]
            rcases (show j = 0 ∨ j = 1 ∨ j = 2 by omega) with rfl | rfl | rfl
            · rw [c0]; rfl
            · rw [c1]; rfl
            · rw [c2]; rfl
          have ON : Hid ((#[.int .i64 rp, .int .i64 ru, .int .i64 rd] : Array Value).all (·.oneCell') = true) := all_oneCell_toArray (cs := [.int .i64 rp, .int .i64 ru, .int .i64 rd]) (by intro v hv; simp at hv; rcases hv with rfl | rfl | rfl <;> rfl)
          have LR : Hid (World.rangeAt (w6.alloc (.cells #[.int .i64 rp, .int .i64 ru, .int .i64 rd] 31)) w6.heap.size 0 [.int .i64 rp, .int .i64 ru, .int .i64 rd]) := fun j v hv => by
            obtain ⟨c0, c1, c2⟩ := (BK.At3.new w6 (.int .i64 rp) (.int .i64 ru) (.int .i64 rd) 31 _ rfl).cells
            rw [Nat.zero_add]
            match j, hv with
            | 0, hv => rw [c0]; exact hv
            | 1, hv => rw [c1]; exact hv
            | 2, hv => rw [c2]; exact hv
          clear hOn hA6 hZ6 hown6 hc6 ho6
          go_wp2_with (refine wpList_load_mid rfl 31 (.tmp 9) rfl w6.heap.size 0 rfl [.int .i64 rp, .int .i64 ru, .int .i64 rd] _ LR.out Tryd.underlying31 rfl Tryd.szCe ?_; refine wpList_store_mid rfl 31 (.tmp 5) (.tmp 44) rfl g 0 #[.int .i64 rp, .int .i64 ru, .int .i64 rd] rfl rfl ?tq1 ?tq2 ?tq3 ?_; exact TH.out; exact Tryd.szCe; exact ON.out; clear TH LR ON; generalize World.setCells _ _ _ _ = W4 at *)
          go_roundw
          case rel => exact ⟨k + 1, ⟨rp, ru, rd⟩, by go_num, by omega, HP.out, HZ6.out, HO6.out, HC6.out, HN6.out⟩
          case measure => simp [intOf]; omega
      · obtain rfl : k = l.length := by omega
        clear hlk hown
        obtain ⟨xp, xu, xd⟩ := x
        go_wp2_with fail
        refine (one_any p a zs cap (M + 146) _ _ hz (by omega) hcr).mono ?_
        rintro e w7 ⟨b, rfl, hc7, ho7⟩
        have hA7 := hA.only ho7 (by omega)
        have hZ7 := hZ.only ho7 (by omega)
        have hor7 := hor.trans ho7
        clear hcr hA hZ ho7 hor
        cases b with
        | false =>
          obtain ⟨k0, k1, k2⟩ := hA7.cells
          obtain ⟨d0, d1, d2⟩ := hZ7.cells
          have z0 := hZ7.free 0
          have z1 := hZ7.free 1
          have z2 := hZ7.free 2
          clear hA7 hZ7
          go_wp2
          exact bodyPost_ret (v := Ce.v ⟨xp, xu, xd⟩) (by simp [results, Tryd.results36, go_sem, d0, d1, d2]) rfl ⟨⟨xp, xu, xd⟩, rfl, (BK.cur_set (BK.cur_set (BK.cur_set hc7 (by omega)) (by omega)) (by omega)).more (by omega), BK.only_set (BK.only_set (BK.only_set hor7 (Nat.le_refl _)) (Nat.le_refl _)) (Nat.le_refl _)⟩
        | true =>
          have hs7 := hA7.lt
          go_wp2_with fail
          refine (among_any p a zs cap (M + 148) (some ⟨w7.heap.size, 0, none⟩) [-1, 2000000, 2000001] 3 _ hz (by omega) (hc7.alloc _) (by simp) (by simp) (TD.new_ints _ _ _) ?_).mono ?_
          · intro b off hb; cases hb; have := hc7.lt; omega
          rintro e w8 ⟨y, rfl, -, hc8, ho8⟩
          have hA8 := (hA7.alloc (.cells #[.int .i64 (-1), .int .i64 2000000, .int .i64 2000001] 3)).only ho8 (by omega)
          have hZ8 := (hZ7.alloc (.cells #[.int .i64 (-1), .int .i64 2000000, .int .i64 2000001] 3)).only ho8 (by omega)
          have hor8 := (hor7.alloc (.cells #[.int .i64 (-1), .int .i64 2000000, .int .i64 2000001] 3)).trans ho8
          obtain ⟨k0, k1, k2⟩ := hA8.cells
          obtain ⟨d0, d1, d2⟩ := hZ8.cells
          have z0 := hZ8.free 0
          have z1 := hZ8.free 1
          have z2 := hZ8.free 2
          have y2 := hA8.free 2
          have hne : w.heap.size ≠ g := by omega
          have hne' : g ≠ w.heap.size := by omega
          clear hA8 hZ8 hA7 hZ7 hc7 hor7 ho8
          go_wp2
          exact bodyPost_ret (v := Ce.v ⟨xp, xu, y⟩) (by simp [results, Tryd.results36, go_sem, d0, d1, d2, hne, hne']) rfl ⟨⟨xp, xu, y⟩, rfl, (BK.cur_set (BK.cur_set (BK.cur_set (BK.cur_set hc8 (by omega)) (by omega)) (by omega)) (by omega)).more (by omega), BK.only_set (BK.only_set (BK.only_set (BK.only_set hor8 (by omega)) (Nat.le_refl _)) (Nat.le_refl _)) (Nat.le_refl _)⟩
end Go.Proofs.YteedppngiknjlaaDoor
