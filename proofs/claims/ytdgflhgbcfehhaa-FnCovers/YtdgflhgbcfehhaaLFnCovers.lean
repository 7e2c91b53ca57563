import Derived.Test.YtdgflhgbcfehhaaRows
import Derived.Test.YtdgflhgbcfehhaaMHasB
import Derived.WalkKit
import Derived.WalkSpells
import Derived.WalkLawsBesides
import Derived.Outline
import Derived.Test.YtdgflhgbcfehhaaCPieceD
import Derived.Test.YtdgflhgbcfehhaaMCurNew
import Derived.Test.YtdgflhgbcfehhaaCStackOf
import Derived.Test.YtdgflhgbcfehhaaCCovS
import Derived.Test.YtdgflhgbcfehhaaCFirst
import Derived.Test.YtdgflhgbcfehhaaCWholeS
import Derived.Test.YtdgflhgbcfehhaaCParcelBundle
import Derived.Test.YtdgflhgbcfehhaaMPP
import Derived.Test.YtdgflhgbcfehhaaCCutBS
import Derived.Test.YtdgflhgbcfehhaaMBX
import Derived.Test.YtdgflhgbcfehhaaMA2
import Derived.Test.YtdgflhgbcfehhaaCAddT
import Derived.Maps.AppendAt
import Derived.Laws.OwnMore
import Derived.Laws.AppendOwnNone
import Derived.Deep.RegionHeld3
import Derived.Test.YtdgflhgbcfehhaaMPY
import Derived.Test.YtdgflhgbcfehhaaCOf
import Derived.Test.YtdgflhgbcfehhaaMRH
import Derived.Test.YtdgflhgbcfehhaaCAddI
import Derived.Test.YtdgflhgbcfehhaaCMissI
import Derived.Test.YtdgflhgbcfehhaaCSameP
import Derived.Test.YtdgflhgbcfehhaaCSpecPile
import Derived.Test.YtdgflhgbcfehhaaCImplGoodB
import Derived.Deep.RegionWith
import Derived.Deep.DeepCutAuto
import Derived.Deep.QuietTactic
import Derived.BigQuiet
import Derived.Lib.ConvBytes
/- The laws' has: whether a number is in a row. -/
namespace Go.Proofs.Ytdgflhgbcfehhaa
open Go.RowKit
set_option maxHeartbeats 1600000 in
set_option maxRecDepth 100000 in
theorem hasL_any (a : Option Addr) (cap : Nat) (zs : List Int) (x : Int) (w : World) (ho : zs.length ≤ 1048576) (hos : M4.IntsAt w a zs) :
    Calls Try.prog 22 #[.slice a zs.length cap, .int .i64 x] w fun e w' => e = .returned (.bool (EG.hasB zs x)) ∧ w = w' := by
  go_enter Try.func22, Try.ntmps22
  go_wp2
  go_loopw [9] (fun iv wr => ∃ k : Nat, iv = .int .i64 k ∧ k ≤ zs.length ∧ Hid (EG.noUp zs x k) ∧ w = wr) (fun iv _ => (zs.length - intOf iv).toNat)
  case atStart => exact ⟨0, rfl, by omega, show Hid _ from fun j hj => by omega, rfl⟩
  case round =>
    obtain ⟨k, rfl, hk, hT, rfl⟩ := hrel
    by_cases hlk : k < zs.length
    · obtain ⟨b1, off1, rfl, hlt1, hc1⟩ := hos.at hlk
      have HY : Hid _ := fun h => EG.hasB_yes (x := x) hlk h
      have HN : Hid _ := fun h => EG.noUp_succ hT.out (k := k) h
      clear hos hT
      generalize zs.getD k 0 = y at *
      by_cases hxy : y = x
      · have hF : Hid _ := HY.out hxy
        subst hxy
        clear HY HN
        go_wp2
        go_ret
        exact ⟨retB7 hF.out.symm, rfl⟩
      · have hT : Hid _ := HN.out hxy
        clear HY HN
        go_wp2
        go_roundw
        case rel => exact ⟨k + 1, by go_num, by omega, hT, trivial⟩
        case measure => simp [intOf]; omega
    · obtain rfl : k = zs.length := by omega
      have hF : Hid _ := EG.hasB_no hT.out
      clear hos hT
      go_wp2
      go_ret
      exact ⟨retB7 hF.out.symm, rfl⟩
end Go.Proofs.Ytdgflhgbcfehhaa

/- DrawCutPiece: a bundle, a piece mostly, and a place. -/
namespace Go.Proofs.Ytdgflhgbcfehhaa
open Go.RowKit
theorem bytes_upP {w : World} {a : Option Addr} {zs : List Int} (o : Obj) (h : MC.BytesAt w w.heap.size a zs) : MC.BytesAt (w.alloc o) (w.alloc o).heap.size a zs := by
  have h1 := h.only (q := w.heap.size) (MC.Only.of_below ((Below.refl _ w).alloc (Nat.le_refl _) o)) (Nat.le_refl _) (Nat.le_refl _)
  exact h1.up (by simp)
set_option linter.unusedSimpArgs false in
set_option maxHeartbeats 3200000 in
set_option maxRecDepth 100000 in
theorem drawCutPiece_any (a : Option Addr) (zs : List Int) (cap : Nat) (w : World) (hz : zs.length ≤ 140737488355328) (hb : MC.BytesAt w w.heap.size a zs) :
    Calls Try.prog 14 #[.slice a zs.length cap] w fun e w' => ∃ (b : Bd) (n : Nat), e = .returned (.tuple #[b.v, .int .i64 (n : Int)]) ∧ b.py.size ≤ 61 ∧ n ≤ 8 ∧ Below w.heap.size w w' := by
  have hbr := BX.Box.new w 24 B1.zero w.heap.size rfl
  have hW0 : Below w.heap.size w (w.alloc (.cells (BX.cs B1.zero).toArray 24)) := (Below.refl _ w).alloc (Nat.le_refl _) _
  have hb0 := bytes_upP (.cells (BX.cs B1.zero).toArray 24) hb
  have hs0 : (w.alloc (.cells (BX.cs B1.zero).toArray 24)).heap.size = w.heap.size + 1 := by simp
  simp only [BX.cs, Bd.cs, B1.zero] at hbr hW0 hb0 hs0
  clear hb
  go_enter Try.func14, Try.ntmps14
  go_wp2_with fail
  generalize w.alloc (.cells #[.int .i64 0, .int .i64 0, .bool false, .int .i64 0, .int .i64 0, .int .i64 0, .int .i64 0, .int .i64 0, .int .i64 0, .string ⟨#[]⟩] 24) = W0 at *
  change BX.Box W0 w.heap.size 24 B1.zero at hbr
  obtain ⟨p, hp⟩ : ∃ p, W0.heap.size = p := ⟨_, rfl⟩
  rw [← hs0, hp]
  have hlt : w.heap.size < p := by omega
  have hcur := cur_new (T := 55) (cap := cap) hb0
  have hnb : Hid (∀ W, MC.Only p (W0.alloc (.cells #[.slice a zs.length cap, .int .i64 0, .int .u64 0] 55)) W → Below W0.heap.size W0 W) := fun W h => new_below hp.symm h
  rw [hp] at hcur hs0
  clear hs0
  refine (piece_any p a zs cap 0 _ hz (by omega) hcur).mono ?_
  rintro e w1 ⟨b, rfl, hpy, hc1, ho1⟩
  clear hcur
  go_wp2_with fail
  refine (pick_any p a zs cap (0 + 110) _ _ hz (by omega) hc1).mono ?_
  rintro e w2 ⟨n, rfl, hn, -, -, ho3⟩
  have hn2 : n ≤ 8 := by omega
  have hB1 := hnb.out _ (ho1.trans ho3)
  have hBw := hW0.trans (hB1.mono (by omega))
  replace hbr := hbr.below hB1 (by omega)
  clear ho1 ho3 hB1 hb0 hW0 hc1 hn
  obtain ⟨x0, x1, x2, x3, x4, x5, x6, x7, x8, x9⟩ := b
  have m0 := hbr.cells 0
  have g0 := hbr.free 0
  have m1 := hbr.cells 1
  have g1 := hbr.free 1
  have m2 := hbr.cells 2
  have g2 := hbr.free 2
  have m3 := hbr.cells 3
  have g3 := hbr.free 3
  have m4 := hbr.cells 4
  have g4 := hbr.free 4
  have m5 := hbr.cells 5
  have g5 := hbr.free 5
  have m6 := hbr.cells 6
  have g6 := hbr.free 6
  have m7 := hbr.cells 7
  have g7 := hbr.free 7
  have m8 := hbr.cells 8
  have g8 := hbr.free 8
  have m9 := hbr.cells 9
  have g9 := hbr.free 9
  simp [Bd.cs, B1.zero] at m0 m1 m2 m3 m4 m5 m6 m7 m8 m9
  have hrl := hbr.lt
  have hP := hbr.put ⟨x0, x1, x2, x3, x4, x5, x6, x7, x8, x9⟩
  have hBE := ((((((((((hBw.setCell (p := ⟨w.heap.size, 0, none⟩) (by simp) (.int .i64 x0)).setCell (p := ⟨w.heap.size, 1, none⟩) (by simp) (.int .i64 x1)).setCell (p := ⟨w.heap.size, 2, none⟩) (by simp) (.bool x2)).setCell (p := ⟨w.heap.size, 3, none⟩) (by simp) (.int .i64 x3)).setCell (p := ⟨w.heap.size, 4, none⟩) (by simp) (.int .i64 x4)).setCell (p := ⟨w.heap.size, 5, none⟩) (by simp) (.int .i64 x5)).setCell (p := ⟨w.heap.size, 6, none⟩) (by simp) (.int .i64 x6)).setCell (p := ⟨w.heap.size, 7, none⟩) (by simp) (.int .i64 x7)).setCell (p := ⟨w.heap.size, 8, none⟩) (by simp) (.int .i64 x8)).setCell (p := ⟨w.heap.size, 9, none⟩) (by simp) (.string x9))
  clear hbr
  go_wp2
  have n0 := hP.cells 0
  have n1 := hP.cells 1
  have n2 := hP.cells 2
  have n3 := hP.cells 3
  have n4 := hP.cells 4
  have n5 := hP.cells 5
  have n6 := hP.cells 6
  have n7 := hP.cells 7
  have n8 := hP.cells 8
  have n9 := hP.cells 9
  simp [Bd.cs, B1.zero] at n0 n1 n2 n3 n4 n5 n6 n7 n8 n9
  generalize ((((((((((((((((((((w2).setCell ⟨w.heap.size, 0, none⟩ (.int .i64 x0))).setCell ⟨w.heap.size, 1, none⟩ (.int .i64 x1))).setCell ⟨w.heap.size, 2, none⟩ (.bool x2))).setCell ⟨w.heap.size, 3, none⟩ (.int .i64 x3))).setCell ⟨w.heap.size, 4, none⟩ (.int .i64 x4))).setCell ⟨w.heap.size, 5, none⟩ (.int .i64 x5))).setCell ⟨w.heap.size, 6, none⟩ (.int .i64 x6))).setCell ⟨w.heap.size, 7, none⟩ (.int .i64 x7))).setCell ⟨w.heap.size, 8, none⟩ (.int .i64 x8))).setCell ⟨w.heap.size, 9, none⟩ (.string x9)) = WE at *
  exact bodyPost_ret (v := .tuple #[.agg #[.int .i64 x0, .int .i64 x1, .bool x2, .int .i64 x3, .int .i64 x4, .int .i64 x5, .int .i64 x6, .int .i64 x7, .int .i64 x8, .string x9], .int .i64 (n : Int)]) (by simp [results, Try.results14, go_sem, n0, n1, n2, n3, n4, n5, n6, n7, n8, n9]) rfl ⟨⟨x0, x1, x2, x3, x4, x5, x6, x7, x8, x9⟩, n, rfl, hpy, hn2, hBE⟩
end Go.Proofs.Ytdgflhgbcfehhaa

/- The program's Covered, at any pile. -/
namespace Go.Proofs.Ytdgflhgbcfehhaa
open Go.RowKit
theorem upOk_good' (xs : List Bd) : upOk xs = PL.good xs := PL.good_same xs
theorem upV_good {xs : List Bd} (v : Value) (h : PL.good xs = true) : upV xs v = stF v (PL.sh xs xs.length) := by
  unfold upV; rw [upOk_good', h]; rfl
theorem st_parts {W : World} {k : Nat} {v : Value} {s : PL.Sh} (h : MA.Rg W k 0 (stF v s)) : MA.Rg W k 1 (MA.tF s.th) ∧ MA.Rg W k 61 (MA.yF s.by_) ∧ MA.Rg W k 0 [v] := by
  have h1 := MA.Rg.app (xs := [v]) h
  have h2 := h1.2.sheet
  exact ⟨h2.1, h2.2, h1.1⟩
set_option linter.unusedSimpArgs false in
set_option maxHeartbeats 400000 in
set_option maxRecDepth 100000 in
theorem implCovered_any (a : Option Addr) (cap : Nat) (xs : List Bd) (w : World) (hn : xs.length ≤ 1048576) (ht : Hid (∀ k, k < xs.length → (MP.at_ xs k).py.size ≤ 1048576)) (hin : MP.BsAt w a xs) :
    Calls Try.prog 21 #[.agg #[.slice a xs.length cap]] w fun e w' => ∃ a1 c1, e = .returned (.tuple #[.slice a1 (covL xs).length c1, .bool (PL.good xs)]) ∧ w'.ownsRow w.heap.size 3 1 (.slice a1 (covL xs).length c1) (covL xs).length (M4.iv (covL xs)) ∧ Below w.heap.size w w' := by
  have SO : Hid _ := fun W h => stackOf_any a cap xs W hn ht h
  have hB : Below w.heap.size w (w.alloc (.cells #[.slice a xs.length cap] 31)) := (Below.refl _ w).alloc (Nat.le_refl _) _
  have HI : Hid (MP.BsAt (w.alloc (.cells #[.slice a xs.length cap] 31)) a xs) := hin.below hB
  go_enter Try.func21, Try.ntmps21
  go_wp2_with fail
  refine (SO.out _ HI.out).mono ?_
  rintro e w2 ⟨g, rfl, _, hb2⟩
  have hB2 := hB.trans (hb2.mono hB.size)
  clear SO HI hb2 hB
  rw [upOk_good']
  obtain ⟨L, hL⟩ : ∃ L, upV xs (.slice (some ⟨g, 0, none⟩) xs.length xs.length) = L := ⟨_, rfl⟩
  have HL : Hid _ := hL
  have HL1 : Hid (L.length = 121) := by rw [← hL]; exact upV_len _ _ _ _
  have HL2 : Hid (∀ v ∈ L, v.oneCell' = true) := by rw [← hL]; exact upV_one _ _ _ _
  rw [hL]
  clear hL
  have RN : Hid _ := MA.Rg.new w2 (stF (.slice none 0 0) PL.blank) 75
  have RP : Hid (MA.Rg (World.setCells (w2.alloc (.cells (stF (.slice none 0 0) PL.blank).toArray 75)) w2.heap.size 0 L) w2.heap.size 0 L) := RN.out.put (by rw [Z_len]; exact HL1.out)
  have HB : Hid (Below w.heap.size w (World.setCells (w2.alloc (.cells (stF (.slice none 0 0) PL.blank).toArray 75)) w2.heap.size 0 L)) := MA.below_cells (b := w2.heap.size) hB2.size L 0 _ (hB2.alloc hB2.size _)
  cases hg : PL.good xs with
  | false =>
    have hC : Hid _ := covL_no hg
    have HG : Hid _ := hg
    clear hg
    go_wp2_with (first
      | (refine MA.alloc_z rfl 75 rfl _ _ Try.infoStack' ?_; simp only [MA.sz_alloc])
      | (refine MA.store_m rfl 75 _ _ rfl rfl rfl (cs := stF (.slice none 0 0) PL.blank) ?_ Try.sizeStack Z_len HL1.out HL2.out ?_; exact RN.out; clear RN; generalize World.setCells _ _ _ _ = W3 at *))
    go_ret2
    exact ⟨none, 0, by rw [hC.out, HG.out]; rfl, by rw [hC.out]; exact World.ownsRow_nil _ _ _ _, HB.out⟩
  | true =>
    have hC : Hid _ := covL_yes hg
    have HG : Hid _ := hg
    have RT : Hid (MA.Rg (World.setCells (w2.alloc (.cells (stF (.slice none 0 0) PL.blank).toArray 75)) w2.heap.size 0 L) w2.heap.size 1 (MA.tF (PL.sh xs xs.length).th)) := by
      have := RP.out
      rw [← HL.out, upV_good _ hg] at this
      rw [← HL.out, upV_good _ hg]
      exact (st_parts this).1
    have PLC : Hid _ := fun W => places_any (PL.sh xs xs.length).th W
    clear hg RP HL
    go_wp2_with (first
      | (refine MA.alloc_z rfl 75 rfl _ _ Try.infoStack' ?_; simp only [MA.sz_alloc])
      | (refine MA.store_m rfl 75 _ _ rfl rfl rfl (cs := stF (.slice none 0 0) PL.blank) ?_ Try.sizeStack Z_len HL1.out HL2.out ?_; exact RN.out; clear RN; generalize World.setCells _ _ _ _ = W3 at *)
      | (refine MA.load_m rfl 69 _ rfl rfl (cs := MA.tF (PL.sh xs xs.length).th) ?_ Try.underlying69 rfl Try.sizeMarks (MA.tF_len _) ?_; exact RT.out))
    refine (PLC.out _).mono ?_
    rintro e w4 ⟨a1, c1, rfl, ho, hb4⟩
    have HO : Hid _ := ho
    have hB4 := HB.out.trans (hb4.mono HB.out.size)
    have hsz := HB.out.size
    clear PLC ho hb4
    go_wp2
    go_ret2
    have HO' := HO.out
    rw [← hC.out] at HO'
    exact ⟨a1, c1, by rw [hC.out, HG.out]; rfl, MA.own_base HO' hsz, hB4⟩
end Go.Proofs.Ytdgflhgbcfehhaa

/- The program's GoodPile, at any pile. -/
namespace Go.Proofs.Ytdgflhgbcfehhaa
open Go.RowKit
theorem upOk_good (xs : List Bd) : upOk xs = PL.good xs := PL.good_same xs
set_option linter.unusedSimpArgs false in
set_option maxHeartbeats 400000 in
set_option maxRecDepth 100000 in
theorem implGoodPile_any (a : Option Addr) (cap : Nat) (xs : List Bd) (w : World) (hn : xs.length ≤ 1048576) (ht : Hid (∀ k, k < xs.length → (MP.at_ xs k).py.size ≤ 1048576)) (hin : MP.BsAt w a xs) :
    Calls Try.prog 19 #[.agg #[.slice a xs.length cap]] w fun e w' => e = .returned (.bool (PL.good xs)) ∧ Below w.heap.size w w' := by
  have SO : Hid _ := fun W h => stackOf_any a cap xs W hn ht h
  have hB : Below w.heap.size w (w.alloc (.cells #[.slice a xs.length cap] 31)) := (Below.refl _ w).alloc (Nat.le_refl _) _
  have HI : Hid (MP.BsAt (w.alloc (.cells #[.slice a xs.length cap] 31)) a xs) := hin.below hB
  go_enter Try.func19, Try.ntmps19
  go_wp2_with fail
  refine (SO.out _ HI.out).mono ?_
  rintro e w2 ⟨g, rfl, _, hb2⟩
  have hB2 := hB.trans (hb2.mono hB.size)
  clear SO HI hb2 hB
  obtain ⟨L, hL⟩ : ∃ L, upV xs (.slice (some ⟨g, 0, none⟩) xs.length xs.length) = L := ⟨_, rfl⟩
  have HL1 : Hid (L.length = 121) := by rw [← hL]; exact upV_len _ _ _ _
  have HL2 : Hid (∀ v ∈ L, v.oneCell' = true) := by rw [← hL]; exact upV_one _ _ _ _
  rw [hL]
  clear hL
  have RN : Hid _ := MA.Rg.new w2 (stF (.slice none 0 0) PL.blank) 75
  go_wp2_with (first
    | (refine MA.alloc_z rfl 75 rfl _ _ Try.infoStack' ?_; simp only [MA.sz_alloc])
    | (refine MA.store_m rfl 75 _ _ rfl rfl rfl (cs := stF (.slice none 0 0) PL.blank) ?_ Try.sizeStack Z_len HL1.out HL2.out ?_; exact RN.out; clear RN; have HB : Hid _ := MA.below_cells (b := w2.heap.size) hB2.size L 0 _ (hB2.alloc hB2.size (.cells (stF (.slice none 0 0) PL.blank).toArray 75)); generalize World.setCells _ _ _ _ = W3 at *))
  go_ret
  exact ⟨by rw [upOk_good]; rfl, HB.out⟩
end Go.Proofs.Ytdgflhgbcfehhaa

/- The program's WholeOf, at any pile. -/
namespace Go.Proofs.Ytdgflhgbcfehhaa
open Go.RowKit
set_option linter.unusedSimpArgs false in
set_option maxHeartbeats 400000 in
set_option maxRecDepth 100000 in
theorem totalW_any (g : Nat) (xs : List Bd) (s : PL.Sh) (w : World) (hn : xs.length ≤ 1048576) (hg : PL.good xs = true) (hin : MP.BsAt w (some ⟨g, 0, none⟩) xs) :
    Calls Try.prog 46 #[.agg (stF (.slice (some ⟨g, 0, none⟩) xs.length xs.length) s).toArray] w fun e w' => e = .returned (.int .i64 (PL.total xs : Int)) ∧ Below w.heap.size w w' := by
  have r0 := (st_parts (MA.Rg.new w (stF (.slice (some ⟨g, 0, none⟩) xs.length xs.length) s) 75)).2.2
  have c0 : (w.alloc (.cells (stF (.slice (some ⟨g, 0, none⟩) xs.length xs.length) s).toArray 75)).cell? ⟨w.heap.size, 0, none⟩ = some (.slice (some ⟨g, 0, none⟩) xs.length xs.length) := r0.cell (j := 0) rfl
  have hB : Below w.heap.size w (w.alloc (.cells (stF (.slice (some ⟨g, 0, none⟩) xs.length xs.length) s).toArray 75)) := (Below.refl _ w).alloc (Nat.le_refl _) _
  have hR := hin.below hB
  clear r0
  generalize stF (.slice (some ⟨g, 0, none⟩) xs.length xs.length) s = L at *
  by_cases h0 : xs = []
  · subst h0
    clear hR hin
    have e0 : Hid (PL.total [] = 0) := rfl
    go_enter Try.func46, Try.ntmps46
    go_wp2
    go_ret
    exact ⟨rfl, hB⟩
  · have hn0 : 0 < xs.length := by cases xs with | nil => exact absurd rfl h0 | cons x l => simp
    have hne : ¬ xs.length = 0 := by omega
    have htl : (MP.at_ xs 0).tl = (PL.total xs : Int) := by
      have p0 := PL.pg_is ((PL.good_inv hg).1.2.2.2 0 hn0)
      unfold PL.total; rw [if_neg h0]; omega
    obtain ⟨b, off, hab, hbl, rg⟩ := MA.row_range hR hn0
    cases hab
    have ctl : (w.alloc (.cells L.toArray 75)).cell? ⟨g, 8, none⟩ = some (.int .i64 (PL.total xs : Int)) := by
      rw [Nat.zero_mul, Nat.add_zero] at rg
      have := rg 8 (.int .i64 (MP.at_ xs 0).tl) rfl
      rw [htl] at this
      simpa using this
    clear rg htl hg hR hbl hin
    generalize PL.total xs = n at *
    go_enter Try.func46, Try.ntmps46
    go_wp2
    go_ret
    exact ⟨rfl, hB⟩
/-- Whether a stack is whole. -/
def allTh (xs : List Bd) : Bool := PL.upto (fun p => ((PL.sh xs xs.length).th p == decide (p < PL.total xs))) 60
theorem whole_ok {xs : List Bd} (h : PL.good xs = true) : wholeOk xs = (decide (xs ≠ []) && allTh xs) := by
  have e : decide (missN xs ≤ 0) = allTh xs := by
    rw [Bool.eq_iff_iff, decide_eq_true_eq, miss_iff h, allTh, PL.upto_iff]
    exact forall_congr' fun p => imp_congr_right fun _ => by rw [beq_iff_eq]
  unfold wholeOk
  rw [h, e, Bool.true_and]
set_option linter.unusedSimpArgs false in
set_option maxHeartbeats 800000 in
set_option maxRecDepth 100000 in
theorem isWhole_any (g : Nat) (xs : List Bd) (w : World) (hn : xs.length ≤ 1048576) (hg : PL.good xs = true) (hin : MP.BsAt w (some ⟨g, 0, none⟩) xs) :
    Calls Try.prog 44 #[.agg (stF (.slice (some ⟨g, 0, none⟩) xs.length xs.length) (PL.sh xs xs.length)).toArray] w fun e w' => e = .returned (.bool (wholeOk xs)) ∧ Below w.heap.size w w' := by
  have hok := whole_ok hg
  have RN := MA.Rg.new w (stF (.slice (some ⟨g, 0, none⟩) xs.length xs.length) (PL.sh xs xs.length)) 75
  have hB : Below w.heap.size w (w.alloc (.cells (stF (.slice (some ⟨g, 0, none⟩) xs.length xs.length) (PL.sh xs xs.length)).toArray 75)) := (Below.refl _ w).alloc (Nat.le_refl _) _
  have hrow0 := hin.below hB
  have HH : Hid _ := And.intro RN (And.intro hB hrow0)
  clear RN hB hrow0
  by_cases h0 : xs = []
  · have hok2 : Hid (false = wholeOk xs) := by rw [hok]; simp [Hid, h0]
    have HN0 : Hid (xs.length = 0) := by rw [h0]; rfl
    clear h0
    go_enter Try.func44, Try.ntmps44
    generalize hW : w.alloc (.cells (stF (.slice (some ⟨g, 0, none⟩) xs.length xs.length) (PL.sh xs xs.length)).toArray 75) = W at HH
    clear hok
    go_wp2
    clear hW
    have c0 : W.cell? ⟨w.heap.size, 0, none⟩ = some (.slice (some ⟨g, 0, none⟩) xs.length xs.length) := (st_parts HH.out.1).2.2.cell (j := 0) rfl
    have hq := HH.out.1.lt
    have hn0 := HN0.out
    refine MR.frame fun A hA => ?_
    have hsz : A.tmps.size = 16 := by rw [hA]; rfl
    have e1 : A.eval (.tmp 1) = .pointer (some ⟨w.heap.size, 0, none⟩) := by rw [hA]; rfl
    have f1 := MR.read (t := 1) (by rw [hsz]; decide) e1
    have HA : Hid (A = _) := hA
    clear hA
    have hS : (fun w' : World => Below W.heap.size W w') (World.drew _) := ((Below.refl _ W).drew)
    refine wp_region_held (S := fun w' : World => Below W.heap.size W w') (by kernel_rfl) ?_
    change wpAnyH _ _ _ _ _ _ _ _ (World.drew _)
    refine MR.takeH (i := 0) (some 3) (.pointer (some ⟨w.heap.size, 0, none⟩)) rfl rfl (by kernel_rfl) (by kernel_rfl) (by kernel_rfl) (fun _ _ _ h => h) hS (MR.free rfl) (fun wq hw => by simp [execOp, MR.ev, MR.size, hsz, e1, f1, go_sem]) ?_
    refine MR.takeH (i := 1) (some 4) (.slice (some ⟨g, 0, none⟩) xs.length xs.length) rfl rfl (by kernel_rfl) (by kernel_rfl) (by kernel_rfl) (fun _ _ _ h => h) hS (MR.free rfl) (fun wq hw => by simp [execOp, MR.ev, MR.size, hsz, e1, f1, (hw.cell (p := ⟨w.heap.size, 0, none⟩) hq).trans c0, go_sem]) ?_
    refine MR.takeH (i := 2) (some 5) (.int .i64 (xs.length : Int)) rfl rfl (by kernel_rfl) (by kernel_rfl) (by kernel_rfl) (fun _ _ _ h => h) hS (MR.free rfl) (fun wq hw => by simp [execOp, MR.ev, MR.size, hsz, e1, f1, go_sem]) ?_
    refine MR.takeH (i := 3) (some 6) (.bool false) rfl rfl (by kernel_rfl) (by kernel_rfl) (by kernel_rfl) (fun _ _ _ h => h) hS (MR.free rfl) (fun wq hw => by simp [execOp, MR.ev, MR.size, hsz, e1, f1, hn0, go_sem]) ?_
    refine MR.takeH (i := 4) (some 7) (.bool false) rfl rfl (by kernel_rfl) (by kernel_rfl) (by kernel_rfl) (fun _ _ _ h => h) hS (MR.free rfl) (fun wq hw => by simp [execOp, MR.ev, MR.size, hsz, e1, f1, go_sem]) ?_
    refine MR.skipH (i := 5) (some 8) rfl rfl (by kernel_rfl) (by kernel_rfl) (by kernel_rfl) (fun _ _ _ h => h) hS (MR.unwant (d := 7) (b' := false) rfl rfl (by simp [MR.size, hsz]) (by simp [MR.ev, MR.size, hsz, e1, f1]) (by decide)) ?_
    refine MR.skipH (i := 6) (some 9) rfl rfl (by kernel_rfl) (by kernel_rfl) (by kernel_rfl) (fun _ _ _ h => h) hS (MR.unwant (d := 7) (b' := false) rfl rfl (by simp [MR.size, hsz]) (by simp [MR.ev, MR.size, hsz, e1, f1]) (by decide)) ?_
    refine MR.skipH (i := 7) (some 10) rfl rfl (by kernel_rfl) (by kernel_rfl) (by kernel_rfl) (fun _ _ _ h => h) hS (MR.unwant (d := 7) (b' := false) rfl rfl (by simp [MR.size, hsz]) (by simp [MR.ev, MR.size, hsz, e1, f1]) (by decide)) ?_
    refine MR.skipH (i := 8) (some 11) rfl rfl (by kernel_rfl) (by kernel_rfl) (by kernel_rfl) (fun _ _ _ h => h) hS (MR.unwant (d := 7) (b' := false) rfl rfl (by simp [MR.size, hsz]) (by simp [MR.ev, MR.size, hsz, e1, f1]) (by decide)) ?_
    refine MR.skipH (i := 9) (some 12) rfl rfl (by kernel_rfl) (by kernel_rfl) (by kernel_rfl) (fun _ _ _ h => h) hS (MR.unwant (d := 7) (b' := false) rfl rfl (by simp [MR.size, hsz]) (by simp [MR.ev, MR.size, hsz, e1, f1]) (by decide)) ?_
    refine MR.skipH (i := 10) (some 13) rfl rfl (by kernel_rfl) (by kernel_rfl) (by kernel_rfl) (fun _ _ _ h => h) hS (MR.unwant (d := 7) (b' := false) rfl rfl (by simp [MR.size, hsz]) (by simp [MR.ev, MR.size, hsz, e1, f1]) (by decide)) ?_
    refine MR.skipH (i := 11) (some 14) rfl rfl (by kernel_rfl) (by kernel_rfl) (by kernel_rfl) (fun _ _ _ h => h) hS (MR.unwant (d := 7) (b' := false) rfl rfl (by simp [MR.size, hsz]) (by simp [MR.ev, MR.size, hsz, e1, f1]) (by decide)) ?_
    refine MR.takeH (i := 12) (some 15) (.bool false) rfl rfl (by kernel_rfl) (by kernel_rfl) (by kernel_rfl) (fun _ _ _ h => h) hS (MR.free rfl) (fun wq hw => by simp [execOp, MR.ev, MR.size, hsz, e1, f1, go_sem]) ?_
    refine MR.takeH (i := 13) (some 2) (.bool false) rfl rfl (by kernel_rfl) (by kernel_rfl) (by kernel_rfl) (fun _ _ _ h => h) hS (MR.free rfl) (fun wq hw => by simp [execOp, MR.ev, MR.size, hsz, e1, f1, go_sem]) ?_
    refine wpAnyH_done (by kernel_rfl) ?_ _
    have hB6 : Below w.heap.size w W.drew := HH.out.2.1.drew
    rw [HA.out]
    clear hS HA e1 f1 hsz c0 HH hn0
    simp only [Act.put, List.setIfInBounds_toArray, List.set_cons_succ, List.set_cons_zero]
    go_wp2
    go_ret
    exact ⟨retBb hok2.out, hB6⟩
  · have hn0 : 0 < xs.length := by cases xs with | nil => exact absurd rfl h0 | cons x l => simp
    have TO : Hid _ := fun W h => totalW_any g xs (PL.sh xs xs.length) W hn hg h
    have FM : Hid _ := fun W => firstMarks_any (PL.total xs) W (PL.total_le hg)
    obtain ⟨R, hR⟩ : ∃ R, allTh xs = R := ⟨_, rfl⟩
    have hok2 : Hid (R = wholeOk xs) := by rw [hok, hR]; simp [Hid, h0]
    have hE : ∀ W, (binOp .eql 69 (.agg (MA.tF (PL.sh xs xs.length).th).toArray) (.agg (MA.tF fun p => decide (p < PL.total xs)).toArray)).run Try.prog W = .ok (.bool R) W := by
      intro W
      obtain ⟨i4, hi4⟩ : ∃ i, Try.prog.info? 4 = some i := Option.isSome_iff_exists.1 (by kernel_rfl)
      have := MA.eql_arr (P := Try.prog) (w := W) Try.underlying69 hi4 (by kernel_rfl) (by go_simp) (fun p => ((PL.sh xs xs.length).th p == decide (p < PL.total xs))) (xs := MA.tF (PL.sh xs xs.length).th) (ys := MA.tF fun p => decide (p < PL.total xs)) (fun p hp => ⟨_, _, MA.tF_get _ hp, MA.tF_get _ hp, run_equalIn_bool W 9998 4 _ _ Try.underlying4⟩)
      rw [this, ← hR]; rfl
    go_enter Try.func44, Try.ntmps44
    generalize hW : w.alloc (.cells (stF (.slice (some ⟨g, 0, none⟩) xs.length xs.length) (PL.sh xs xs.length)).toArray 75) = W at HH
    clear hok hR
    go_wp2
    clear hW
    have c0 : W.cell? ⟨w.heap.size, 0, none⟩ = some (.slice (some ⟨g, 0, none⟩) xs.length xs.length) := (st_parts HH.out.1).2.2.cell (j := 0) rfl
    have hq := HH.out.1.lt
    have hTr := (st_parts HH.out.1).1.rng
    have hPr := HH.out.1.rng
    have hrow : MP.BsAt W (some ⟨g, 0, none⟩) xs := HH.out.2.2
    refine MR.frame fun A hA => ?_
    have hsz : A.tmps.size = 16 := by rw [hA]; rfl
    have e1 : A.eval (.tmp 1) = .pointer (some ⟨w.heap.size, 0, none⟩) := by rw [hA]; rfl
    have f1 := MR.read (t := 1) (by rw [hsz]; decide) e1
    have HA : Hid (A = _) := hA
    clear hA
    have hS : (fun w' : World => Below W.heap.size W w') (World.drew _) := ((Below.refl _ W).drew)
    refine wp_region_held (S := fun w' : World => Below W.heap.size W w') (by kernel_rfl) ?_
    change wpAnyH _ _ _ _ _ _ _ _ (World.drew _)
    refine MR.takeH (i := 0) (some 3) (.pointer (some ⟨w.heap.size, 0, none⟩)) rfl rfl (by kernel_rfl) (by kernel_rfl) (by kernel_rfl) (fun _ _ _ h => h) hS (MR.free rfl) (fun wq hw => by simp [execOp, MR.ev, MR.size, hsz, e1, f1, go_sem]) ?_
    refine MR.takeH (i := 1) (some 4) (.slice (some ⟨g, 0, none⟩) xs.length xs.length) rfl rfl (by kernel_rfl) (by kernel_rfl) (by kernel_rfl) (fun _ _ _ h => h) hS (MR.free rfl) (fun wq hw => by simp [execOp, MR.ev, MR.size, hsz, e1, f1, (hw.cell (p := ⟨w.heap.size, 0, none⟩) hq).trans c0, go_sem]) ?_
    refine MR.takeH (i := 2) (some 5) (.int .i64 (xs.length : Int)) rfl rfl (by kernel_rfl) (by kernel_rfl) (by kernel_rfl) (fun _ _ _ h => h) hS (MR.free rfl) (fun wq hw => by simp [execOp, MR.ev, MR.size, hsz, e1, f1, go_sem]) ?_
    refine MR.takeH (i := 3) (some 6) (.bool true) rfl rfl (by kernel_rfl) (by kernel_rfl) (by kernel_rfl) (fun _ _ _ h => h) hS (MR.free rfl) (fun wq hw => by simp [execOp, MR.ev, MR.size, hsz, e1, f1, hn0, go_sem]) ?_
    refine MR.takeH (i := 4) (some 7) (.bool true) rfl rfl (by kernel_rfl) (by kernel_rfl) (by kernel_rfl) (fun _ _ _ h => h) hS (MR.free rfl) (fun wq hw => by simp [execOp, MR.ev, MR.size, hsz, e1, f1, go_sem]) ?_
    refine MR.takeH (i := 5) (some 8) (.pointer (some ⟨w.heap.size, 1, none⟩)) rfl rfl (by kernel_rfl) (by kernel_rfl) (by kernel_rfl) (fun _ _ _ h => h) hS (MR.want (d := 7) rfl rfl (by simp [MR.size, hsz]) (by simp [MR.ev, MR.size, hsz, e1, f1])) (fun wq hw => by simp [execOp, MR.ev, MR.size, hsz, e1, f1, go_sem]) ?_
    refine MR.takeH (i := 6) (some 9) (.pointer (some ⟨w.heap.size, 1, none⟩)) rfl rfl (by kernel_rfl) (by kernel_rfl) (by kernel_rfl) (fun _ _ _ h => h) hS (MR.want (d := 7) rfl rfl (by simp [MR.size, hsz]) (by simp [MR.ev, MR.size, hsz, e1, f1])) (fun wq hw => by simp [execOp, MR.ev, MR.size, hsz, e1, f1, go_sem]) ?_
    refine MR.takeH (i := 7) (some 10) (.agg (MA.tF (PL.sh xs xs.length).th).toArray) rfl rfl (by kernel_rfl) (by kernel_rfl) (by kernel_rfl) (fun _ _ _ h => h) hS (MR.want (d := 7) rfl rfl (by simp [MR.size, hsz]) (by simp [MR.ev, MR.size, hsz, e1, f1])) (fun w hw => MA.ex_load rfl (by simp [MR.ev, MR.size, hsz, e1, f1]) (MA.range_below hTr hw hq) Try.underlying69 rfl Try.sizeMarks (MA.tF_len _)) ?_
    refine MR.takeH (i := 8) (some 11) (.agg (stF (.slice (some ⟨g, 0, none⟩) xs.length xs.length) (PL.sh xs xs.length)).toArray) rfl rfl (by kernel_rfl) (by kernel_rfl) (by kernel_rfl) (fun _ _ _ h => h) hS (MR.want (d := 7) rfl rfl (by simp [MR.size, hsz]) (by simp [MR.ev, MR.size, hsz, e1, f1])) (fun w hw => MA.ex_load rfl (by simp [MR.ev, MR.size, hsz, e1, f1]) (MA.range_below hPr hw hq) Try.underlying75 rfl Try.sizeStack (st_len _ _ _ _)) ?_
    refine MR.callH (i := 9) (some 12) (46) (#[.agg (stF (.slice (some ⟨g, 0, none⟩) xs.length xs.length) (PL.sh xs xs.length)).toArray]) (by kernel_rfl) rfl rfl (MR.want (d := 7) rfl rfl (by simp [MR.size, hsz]) (by simp [MR.ev, MR.size, hsz, e1, f1])) (by simp [execOp, MR.ev, MR.size, hsz, e1, f1, go_sem]) ?_
    refine Calls.mono (TO.out _ (hrow.below hS)) ?_
    rintro e w5 ⟨rfl, hb5⟩
    have hS5 : Below W.heap.size W w5 := hS.trans (hb5.mono hS.size)
    refine ⟨_, rfl, hS5, ?_⟩
    refine MR.callH (i := 10) (some 13) (66) (#[.int .i64 (PL.total xs : Int)]) (by kernel_rfl) rfl rfl (MR.want (d := 7) rfl rfl (by simp [MR.size, hsz]) (by simp [MR.ev, MR.size, hsz, e1, f1])) (by simp [execOp, MR.ev, MR.size, hsz, e1, f1, go_sem]) ?_
    refine Calls.mono (FM.out _) ?_
    rintro e w6 ⟨rfl, hb6⟩
    have hS6 : Below W.heap.size W w6 := hS5.trans (hb6.mono hS5.size)
    refine ⟨_, rfl, hS6, ?_⟩
    refine MR.takeH (i := 11) (some 14) (.bool R) rfl rfl (by kernel_rfl) (by kernel_rfl) (by kernel_rfl) (fun _ _ _ h => h) hS6 (MR.want (d := 7) rfl rfl (by simp [MR.size, hsz]) (by simp [MR.ev, MR.size, hsz, e1, f1])) (fun wq hw => by simp [execOp, MR.ev, MR.size, hsz, e1, f1, hE, go_sem]) ?_
    refine MR.takeH (i := 12) (some 15) (.bool R) rfl rfl (by kernel_rfl) (by kernel_rfl) (by kernel_rfl) (fun _ _ _ h => h) hS6 (MR.free rfl) (fun wq hw => by simp [execOp, MR.ev, MR.size, hsz, e1, f1, go_sem]) ?_
    refine MR.takeH (i := 13) (some 2) (.bool R) rfl rfl (by kernel_rfl) (by kernel_rfl) (by kernel_rfl) (fun _ _ _ h => h) hS6 (MR.free rfl) (fun wq hw => by simp [execOp, MR.ev, MR.size, hsz, e1, f1, go_sem]) ?_
    refine wpAnyH_done (by kernel_rfl) ?_ _
    have hB6 : Below w.heap.size w w6 := HH.out.2.1.trans (hS6.mono HH.out.2.1.size)
    rw [HA.out]
    clear hS hS5 hS6 hb5 hb6 HA e1 f1 hsz c0 HH TO FM hE hTr hPr hrow
    simp only [Act.put, List.setIfInBounds_toArray, List.set_cons_succ, List.set_cons_zero]
    go_wp2
    go_ret
    exact ⟨retBb hok2.out, hB6⟩
end Go.Proofs.Ytdgflhgbcfehhaa

/- FnPieces, plain: the pieces that CutBundle makes, cut once more or not, put together in whatever order. -/
namespace Go.Proofs.Ytdgflhgbcfehhaa
namespace PP
open MP PL
theorem wh_of {b : Bd} {n : Int} (h : CB.ok b n = true) : Wh b := by
  obtain ⟨h1, h2, h3, _, _⟩ := CB.ok_is h
  exact ⟨h1, h2, by omega⟩
theorem res_at {b : Bd} {n : Int} (h : CB.ok b n = true) : ∃ m : Nat, 1 ≤ m ∧ (CB.res b n).length = CB.num b m ∧ ∀ j, j < CB.num b m → at_ (CB.res b n) j = CB.pc b m j := by
  obtain ⟨h1, h2, h3, h4, h5⟩ := CB.ok_is h
  obtain ⟨m, rfl⟩ := Int.eq_ofNat_of_zero_le (show (0 : Int) ≤ n by omega)
  refine ⟨m, by omega, by rw [CB.res_yes h, CB.ls_len], fun j hj => ?_⟩
  rw [CB.res_yes h]
  unfold CB.ls
  rw [at_eq _ _ (by simpa using hj)]
  simp
theorem pc_is (b : Bd) (m j : Nat) : CB.pc b m j = mk b (j * m) (min (j * m + m) b.py.size) := rfl
theorem num_pos {b : Bd} {m j : Nat} (hm : 1 ≤ m) (h : j < CB.num b m) : j * m < b.py.size := by
  apply Classical.byContradiction
  intro hc
  have := CB.num_ge (b := b) (m := m) (k := j) hm hc
  omega
theorem res_is {b : Bd} {n : Int} (h : CB.ok b n = true) : 0 < (CB.res b n).length ∧ (CB.res b n).length ≤ 60 ∧ (∀ j, j < (CB.res b n).length → Is b (at_ (CB.res b n) j)) ∧ ∀ p, p < b.py.size → ∃ j, j < (CB.res b n).length ∧ inn (at_ (CB.res b n) j) p = true := by
  obtain ⟨m, hm, hl, hat⟩ := res_at h
  have W := wh_of h
  have hn := W.n60
  have h1 := W.n1
  have hp0 : 0 < CB.num b m := CB.num_lt hm (by omega)
  have hp1 : CB.num b m ≤ b.py.size := CB.num_le hm
  rw [hl]
  refine ⟨hp0, by omega, fun j hj => ?_, fun p hp => ?_⟩
  · have := num_pos hm hj
    rw [hat j hj, pc_is]
    exact ⟨_, _, by omega, by omega, rfl⟩
  · have hdm := Nat.div_add_mod p m
    have hmod := Nat.mod_lt p hm
    have hmul : m * (p / m) = p / m * m := Nat.mul_comm _ _
    have hj : p / m < CB.num b m := CB.num_lt hm (by omega)
    refine ⟨p / m, hj, ?_⟩
    rw [hat _ hj, pc_is]
    exact (inn_mk (by omega) (by omega)).2 ⟨by omega, by omega⟩
theorem part_is {b : Bd} {i e x y : Nat} (he : e ≤ b.py.size) (hy : y ≤ e - i) : partB (mk b i e) x y = mk b (i + x) (i + y) := by
  unfold partB mk
  have h1 : ((i : Int) + (x : Int)) = ((i + x : Nat) : Int) := by omega
  have h2 : (b.py.extract i e).extract x y = b.py.extract (i + x) (i + y) := by
    apply ByteArray.ext
    apply Array.ext
    · show ((b.py.extract i e).extract x y).size = (b.py.extract (i + x) (i + y)).size
      simp only [ByteArray.size_extract]; omega
    · intro k h1 h2
      show ((b.py.extract i e).extract x y)[k]'h1 = (b.py.extract (i + x) (i + y))[k]'h2
      simp only [ByteArray.getElem_extract]
      congr 1; omega
  rw [h1, h2]
/-- A piece cut in two. -/
theorem cut_two {b x : Bd} (W : Wh b) (hx : Is b x) {y : Nat} (h1 : 1 ≤ y) (h2 : y < x.py.size) : cutOk x (y : Int) = true ∧ Is b (cutA x (y : Int)) ∧ Is b (cutB x (y : Int)) ∧ ∀ p, inn x p = true → inn (cutA x (y : Int)) p = true ∨ inn (cutB x (y : Int)) p = true := by
  obtain ⟨i, e, hi, he, rfl⟩ := hx
  have hs := size_mk (b := b) (i := i) he
  have hok : cutOk (mk b i e) (y : Int) = true := by
    simp only [cutOk, Bool.and_eq_true, decide_eq_true_eq]
    exact ⟨⟨pg_mk W hi he, by omega⟩, by omega⟩
  obtain ⟨hA, hB⟩ := cut_yes hok
  rw [part_is he (by omega)] at hA
  rw [hs, part_is he (by omega)] at hB
  rw [hA, hB, show i + 0 = i from rfl, show i + (e - i) = e from by omega]
  refine ⟨hok, ⟨_, _, by omega, by omega, rfl⟩, ⟨_, _, by omega, by omega, rfl⟩, fun p hp => ?_⟩
  have := (inn_mk hi he).1 hp
  by_cases hc : p < i + y
  · exact .inl ((inn_mk (by omega) (by omega)).2 ⟨by omega, by omega⟩)
  · exact .inr ((inn_mk (by omega) (by omega)).2 ⟨by omega, by omega⟩)
/-- What a cut piece's halves are. -/
theorem cut_join {c : Bd} {x : Int} (h : cutOk c x = true) : (cutA c x).py ++ (cutB c x).py = c.py ∧ B1.good (cutA c x) = true ∧ B1.good (cutB c x) = true := by
  have h' := h
  simp only [cutOk, Bool.and_eq_true, decide_eq_true_eq] at h'
  obtain ⟨⟨hp, h1⟩, h2⟩ := h'
  obtain ⟨n, rfl⟩ := Int.eq_ofNat_of_zero_le (show (0 : Int) ≤ x by omega)
  obtain ⟨hA, hB⟩ := cut_yes h
  have hpi := pg_is hp
  have hpp := hpi.1
  have hh : B1.head c = true := by
    unfold B1.good at hpp
    simp only [Bool.and_eq_true] at hpp
    exact hpp.1.1
  have hg : ∀ a e : Nat, a < e → e ≤ c.py.size → B1.good (partB c a e) = true := fun a e ha he => by
    have hs : (c.py.extract a e).size = e - a := by rw [ByteArray.size_extract]; omega
    have hs' : (partB c a e).py.size = e - a := hs
    have ht : (partB c a e).tl = c.tl := rfl
    have ho : (partB c a e).of = c.of + (a : Int) := rfl
    unfold B1.good B1.placed
    rw [show B1.head (partB c a e) = B1.head c from rfl, hh, hs', ht, ho, if_neg (by omega)]
    simp only [Bool.and_eq_true, decide_eq_true_eq, Bool.true_and]
    exact ⟨by omega, ⟨B1.inB_yes (by omega), by omega⟩, B1.inB_yes (by omega)⟩
  rw [hA, hB]
  refine ⟨?_, hg _ _ (by omega) (by omega), hg _ _ (by omega) (by omega)⟩
  show c.py.extract 0 n ++ c.py.extract n c.py.size = c.py
  rw [← ByteArray.extract_eq_extract_append_extract _ (by omega) (by omega)]
  simp
/-- What has been put in so far, beginning with the s-th piece. -/
def Vis (L : List Bd) (s k : Nat) (xs : List Bd) : Prop := ∀ i, i < k → ∀ p, inn (at_ L ((i + s) % L.length)) p = true → Cov xs p
theorem Vis.zero (L : List Bd) (s : Nat) (xs : List Bd) : Vis L s 0 xs := fun i hi => absurd hi (by omega)
theorem Vis.succ {L : List Bd} {s k : Nat} {xs ys : List Bd} (h : Vis L s k xs) (hm : ∀ y, y ∈ xs → y ∈ ys) (hp : ∀ p, inn (at_ L ((k + s) % L.length)) p = true → Cov ys p) : Vis L s (k + 1) ys := fun i hi p hpi => by
  by_cases e : i = k
  · subst e; exact hp p hpi
  · exact (h i (by omega) p hpi).more hm
/-- All have been put in: the bundle comes back. -/
theorem Vis.all {b : Bd} {n : Int} (h : CB.ok b n = true) {s : Nat} {xs : List Bd} (P : Pile b xs) (hv : Vis (CB.res b n) s (CB.res b n).length xs) : wholeOk xs = true ∧ wholeB xs = b ∧ missN xs = 0 := by
  obtain ⟨h0, _, _, h3⟩ := res_is h
  refine whole_is (wh_of h) P fun p hp => ?_
  obtain ⟨j, hj, hin⟩ := h3 p hp
  generalize CB.res b n = L at *
  obtain ⟨i, hi, e⟩ : ∃ i, i < L.length ∧ (i + s) % L.length = j := by
    refine ⟨(j + (L.length - s % L.length)) % L.length, Nat.mod_lt _ h0, ?_⟩
    have hs := Nat.mod_lt s h0
    rw [Nat.mod_add_mod]
    have hd := Nat.div_add_mod s L.length
    have : j + (L.length - s % L.length) + s = j + L.length * (s / L.length + 1) := by rw [Nat.mul_add]; omega
    rw [this, Nat.add_mul_mod_self_left, Nat.mod_eq_of_lt hj]
  exact hv i hi p (by rw [e]; exact hin)
/-- A round: the piece itself is added. -/
theorem round_one {b : Bd} (W : Wh b) {L xs : List Bd} {s k : Nat} {x : Bd} (P : Pile b xs) (hv : Vis L s k xs) (hx : Is b x) (he : ∀ p, inn (at_ L ((k + s) % L.length)) p = true → inn x p = true ∨ Cov xs p) :
    ((PD.ans xs x).2 = true ∧ Pile b (PD.ans xs x).1 ∧ Vis L s (k + 1) (PD.ans xs x).1 ∧ PD.ans (PD.ans xs x).1 x = ((PD.ans xs x).1, true)) ∨ ((PD.ans xs x).2 = false ∧ xs.length = 60) := by
  rcases ans_is W P hx with ⟨h1, h2, h3, h4⟩ | h
  · refine .inl ⟨h1, h2, hv.succ h4 fun p hp => ?_, ans_again W h2 hx h3⟩
    rcases he p hp with h | h
    · exact Cov.of_same h3 h
    · exact h.more h4
  · exact .inr h
theorem Vis.more {L xs ys : List Bd} {s k : Nat} (h : Vis L s k xs) (hm : ∀ y, y ∈ xs → y ∈ ys) : Vis L s k ys := fun i hi p hp => (h i hi p hp).more hm
/-- One half is added ahead of the other. -/
theorem round_half {b : Bd} (W : Wh b) {L xs : List Bd} {s k : Nat} {x : Bd} (P : Pile b xs) (hv : Vis L s k xs) (hx : Is b x) :
    ((PD.ans xs x).2 = true ∧ Pile b (PD.ans xs x).1 ∧ Vis L s k (PD.ans xs x).1 ∧ ∀ p, inn x p = true → Cov (PD.ans xs x).1 p) ∨ ((PD.ans xs x).2 = false ∧ xs.length = 60) := by
  rcases ans_is W P hx with ⟨h1, h2, h3, h4⟩ | h
  · exact .inl ⟨h1, h2, hv.more h4, fun p hp => Cov.of_same h3 hp⟩
  · exact .inr h
theorem Is.sz {b x : Bd} (W : Wh b) (h : Is b x) : 1 ≤ x.py.size ∧ x.py.size ≤ 60 := by
  obtain ⟨i, e, hi, he, rfl⟩ := h
  have := W.n60
  rw [size_mk he]; omega
theorem Pile.sz {b : Bd} (W : Wh b) {xs : List Bd} (P : Pile b xs) : ∀ k, k < xs.length → (at_ xs k).py.size ≤ 1048576 := fun k hk => by
  have := (P.is _ (at_mem hk)).sz W
  omega
end PP
end Go.Proofs.Ytdgflhgbcfehhaa

/- What FnCovers asks of a pile and a piece: plain facts. -/
namespace Go.Proofs.Ytdgflhgbcfehhaa
namespace PY
open MP PL
theorem covL_mem {xs : List Bd} (h : good xs = true) {k : Int} : k ∈ covL xs ↔ ∃ p : Nat, k = (p : Int) ∧ PP.Cov xs p := by
  obtain ⟨⟨h1, h2, h3, h4⟩, hl⟩ := good_inv h
  rw [covL, if_pos h, plF, List.mem_map]
  constructor
  · rintro ⟨p, hp, rfl⟩
    obtain ⟨j, hj, hi⟩ := (h1 p).1 (List.mem_filter.1 hp).2
    exact ⟨p, rfl, _, PP.at_mem hj, hi⟩
  · rintro ⟨p, rfl, y, hy, hi⟩
    obtain ⟨j, hj, rfl⟩ := PP.mem_at hy
    exact ⟨p, List.mem_filter.2 ⟨List.mem_range.2 (inn_lt (h4 j hj) hi).2, (h1 p).2 ⟨j, hj, hi⟩⟩, rfl⟩
/-- A piece has been added. -/
structure FC (xs ys : List Bd) (b : Bd) : Prop where
  gx : good xs = true
  gy : good ys = true
  of0 : 0 ≤ b.of
  ofn : b.of + b.py.size ≤ 60
  up : ∀ k, k ∈ covL xs → EG.hasB (covL ys) k = true
  new : ∀ i : Nat, i < b.py.size → EG.hasB (covL ys) (b.of + (i : Int)) = true
  only : ∀ k, k ∈ covL ys → EG.hasB (covL xs) k = true ∨ (b.of ≤ k ∧ k < b.of + b.py.size)
theorem fc_of {xs : List Bd} {b : Bd} (h : (PD.ans xs b).2 = true) : FC xs (PD.ans xs b).1 b := by
  have key : ∀ ys, good xs = true → pg b = true → good ys = true → (∀ y, y ∈ xs → y ∈ ys) → (∀ p, inn b p = true → PP.Cov ys p) → (∀ y, y ∈ ys → y = b ∨ y ∈ xs) → FC xs ys b := by
    intro ys gx gb gy hm hb ho
    have hpg := pg_is gb
    refine ⟨gx, gy, hpg.2.2.2.1, by omega, fun k hk => ?_, fun i hi => ?_, fun k hk => ?_⟩
    · rw [EG.hasB, decide_eq_true_eq, covL_mem gy]
      obtain ⟨p, rfl, hc⟩ := (covL_mem gx).1 hk
      exact ⟨p, rfl, hc.more hm⟩
    · rw [EG.hasB, decide_eq_true_eq, covL_mem gy]
      obtain ⟨o, ho'⟩ := Int.eq_ofNat_of_zero_le hpg.2.2.2.1
      exact ⟨o + i, by rw [ho']; simp, hb _ (by rw [inn_iff, ho']; simp; omega)⟩
    · obtain ⟨p, rfl, y, hy, hi⟩ := (covL_mem gy).1 hk
      rcases ho y hy with rfl | hx
      · exact .inr (inn_iff.1 hi)
      · refine .inl ?_
        rw [EG.hasB, decide_eq_true_eq, covL_mem gx]
        exact ⟨p, rfl, y, hx, hi⟩
  unfold PD.ans at h ⊢
  split
  · rename_i h0; rw [if_pos h0] at h; cases h
  · rename_i h0
    rw [if_neg h0] at h
    simp at h0
    split
    · rename_i h1
      refine key xs h0.1 h0.2 h0.1 (fun y hy => hy) (fun p hp => ?_) (fun y hy => .inr hy)
      obtain ⟨y, hy, hs⟩ := List.any_eq_true.1 h1
      exact PP.Cov.of_same ⟨y, hy, hs⟩ hp
    · rename_i h1; rw [if_neg h1] at h
      split
      · rename_i h2
        exact key _ h0.1 h0.2 h2 (fun y hy => (PP.put_mem _).2 (.inr hy)) (fun p hp => ⟨b, (PP.put_mem _).2 (.inl rfl), hp⟩) (fun y hy => (PP.put_mem _).1 hy)
      · rename_i h2; rw [if_neg h2] at h; cases h
theorem ext_gb {s t : ByteArray} (hs : s.size = t.size) (h : ∀ k, k < s.size → M3.gb s k = M3.gb t k) : s = t := by
  apply ByteArray.ext
  apply Array.ext
  · exact hs
  · intro p h1 h2
    have := h p h1
    rw [← M3.gb_eq s p h1, ← M3.gb_eq t p h2] at this
    exact UInt8.toNat_inj.1 this
theorem text_size (n : Nat) (g : Nat → Nat) : (textN n g).size = n := by
  show ((List.range n).map _).toArray.size = n
  simp
theorem text_gb {n : Nat} {g : Nat → Nat} {p : Nat} (hp : p < n) (hg : g p < 256) : M3.gb (textN n g) p = g p := by
  rw [← M3.gb_eq _ p (by rw [text_size]; exact hp)]
  have e : ∀ h : p < (textN n g).data.size, (textN n g).data[p]'h = UInt8.ofNat (g p) := fun h => by simp [textN]
  show ((textN n g).data[p]'_).toNat = _
  rw [e]
  show (UInt8.ofNat (g p)).toNat = _
  rw [UInt8.toNat_ofNat']
  omega
/-- A pile that is whole. -/
structure FW (xs : List Bd) : Prop where
  n0 : missN xs = 0
  gw : B1.good (wholeB xs) = true
  pos : 0 < xs.length
  at0 : ∀ j, j < xs.length → 0 ≤ (at_ xs j).of ∧ (at_ xs j).of + (at_ xs j).py.size ≤ (wholeB xs).py.size ∧ (wholeB xs).py.extract (at_ xs j).of.toNat ((at_ xs j).of.toNat + (at_ xs j).py.size) = (at_ xs j).py
theorem min_in (xs : List Bd) (h : ∀ j, j < xs.length → 0 ≤ (at_ xs j).hp ∧ (at_ xs j).hp ≤ 30) (h0 : 0 < xs.length) : ∀ k, k ≤ xs.length → 0 ≤ minH xs k ∧ minH xs k ≤ 30
  | 0, _ => h 0 h0
  | k + 1, hk => by
    unfold minH
    split
    · exact h k (by omega)
    · exact min_in xs h h0 k (by omega)
theorem fw_of {xs : List Bd} (hok : wholeOk xs = true) : FW xs := by
  have hok' := hok
  simp only [wholeOk, Bool.and_eq_true, decide_eq_true_eq] at hok'
  obtain ⟨⟨hg, hne⟩, hm⟩ := hok'
  have h0 : 0 < xs.length := List.length_pos_iff.2 hne
  obtain ⟨⟨h1, h2, h3, h4⟩, hl⟩ := good_inv hg
  have hm0 : 0 ≤ missN xs := by
    rw [missN_yes hg, ← covL_spec hg]
    have hl := List.length_filter_le (PL.sh xs xs.length).th (List.range (PL.total xs))
    have e : (plF (PL.sh xs xs.length).th (PL.total xs)).length = ((List.range (PL.total xs)).filter (PL.sh xs xs.length).th).length := by simp [plF]
    rw [e]
    simp only [List.length_range] at hl
    omega
  have hpy : (wholeB xs).py = textN (PL.total xs) (PL.sh xs xs.length).by_ := by rw [whole_yes hok]
  have htl : ∀ j, j < xs.length → (at_ xs j).tl = (PL.total xs : Int) := fun j hj => by
    have e := (one_iff.1 (h3 j hj)).2.2.2.2.2.2
    have := (pg_is (h4 0 h0)).2.1
    rw [e, PL.total, if_neg hne]; omega
  refine ⟨by omega, ?_, h0, fun j hj => ?_⟩
  · have q0 := pg_is (h4 0 h0)
    have ht := total_le hg
    have hgd := q0.1
    simp only [B1.good, B1.head, Bool.and_eq_true, decide_eq_true_eq] at hgd
    obtain ⟨⟨⟨⟨⟨⟨⟨a1, a2⟩, a3⟩, a4⟩, a5⟩, a6⟩, _⟩, _⟩ := hgd
    have hh := min_in xs (fun j hj => by
      have hgd := (pg_is (h4 j hj)).1
      simp only [B1.good, B1.head, Bool.and_eq_true, decide_eq_true_eq] at hgd
      exact B1.inB_is hgd.1.1.2) h0 xs.length (Nat.le_refl _)
    rw [whole_yes hok]
    simp only [B1.good, B1.head, B1.placed, if_true, Bool.and_eq_true, decide_eq_true_eq, text_size]
    exact ⟨⟨⟨⟨⟨⟨⟨a1, a2⟩, a3⟩, a4⟩, a5⟩, B1.inB_yes hh⟩, ht⟩, trivial⟩
  · have q := pg_is (h4 j hj)
    have ht := htl j hj
    rw [hpy, text_size]
    refine ⟨q.2.2.2.1, by omega, ?_⟩
    obtain ⟨o, ho⟩ := Int.eq_ofNat_of_zero_le q.2.2.2.1
    have hb : o + (at_ xs j).py.size ≤ PL.total xs := by omega
    rw [ho]
    show (textN _ _).extract o (o + (at_ xs j).py.size) = _
    have hs := PP.size_ext (textN (PL.total xs) (PL.sh xs xs.length).by_) o (o + (at_ xs j).py.size) (by rw [text_size]; exact hb)
    refine ext_gb (by rw [hs]; omega) (fun k hk => ?_)
    rw [hs] at hk
    rw [PP.gb_ext _ _ _ _ (by rw [text_size]; exact hb) hk]
    have hin : inn (at_ xs j) (o + k) = true := by rw [inn_iff, ho]; simp; omega
    rw [text_gb (by omega) (by_lt _ _ _), h2 j hj _ hin, val, ho]
    congr 1
    simp
    omega
theorem whole_empty {xs : List Bd} (h : wholeOk xs = false) : (wholeB xs).py.size = 0 := by rw [whole_no h]; rfl
end PY
end Go.Proofs.Ytdgflhgbcfehhaa

/- The program's whole and WholeOf, at any pile. -/
namespace Go.Proofs.Ytdgflhgbcfehhaa
open Go.RowKit
set_option linter.unusedSimpArgs false in
theorem run_sliceHi {P : Program} {w : World} {t e : TypeId} {m o b f : Nat} (hu : P.underlying t = some (.array m e)) (hsz : ∀ w, (sizeOf e).run P w = .ok 1 w) (ho : o ≤ m) (hm : 0 < m) :
    (Instr.sliceAt t (.pointer (some ⟨b, f, none⟩)) none (some (.int .i64 (o : Int))) none).run P w = .ok (.slice (some ⟨b, f, none⟩) o m) w := by
  have h1 : (0 : Int) ≤ (o : Int) := by omega
  have h2 : (o : Int) ≤ (m : Int) := by omega
  have h3 : ¬ (m = 0) := by omega
  simp [Instr.sliceAt, run_underlying hu, Instr.sureAddr, Instr.sliceBounds, go_sem, h1, h2, hsz, Addr.add_mid]
/-- What the memory of the call holds. -/
structure WpIn (w W : World) (L : List Value) : Prop where
  below : Below w.heap.size w W
  arg : MA.Rg W w.heap.size 0 L
  res : MA.Rg W (w.heap.size + 1) 0 (Bd.cs B1.zero)
theorem WpIn.kept {w W W' : World} {L : List Value} (h : WpIn w W L) (hb : Below W.heap.size W W') : WpIn w W' L :=
  ⟨h.below.trans (hb.mono h.below.size), h.arg.below hb h.arg.lt, h.res.below hb h.res.lt⟩
theorem WpIn.set {w W : World} {L : List Value} (h : WpIn w W L) (q j : Nat) (u : Value) (hq : w.heap.size + 1 < q) : WpIn w (W.setCell ⟨q, j, none⟩ u) L :=
  ⟨h.below.setCell (p := ⟨q, j, none⟩) (by simp; omega) u, h.arg.other (k' := q) (o' := j) (vs := [u]) (.inl (by omega)), h.res.other (k' := q) (o' := j) (vs := [u]) (.inl (by omega))⟩
set_option linter.unusedSimpArgs false in
set_option maxHeartbeats 1600000 in
set_option maxRecDepth 100000 in
theorem whole_any (g : Nat) (xs : List Bd) (w : World) (hn : xs.length ≤ 1048576) (hg : PL.good xs = true) (hok : wholeOk xs = true) (hin : MP.BsAt w (some ⟨g, 0, none⟩) xs) :
    Calls Try.prog 45 #[.agg (stF (.slice (some ⟨g, 0, none⟩) xs.length xs.length) (PL.sh xs xs.length)).toArray] w fun e w' => e = .returned (.agg (wholeB xs).cs.toArray) ∧ Below w.heap.size w w' := by
  have h0 : xs ≠ [] := by intro h; subst h; simp [wholeOk] at hok
  have hn0 : 0 < xs.length := by cases xs with | nil => exact absurd rfl h0 | cons x l => simp
  have htl : (MP.at_ xs 0).tl = (PL.total xs : Int) := by
    have p0 := PL.pg_is ((PL.good_inv hg).1.2.2.2 0 hn0)
    unfold PL.total; rw [if_neg h0]; omega
  have hT := PL.total_le hg
  have HW0 : Hid (WpIn w ((w.alloc (.cells (stF (.slice (some ⟨g, 0, none⟩) xs.length xs.length) (PL.sh xs xs.length)).toArray 75)).alloc (.cells (Bd.cs B1.zero).toArray 62)) (stF (.slice (some ⟨g, 0, none⟩) xs.length xs.length) (PL.sh xs xs.length))) := ⟨((Below.refl _ w).alloc (Nat.le_refl _) _).alloc (by simp) _, (MA.Rg.new w (stF (.slice (some ⟨g, 0, none⟩) xs.length xs.length) (PL.sh xs xs.length)) 75).alloc _, MA.Rg.new' _ (Bd.cs B1.zero) 62 (w.heap.size + 1) (by simp)⟩
  have hrow := hin.below HW0.out.below
  obtain ⟨b, off, hab, hbl, rg⟩ := MA.row_range hrow hn0
  cases hab
  rw [Nat.zero_mul, Nat.add_zero] at rg
  obtain ⟨x0, hx0⟩ : ∃ x0, MP.at_ xs 0 = x0 := ⟨_, rfl⟩
  rw [hx0] at rg htl
  have HX0 : Hid (MP.at_ xs 0 = x0) := hx0
  have hWB : Hid (wholeB xs = ⟨x0.fr, x0.to, x0.gr, x0.md, x0.no, x0.lf, minH xs xs.length, 0, 0, textN (PL.total xs) (PL.sh xs xs.length).by_⟩) := by show _ = _; rw [whole_yes hok, HX0.out]
  have HTX : Hid _ := htl
  have HB60 : Hid (∀ p, (PL.sh xs xs.length).by_ p < 256) := by_lt xs xs.length
  have hc0 : World.cell? ((w.alloc (.cells (stF (.slice (some ⟨g, 0, none⟩) xs.length xs.length) (PL.sh xs xs.length)).toArray 75)).alloc (.cells (Bd.cs B1.zero).toArray 62)) ⟨w.heap.size, 0, none⟩ = some (.slice (some ⟨g, 0, none⟩) xs.length xs.length) := (st_parts HW0.out.arg).2.2.cell (j := 0) rfl
  have HC0 : Hid _ := hc0
  have RG0 : Hid _ := rg
  clear hx0 rg hbl hrow hok h0 htl hg hc0
  generalize PL.total xs = n at *
  go_enter Try.func45, Try.ntmps45
  go_wp2_with (first
    | (refine MA.alloc_z rfl 62 rfl _ _ Try.infoParcel ?_; simp only [MA.sz_alloc]; generalize World.alloc (World.alloc _ _) _ = W1 at *; have c0 := HC0.out; have hr1 : w.heap.size + 1 < W1.heap.size := HW0.out.res.lt; have RG : Hid _ := RG0.out; have HX : Hid _ := new_bw W1 x0 62; have HRN : Hid _ := MA.Rg.new W1 (Bd.cs B1.zero) 62; clear HC0 RG0)
    | (refine MA.load_r rfl 62 _ rfl rfl (cs := x0.cs) ?_ Try.underlying62 rfl Try.sizeParcel rfl ?_; exact RG.out)
    | (refine MA.alloc_z rfl 62 rfl _ _ Try.infoParcel ?_; simp only [MA.sz_alloc])
    | (refine MA.store_m rfl 62 _ _ rfl rfl rfl (vs := x0.cs) (cs := Bd.cs B1.zero) ?_ Try.sizeParcel rfl rfl (MA.cs_one _) ?_; exact HRN.out; clear HRN RG c0; generalize World.setCells _ _ _ _ = W3 at *; replace HW0 : Hid _ := HW0.out.kept HX.out.1; have c0 : W3.cell? ⟨w.heap.size, 0, none⟩ = some (.slice (some ⟨g, 0, none⟩) xs.length xs.length) := (st_parts HW0.out.arg).2.2.cell (j := 0) rfl))
  have hq8 : Hid (MA.Rg W3 W1.heap.size 0 (withH x0 (minH xs 0)).cs) := by
    have e : (withH x0 (minH xs 0)).cs = x0.cs := by simp [withH, minH, HX0.out, Bd.cs]
    show MA.Rg _ _ _ _
    rw [e]; exact HX.out.2
  clear HX c0
  generalize W1.heap.size = q8 at *
  go_loopw [13] (fun iv wr => ∃ k : Nat, iv = .int .i64 k ∧ k ≤ xs.length ∧ WpIn w wr (stF (.slice (some ⟨g, 0, none⟩) xs.length xs.length) (PL.sh xs xs.length)) ∧ MA.Rg wr q8 0 (withH x0 (minH xs k)).cs) (fun iv _ => (xs.length - intOf iv).toNat)
  case atStart => exact ⟨0, rfl, by omega, HW0.out, hq8.out⟩
  case round =>
    clear HW0 hq8
    obtain ⟨k, rfl, hk, hI, h8⟩ := hrel
    by_cases hl : k < xs.length
    · obtain ⟨b', off', hab, hbl, rg⟩ := MA.row_range (hin.below hI.below) hl
      cases hab
      obtain ⟨x, hx⟩ : ∃ x, MP.at_ xs k = x := ⟨_, rfl⟩
      rw [hx, Nat.zero_add] at rg
      have HXK : Hid (minH xs (k + 1) = if x.hp < minH xs k then x.hp else minH xs k) := by show _ = _; rw [← hx]; rfl
      have RG : Hid _ := rg
      have HX : Hid _ := new_bw wr x 62
      have HRN : Hid _ := MA.Rg.new wr (Bd.cs B1.zero) 62
      have HI : Hid _ := hI
      have H8 : Hid _ := h8
      have hk0 : (0 : Int) ≤ (k : Int) := by omega
      have hkn : (k : Int) < (xs.length : Int) := by omega
      clear hx rg hbl hI h8
      by_cases hlt : x.hp < minH xs k
      · have e : Hid (minH xs (k + 1) = x.hp) := by show _ = _; rw [HXK.out, if_pos hlt]
        clear HXK
        generalize minH xs k = mk at *
        go_wp2_with (first
          | (refine MA.load_r rfl 62 _ rfl rfl (cs := x.cs) ?_ Try.underlying62 rfl Try.sizeParcel rfl ?_; exact RG.out)
          | (refine MA.alloc_z rfl 62 rfl _ _ Try.infoParcel ?_; simp only [MA.sz_alloc])
          | (refine MA.store_m rfl 62 _ _ rfl rfl rfl (vs := x.cs) (cs := Bd.cs B1.zero) ?_ Try.sizeParcel rfl rfl (MA.cs_one _) ?_; exact HRN.out; clear HRN RG; generalize World.setCells _ _ _ _ = W5 at *; have hI5 := HI.out.kept HX.out.1; have h85 := H8.out.below HX.out.1 H8.out.lt; have cx6 := cell6 HX.out.2; have c86 : W5.cell? ⟨q8, 6, none⟩ = some (.int .i64 mk) := cell6 h85; have f86 := free6 h85; have HI5 : Hid _ := hI5; have H85 : Hid _ := h85; clear hI5 h85 HI H8 HX))
        have h86 := H85.out.put1 (j := 6) (by simp [Bd.cs]) (.int .i64 x.hp)
        rw [Nat.zero_add] at h86
        have e6 : (withH x0 mk).cs.set 6 (.int .i64 x.hp) = (withH x0 x.hp).cs := by simp [withH, Bd.cs]
        rw [e6] at h86
        replace h86 : MA.Rg (W5.setCell ⟨q8, 6, none⟩ (.int .i64 x.hp)) q8 0 (withH x0 (minH xs (k + 1))).cs := by rw [e.out]; exact h86
        have hI6 := HI5.out.set q8 6 (.int .i64 x.hp) (by omega)
        go_roundw
        case rel => exact ⟨k + 1, by go_num, by omega, hI6, h86⟩
        case measure => simp [intOf]; omega
      · have e : Hid (minH xs (k + 1) = minH xs k) := by show _ = _; rw [HXK.out, if_neg hlt]
        clear HXK
        obtain ⟨mk, hmk⟩ : ∃ mk, minH xs k = mk := ⟨_, rfl⟩
        rw [hmk] at H8 hlt e
        clear hmk
        go_wp2_with (first
          | (refine MA.load_r rfl 62 _ rfl rfl (cs := x.cs) ?_ Try.underlying62 rfl Try.sizeParcel rfl ?_; exact RG.out)
          | (refine MA.alloc_z rfl 62 rfl _ _ Try.infoParcel ?_; simp only [MA.sz_alloc])
          | (refine MA.store_m rfl 62 _ _ rfl rfl rfl (vs := x.cs) (cs := Bd.cs B1.zero) ?_ Try.sizeParcel rfl rfl (MA.cs_one _) ?_; exact HRN.out; clear HRN RG; generalize World.setCells _ _ _ _ = W5 at *; have hI5 := HI.out.kept HX.out.1; have h85 := H8.out.below HX.out.1 H8.out.lt; have cx6 := cell6 HX.out.2; have c86 : W5.cell? ⟨q8, 6, none⟩ = some (.int .i64 mk) := cell6 h85; have f86 := free6 h85; have HI5 : Hid _ := hI5; have H85 : Hid _ := h85; clear hI5 h85 HI H8 HX))
        have h86 := H85.out.put1 (j := 6) (by simp [Bd.cs]) (.int .i64 mk)
        rw [Nat.zero_add] at h86
        have e6 : (withH x0 mk).cs.set 6 (.int .i64 mk) = (withH x0 mk).cs := by simp [withH, Bd.cs]
        rw [e6] at h86
        replace h86 : MA.Rg (W5.setCell ⟨q8, 6, none⟩ (.int .i64 mk)) q8 0 (withH x0 (minH xs (k + 1))).cs := by rw [e.out]; exact h86
        have hI6 := HI5.out.set q8 6 (.int .i64 mk) (by omega)
        go_roundw
        case rel => exact ⟨k + 1, by go_num, by omega, hI6, h86⟩
        case measure => simp [intOf]; omega
    · obtain rfl : k = xs.length := by omega
      have hya := (st_parts hI.arg).2.1
      have hcv : ∀ W : World, MA.Rg W w.heap.size 61 (MA.yF (PL.sh xs xs.length).by_) → (convert 22 9 (.slice (some ⟨w.heap.size, 61, none⟩) n 60)).run Try.prog W = .ok (.string (textN n (PL.sh xs xs.length).by_)) W := fun W hW => by
        have := run_convert_bytes_arg (P := Try.prog) W 22 5 Try.underlying22 Try.underlying5 w.heap.size 61 n 60 ((List.range n).map fun p => ((PL.sh xs xs.length).by_ p : Int)) (by simp) (fun i hi => by
          have h := hW.cell (MA.yF_get (PL.sh xs xs.length).by_ (p := i) (by omega))
          rw [h]; simp [hi]) 9 Try.underlying9
        rw [this]
        unfold textN
        congr 2
        apply ByteArray.ext
        show (((List.range n).map fun p => ((PL.sh xs xs.length).by_ p : Int)).map (fun n => UInt8.ofNat n.toNat)).toArray = _
        rw [List.map_map]
        rfl
      have hsl : ∀ W, (Instr.sliceAt 71 (.pointer (some ⟨w.heap.size, 61, none⟩)) none (some (.int .i64 (n : Int))) none).run Try.prog W = .ok (.slice (some ⟨w.heap.size, 61, none⟩) n 60) W := fun W => run_sliceHi Try.underlying71 (by go_simp) (by omega) (by omega)
      have hcv1 := hcv wr hya
      have HI : Hid _ := hI
      generalize minH xs xs.length = mk at *
      generalize textN n (PL.sh xs xs.length).by_ = tx at *
      have c7 : wr.cell? ⟨q8, 7, none⟩ = some (.int .i64 x0.of) := cell7w (x := withH x0 mk) h8
      have f7 := free7w h8
      have c8 : wr.cell? ⟨q8, 8, none⟩ = some (.int .i64 (n : Int)) := by rw [← HTX.out]; exact cell8w (x := withH x0 mk) h8
      have f8 := free8w h8
      have c9 : wr.cell? ⟨q8, 9, none⟩ = some (.string x0.py) := cell9w (x := withH x0 mk) h8
      have f9 := free9w h8
      have r9 := ((h8.put1 (j := 9) (by simp [Bd.cs]) (.string tx)).put1 (j := 7) (by simp [Bd.cs]) (.int .i64 0)).put1 (j := 8) (by simp [Bd.cs]) (.int .i64 0)
      have e9 : (((withH x0 mk).cs.set 9 (.string tx)).set 7 (.int .i64 0)).set 8 (.int .i64 0) = Bd.cs ⟨x0.fr, x0.to, x0.gr, x0.md, x0.no, x0.lf, mk, 0, 0, tx⟩ := by simp [withH, Bd.cs]
      rw [e9] at r9
      simp only [Nat.zero_add] at r9
      have HI9 : Hid _ := ((HI.out.set q8 9 (.string tx) (by omega)).set q8 7 (.int .i64 0) (by omega)).set q8 8 (.int .i64 0) (by omega)
      have HR9 : Hid _ := r9
      clear r9 e9 hI h8 HI hya hcv
      go_wp2_with (first
        | (refine MA.load_r rfl 62 _ rfl rfl (cs := Bd.cs ⟨x0.fr, x0.to, x0.gr, x0.md, x0.no, x0.lf, mk, 0, 0, tx⟩) ?_ Try.underlying62 rfl Try.sizeParcel rfl ?_; exact HR9.out.rng)
        | (refine MA.store_m rfl 62 _ _ rfl rfl rfl (vs := Bd.cs ⟨x0.fr, x0.to, x0.gr, x0.md, x0.no, x0.lf, mk, 0, 0, tx⟩) (cs := Bd.cs B1.zero) ?_ Try.sizeParcel rfl rfl (MA.cs_one _) ?_; exact HI9.out.res))
      exact bodyPost_ret (MA.ret_cell rfl rfl (MA.load_rg (HI9.out.res.put (vs := Bd.cs ⟨x0.fr, x0.to, x0.gr, x0.md, x0.no, x0.lf, mk, 0, 0, tx⟩) rfl) Try.underlying62 rfl Try.sizeParcel rfl)) rfl ⟨by rw [hWB.out], MA.below_cells (by omega) _ _ _ HI9.out.below⟩
theorem MA.load_gW {P : Program} {ops : Array Oper} {rest : List Oper} {op : Oper} {a : Act} {w : World} {Q : Exit → Act → World → Prop} (hw : Region.wanted op (yielded ops a.tmps) = true) (ty : TypeId) (x : Operand) (ho : op.op = .load ty x)
    {b o : Nat} (hx : a.eval x = .pointer (some ⟨b, o, none⟩)) {cs : List Value} {d : TypeDesc} (hc : w.rangeAt b o cs)
    (hu : P.underlying ty = some d) (hd : d.isRow = true) {n : Nat} (hi : (P.info? ty).map (·.size) = some n) (hn : cs.length = n)
    (h : wpList P ops Q rest (a.put op.dst (.agg cs.toArray)) w) : wpList P ops Q (op :: rest) a w :=
  wpList_step fun K hK => by rw [if_pos hw]; exact wp_load_mid ty x ho b o hx cs d hc hu hd (hn ▸ hi) (hK _ _ h)
set_option linter.unusedSimpArgs false in
set_option maxHeartbeats 800000 in
set_option maxRecDepth 100000 in
theorem implWhole_any (a : Option Addr) (cap : Nat) (xs : List Bd) (w : World) (hn : xs.length ≤ 1048576) (ht : Hid (∀ k, k < xs.length → (MP.at_ xs k).py.size ≤ 1048576)) (hin : MP.BsAt w a xs) :
    Calls Try.prog 12 #[.agg #[.slice a xs.length cap]] w fun e w' => e = .returned (.tuple #[.agg (wholeB xs).cs.toArray, .bool (wholeOk xs)]) ∧ Below w.heap.size w w' := by
  have SO : Hid _ := fun W h => stackOf_any a cap xs W hn ht h
  have HW0 : Hid _ := wh_start w (.slice a xs.length cap) 31 24
  have HI : Hid (MP.BsAt ((w.alloc (.cells #[.slice a xs.length cap] 31)).alloc (.cells (Bd.cs B1.zero).toArray 24)) a xs) := hin.below HW0.out.below
  go_enter Try.func12, Try.ntmps12
  go_wp2_with (refine MA.alloc_z rfl 24 rfl _ _ Try.infoBundle ?_; simp only [MA.sz_alloc]; have c00 := HW0.out.arg)
  refine (SO.out _ HI.out).mono ?_
  rintro e w2 ⟨g, rfl, hrw, hb2⟩
  replace HW0 : Hid _ := HW0.out.kept hb2
  clear SO HI hb2 c00
  rw [upOk_good'] at hrw ⊢
  obtain ⟨L, hL⟩ : ∃ L, upV xs (.slice (some ⟨g, 0, none⟩) xs.length xs.length) = L := ⟨_, rfl⟩
  have HL : Hid _ := hL
  have HL1 : Hid (L.length = 121) := by rw [← hL]; exact upV_len _ _ _ _
  have HL2 : Hid (∀ v ∈ L, v.oneCell' = true) := by rw [← hL]; exact upV_one _ _ _ _
  rw [hL]
  clear hL
  have RN : Hid _ := MA.Rg.new w2 (stF (.slice none 0 0) PL.blank) 75
  have RP : Hid (MA.Rg (World.setCells (w2.alloc (.cells (stF (.slice none 0 0) PL.blank).toArray 75)) w2.heap.size 0 L) w2.heap.size 0 L) := RN.out.put (by rw [Z_len]; exact HL1.out)
  have HB2 : Hid (Below w2.heap.size w2 (World.setCells (w2.alloc (.cells (stF (.slice none 0 0) PL.blank).toArray 75)) w2.heap.size 0 L)) := MA.below_cells (b := w2.heap.size) (Nat.le_refl _) L 0 _ ((Below.refl _ w2).alloc (Nat.le_refl _) _)
  cases hg : PL.good xs with
  | false =>
    have hok : Hid (wholeOk xs = false) := by simp [Hid, wholeOk, hg]
    clear hg hrw RP
    go_wp2_with (first
      | (refine MA.alloc_z rfl 75 rfl _ _ Try.infoStack' ?_; simp only [MA.sz_alloc])
      | (refine MA.store_m rfl 75 _ _ rfl rfl rfl (cs := stF (.slice none 0 0) PL.blank) ?_ Try.sizeStack Z_len HL1.out HL2.out ?_; exact RN.out; clear RN; generalize World.setCells _ _ _ _ = W3 at *; replace HW0 : Hid _ := HW0.out.kept HB2.out; clear HB2)
      | (refine MA.store_m rfl 24 _ _ rfl rfl rfl (vs := Bd.cs B1.zero) (cs := Bd.cs B1.zero) ?_ Try.sizeBundle rfl rfl (MA.cs_one _) ?_; exact HW0.out.res))
    exact bodyPost_ret (MA.ret_cell2 rfl rfl rfl (MA.load_rg (HW0.out.res.put (vs := Bd.cs B1.zero) rfl) Try.underlying24 rfl Try.sizeBundle rfl)) rfl ⟨by rw [hok.out, whole_no hok.out]; rfl, MA.below_cells (by omega) _ _ _ HW0.out.below⟩
  | true =>
    have hr2 := (hrw hg).2
    have eL : L = stF (.slice (some ⟨g, 0, none⟩) xs.length xs.length) (PL.sh xs xs.length) := by rw [← HL.out, upV_good _ hg]
    subst eL
    have IW : Hid _ := fun W h => isWhole_any g xs W hn hg h
    have WH : Hid _ := fun W (hok : wholeOk xs = true) h => whole_any g xs W hn hg hok h
    clear hg hrw HL
    go_wp2_with (first
      | (refine MA.alloc_z rfl 75 rfl _ _ Try.infoStack' ?_; simp only [MA.sz_alloc])
      | (refine MA.store_m rfl 75 _ _ rfl rfl rfl (cs := stF (.slice none 0 0) PL.blank) ?_ Try.sizeStack Z_len HL1.out HL2.out ?_; exact RN.out; clear RN; generalize World.setCells _ _ _ _ = W3 at *; replace HW0 : Hid _ := HW0.out.kept HB2.out; have HRW : Hid (MP.BsAt W3 (some ⟨g, 0, none⟩) xs) := MP.BsAt.below hr2 HB2.out; clear HB2)
      | (refine MA.load_gW rfl 75 _ rfl rfl (cs := stF (.slice (some ⟨g, 0, none⟩) xs.length xs.length) (PL.sh xs xs.length)) ?_ Try.underlying75 rfl Try.sizeStack (st_len _ _ _ _) ?_; exact RP.out.rng))
    refine (IW.out _ HRW.out).mono ?_
    rintro e w4 ⟨rfl, hb4⟩
    replace HW0 : Hid _ := HW0.out.kept hb4
    replace HRW : Hid (MP.BsAt w4 (some ⟨g, 0, none⟩) xs) := MP.BsAt.below HRW.out hb4
    replace RP : Hid _ := RP.out.below hb4 RP.out.lt
    clear IW hb4 hr2
    generalize w2.heap.size = q at *
    cases hok : wholeOk xs with
    | false =>
      have HOK : Hid _ := hok
      clear hok WH
      go_wp2_with (refine MA.store_m rfl 24 _ _ rfl rfl rfl (vs := Bd.cs B1.zero) (cs := Bd.cs B1.zero) ?_ Try.sizeBundle rfl rfl (MA.cs_one _) ?_; exact HW0.out.res)
      exact bodyPost_ret (MA.ret_cell2 rfl rfl rfl (MA.load_rg (HW0.out.res.put (vs := Bd.cs B1.zero) rfl) Try.underlying24 rfl Try.sizeBundle rfl)) rfl ⟨by rw [HOK.out, whole_no HOK.out]; rfl, MA.below_cells (by omega) _ _ _ HW0.out.below⟩
    | true =>
      have HOK : Hid _ := hok
      have hsz : (wholeB xs).py.size ≤ 1048576 := by
        rw [whole_yes hok]
        have hg : PL.good xs = true := by simp [wholeOk] at hok; exact hok.1.1
        have := PL.total_le hg
        show (textN (PL.total xs) (PL.sh xs xs.length).by_).size ≤ _
        have e : (textN (PL.total xs) (PL.sh xs xs.length).by_).size = PL.total xs := by simp [textN, ByteArray.size]
        omega
      have PB : Hid (∀ W : World, Calls Try.prog 35 #[.agg (wholeB xs).cs.toArray] W fun e w' => e = .returned (.agg (wholeB xs).cs.toArray) ∧ Below W.heap.size W w') := fun W => parcelBundle_any (wholeB xs) W hsz
      clear hok hsz
      go_wp2_with (refine MA.load_r rfl 75 _ rfl rfl (cs := stF (.slice (some ⟨g, 0, none⟩) xs.length xs.length) (PL.sh xs xs.length)) ?_ Try.underlying75 rfl Try.sizeStack (st_len _ _ _ _) ?_; exact RP.out.rng)
      refine (WH.out _ HOK.out HRW.out).mono ?_
      rintro e w5 ⟨rfl, hb5⟩
      replace HW0 : Hid _ := HW0.out.kept hb5
      clear WH hb5 HRW RP
      obtain ⟨O, hO⟩ : ∃ O, wholeB xs = O := ⟨_, rfl⟩
      have HO : Hid _ := hO
      rw [hO] at PB ⊢
      clear hO
      go_wp2_with fail
      refine (PB.out _).mono ?_
      rintro e w6 ⟨rfl, hb6⟩
      replace HW0 : Hid _ := HW0.out.kept hb6
      clear PB hb6
      go_wp2_with (refine MA.store_m rfl 24 _ _ rfl rfl rfl (vs := O.cs) (cs := Bd.cs B1.zero) ?_ Try.sizeBundle rfl rfl (MA.cs_one _) ?_; exact HW0.out.res)
      exact bodyPost_ret (MA.ret_cell2 rfl rfl rfl (MA.load_rg (HW0.out.res.put (vs := O.cs) rfl) Try.underlying24 rfl Try.sizeBundle rfl)) rfl ⟨by rw [HOK.out, HO.out]; rfl, MA.below_cells (by omega) _ _ _ HW0.out.below⟩
end Go.Proofs.Ytdgflhgbcfehhaa

/- A pile in a box of one cell, beside bundles in boxes (FnPieces): plain facts. -/
namespace Go.Proofs.Ytdgflhgbcfehhaa
namespace PP
open Go.RowKit
/-- The row of the pieces lies in another block than k. -/
def Far (a : Option Addr) (xs : List Bd) (k : Nat) : Prop := xs = [] ∨ ∃ g off, a = some ⟨g, off, none⟩ ∧ g ≠ k
theorem bs_set {w : World} {a : Option Addr} {xs : List Bd} {k j : Nat} {v : Value} (h : MP.BsAt w a xs) (hf : Far a xs k) : MP.BsAt (w.setCell ⟨k, j, none⟩ v) a xs := by
  rcases hf with rfl | ⟨g, o, rfl, hg⟩
  · exact .inl rfl
  · rcases h with h | ⟨b, off, e, hlt, hc⟩
    · exact .inl h
    · cases e
      have hb := BX.set_block w k j g v hg
      have hcell : ∀ q, (w.setCell ⟨k, j, none⟩ v).cell? ⟨g, q, none⟩ = w.cell? ⟨g, q, none⟩ := fun q => by unfold World.cell?; rw [hb]
      refine .inr ⟨g, o, rfl, by simpa using hlt, fun i hi => ?_⟩
      simp only [hcell]
      exact hc i hi
/-- The pile xs lies in block k, its row at a. -/
structure PBox (w : World) (k T : Nat) (a : Option Addr) (xs : List Bd) (cap : Nat) : Prop where
  is : w.heap[k]? = some (.cells #[.slice a xs.length cap] T)
  row : MP.BsAt w a xs
  far : Far a xs k
theorem PBox.lt {w : World} {k T cap : Nat} {a : Option Addr} {xs : List Bd} (h : PBox w k T a xs cap) : k < w.heap.size := (Array.getElem?_eq_some_iff.1 h.is).1
theorem PBox.cell {w : World} {k T cap : Nat} {a : Option Addr} {xs : List Bd} (h : PBox w k T a xs cap) : w.cell? ⟨k, 0, none⟩ = some (.slice a xs.length cap) := (Lib.cell_of_heap h.is 0).trans rfl
theorem PBox.free {w : World} {k T cap : Nat} {a : Option Addr} {xs : List Bd} (h : PBox w k T a xs cap) : w.frozen? ⟨k, 0, none⟩ = false := by unfold World.frozen?; rw [h.is]; simp
theorem PBox.below {w w' : World} {k T cap : Nat} {a : Option Addr} {xs : List Bd} (h : PBox w k T a xs cap) (hb : Below w.heap.size w w') : PBox w' k T a xs cap := ⟨(hb.block k h.lt).trans h.is, h.row.below hb, h.far⟩
theorem PBox.alloc {w : World} {k T cap : Nat} {a : Option Addr} {xs : List Bd} (h : PBox w k T a xs cap) (o : Obj) : PBox (w.alloc o) k T a xs cap := h.below ((Below.refl _ w).alloc (Nat.le_refl _) o)
theorem PBox.other {w : World} {k T cap g j : Nat} {a : Option Addr} {xs : List Bd} {v : Value} (h : PBox w k T a xs cap) (hg : k ≠ g) (hf : Far a xs g) : PBox (w.setCell ⟨g, j, none⟩ v) k T a xs cap :=
  ⟨(BX.set_block w g j k v hg).trans h.is, bs_set h.row hf, h.far⟩
theorem PBox.set {w : World} {k T cap cap' : Nat} {a a' : Option Addr} {xs xs' : List Bd} (h : PBox w k T a xs cap) (hr : MP.BsAt w a' xs') (hf : Far a' xs' k) : PBox (w.setCell ⟨k, 0, none⟩ (.slice a' xs'.length cap')) k T a' xs' cap' :=
  ⟨by rw [BX.set_at (j := 0) h.is]; simp, bs_set hr hf, hf⟩
theorem PBox.new {w : World} {T cap : Nat} {a : Option Addr} {xs : List Bd} {k : Nat} (hk : k = w.heap.size) (hr : MP.BsAt w a xs) (hf : Far a xs k) : PBox (w.alloc (.cells #[.slice a xs.length cap] T)) k T a xs cap :=
  ⟨by rw [hk]; exact heap_alloc_new w _, hr.below ((Below.refl _ w).alloc (Nat.le_refl _) _), hf⟩
/-- A row lies below the heap's end. -/
theorem far_of {w : World} {a : Option Addr} {xs : List Bd} {k : Nat} (h : MP.BsAt w a xs) (hk : w.heap.size ≤ k) : Far a xs k := by
  rcases h with h | ⟨b, off, rfl, hlt, _⟩
  · exact .inl h
  · exact .inr ⟨b, off, rfl, by omega⟩
/-- What AddPiece answers, as a row. -/
theorem add_row {w : World} {B g : Nat} {a : Option Addr} {xs : List Bd} (hg : B ≤ g) (h : xs.length = 0 ∨ (a = some ⟨g, 0, none⟩ ∧ MA.Rg w g 0 (MP.flat xs))) : MP.BsAt w a xs ∧ ∀ k, k < B → Far a xs k := by
  rcases h with h | ⟨rfl, h⟩
  · obtain rfl := List.eq_nil_of_length_eq_zero h
    exact ⟨.inl rfl, fun k _ => .inl rfl⟩
  · exact ⟨MA.Rg.row h, fun k hk => .inr ⟨g, 0, rfl, by omega⟩⟩
/-- All that the law asks of the pieces. -/
structure Facts (b : Bd) (L : List Bd) : Prop where
  wh : Wh b
  pos : 0 < L.length
  le : L.length ≤ 60
  is : ∀ j, j < L.length → Is b (MP.at_ L j)
  all : ∀ s xs, Pile b xs → Vis L s L.length xs → wholeOk xs = true ∧ wholeB xs = b ∧ missN xs = 0
theorem facts_of {b : Bd} {n : Int} (h : CB.ok b n = true) : Facts b (CB.res b n) :=
  ⟨wh_of h, (res_is h).1, (res_is h).2.1, (res_is h).2.2.1, fun _ _ P hv => Vis.all h P hv⟩
end PP
end Go.Proofs.Ytdgflhgbcfehhaa

/- AddPiece of the specification at the pile that has no row yet. -/
namespace Go.Proofs.Ytdgflhgbcfehhaa
open Go.RowKit
set_option linter.unusedSimpArgs false in
set_option maxHeartbeats 25600000 in
set_option maxRecDepth 100000 in
theorem specAddN_any (b : Bd) (w : World) (hs : b.py.size ≤ 1048576) :
    Calls Try.prog 18 #[.agg #[.slice none 0 0], .agg b.cs.toArray] w fun e w' => ∃ a1 c1, e = .returned (.tuple #[.agg #[.slice a1 (PD.ansS [] b).1.length c1], .bool (PD.ansS [] b).2]) ∧ w'.ownsRow w.heap.size 24 10 (.slice a1 (PD.ansS [] b).1.length c1) (PD.ansS [] b).1.length (MP.flat (PD.ansS [] b).1) ∧ Below w.heap.size w w' := by
  obtain ⟨i0, hi, hz0, hz1, hz2⟩ := info_parts Try.infoBundleS
  have HW : Hid _ := SdIn.start w (.slice none 0 0) b 31 24
  have GP : Hid _ := fun W => specGoodPile_any none 0 [] W (by simp) (fun k hk => absurd hk (by simp)) (.inl rfl) (Nat.le_refl _)
  have GB : Hid _ := fun W R hR => specGoodBundle_any b W hs R hR
  go_enter Try.func18, Try.ntmps18
  go_wp2_with fail
  refine (GP.out _).mono ?_
  rintro e w2 ⟨rfl, hb2⟩
  replace HW : Hid _ := HW.out.kept hb2
  clear GP hb2
  have hg : PL.good [] = true := by decide
  rw [hg]
  have HBX : Hid _ := HW.out.bx.rng
  clear hg
  go_wp2_with (refine MA.load_g rfl 24 _ rfl rfl (cs := b.cs) ?_ Try.underlying24 rfl Try.sizeBundle rfl ?_; exact HBX.out)
  refine (GB.out _ _ rfl).mono ?_
  rintro e w3 ⟨rfl, hb3⟩
  replace HW : Hid _ := HW.out.kept hb3
  clear GB hb3 HBX
  cases hgb : B1.good b with
  | false =>
    have HANS : Hid (PD.ansS [] b = ([], false)) := by show _ = _; simp [PD.ansS, PL.pg, hgb]
    clear hgb
    go_wp2_with (refine MA.store_m rfl 31 _ _ rfl rfl rfl (cs := [.slice none 0 0]) ?_ Try.sizePileAS rfl rfl (by simp [Value.oneCell']) ?_; exact HW.out.res)
    exact bodyPost_ret (MA.ret_cell2 rfl rfl rfl (MA.load_rg (HW.out.res.put (vs := [.slice none 0 0]) rfl) Try.underlying31 rfl Try.sizePileAS rfl)) rfl ⟨none, 0, by rw [HANS.out]; rfl, by rw [HANS.out]; exact World.ownsRow_nil _ _ _ _, MA.below_cells (by omega) _ _ _ HW.out.below⟩
  | true =>
    have c8 : w3.cell? ⟨w.heap.size + 1, 8, none⟩ = some (.int .i64 b.tl) := by
      have := HW.out.bx.cell (j := 8) (v := .int .i64 b.tl) rfl
      rwa [Nat.zero_add] at this
    have l8 := HW.out.bx.lt
    by_cases htl : b.tl = 0
    · have HANS : Hid (PD.ansS [] b = ([], false)) := by show _ = _; simp [PD.ansS, PL.pg, htl]
      have htb : (b.tl == 0) = true := by simp [htl]
      clear hgb htl
      generalize b.tl = tl at *
      go_wp2_with (refine MA.store_m rfl 31 _ _ rfl rfl rfl (cs := [.slice none 0 0]) ?_ Try.sizePileAS rfl rfl (by simp [Value.oneCell']) ?_; exact HW.out.res)
      exact bodyPost_ret (MA.ret_cell2 rfl rfl rfl (MA.load_rg (HW.out.res.put (vs := [.slice none 0 0]) rfl) Try.underlying31 rfl Try.sizePileAS rfl)) rfl ⟨none, 0, by rw [HANS.out]; rfl, by rw [HANS.out]; exact World.ownsRow_nil _ _ _ _, MA.below_cells (by omega) _ _ _ HW.out.below⟩
    · have HPG : Hid (PL.pg b = true) := by show _ = _; simp [PL.pg, hgb, htl]
      have htb : (b.tl == 0) = false := by simp [htl]
      clear hgb htl
      generalize b.tl = tl at *
      have HANG0 : Hid (∀ zs, zs = [b] → (PL.good zs = true → PD.ansS [] b = (zs, true))) := fun zs hz h => by
        subst hz
        unfold PD.ansS
        rw [if_neg (by simp [HPG.out, show PL.good [] = true by decide]), if_pos (.inl rfl)]
        have : PD.put [] b (PD.cut [] b) = [b] := rfl
        rw [this, if_pos h]
      have HANB0 : Hid (∀ zs, zs = [b] → (PL.good zs = false → PD.ansS [] b = ([], false))) := fun zs hz h => by
        subst hz
        unfold PD.ansS
        rw [if_neg (by simp [HPG.out, show PL.good [] = true by decide]), if_pos (.inl rfl)]
        have : PD.put [] b (PD.cut [] b) = [b] := rfl
        rw [this, if_neg (by simp [h])]
      clear HPG
      go_wp2
      clear c8
      go_loopw [6] (fun iv wr => iv = .int .i64 0 ∧ SdIn w wr (.slice none 0 0) b) (fun _ _ => 0)
      case atStart => exact ⟨rfl, HW.out⟩
      case round =>
        clear HW l8
        obtain ⟨rfl, hI⟩ := hrel
        have HW : Hid _ := hI
        have c0 := hI.arg
        have hxl := hI.bx.lt
        have hq0 : w.heap.size < wr.heap.size := by omega
        clear hI
        go_wp2
        refine MR.frame fun A hA => ?_
        have hsz : A.tmps.size = 98 := by rw [hA]; rfl
        have e2 : A.eval (.tmp 2) = .pointer (some ⟨w.heap.size, 0, none⟩) := by rw [hA]; rfl
        have f2 := MR.read (t := 2) (by rw [hsz]; decide) e2
        have e3 : A.eval (.tmp 3) = .pointer (some ⟨w.heap.size + 1, 0, none⟩) := by rw [hA]; rfl
        have f3 := MR.read (t := 3) (by rw [hsz]; decide) e3
        have e6 : A.eval (.tmp 6) = .int .i64 0 := by rw [hA]; rfl
        have f6 := MR.read (t := 6) (by rw [hsz]; decide) e6
        have HA : Hid (A = _) := hA
        clear hA
        have hS : (fun w' : World => Below wr.heap.size wr w') (World.drew _) := ((Below.refl _ wr).drew)
        refine wp_region_held (S := fun w' : World => Below wr.heap.size wr w') (by kernel_rfl) ?_
        change wpAnyH _ _ _ _ _ _ _ _ (World.drew _)
        refine MR.takeH (i := 0) (some 22) (.int .i64 0) rfl rfl (by kernel_rfl) (by kernel_rfl) (by kernel_rfl) (fun _ _ _ h => h) hS (MR.free rfl) (fun wq hw => by simp [execOp, MR.ev, MR.size, hsz, e2, f2, e3, f3, e6, f6, go_sem]) ?_
        refine MR.takeH (i := 1) (some 23) ((.pointer (some ⟨w.heap.size, 0, none⟩))) rfl rfl (by kernel_rfl) (by kernel_rfl) (by kernel_rfl) (fun _ _ _ h => h) hS (MR.free rfl) (fun wq hw => by simp [execOp, MR.ev, MR.size, hsz, e2, f2, e3, f3, e6, f6, go_sem]) ?_
        refine MR.takeH (i := 2) (some 24) ((.slice none 0 0)) rfl rfl (by kernel_rfl) (by kernel_rfl) (by kernel_rfl) (fun _ _ _ h => h) hS (MR.free rfl) (fun wq hw => by have cq : wq.cell? ⟨w.heap.size, 0, none⟩ = some (.slice none 0 0) := (hw.cell (p := ⟨w.heap.size, 0, none⟩) hq0).trans c0; simp [execOp, MR.ev, MR.size, hsz, e2, f2, e3, f3, e6, f6, cq, go_sem]) ?_
        refine MR.takeH (i := 3) (some 25) (.int .i64 0) rfl rfl (by kernel_rfl) (by kernel_rfl) (by kernel_rfl) (fun _ _ _ h => h) hS (MR.free rfl) (fun wq hw => by simp [execOp, MR.ev, MR.size, hsz, e2, f2, e3, f3, e6, f6, go_sem]) ?_
        refine MR.takeH (i := 4) (some 26) (.bool false) rfl rfl (by kernel_rfl) (by kernel_rfl) (by kernel_rfl) (fun _ _ _ h => h) hS (MR.free rfl) (fun wq hw => by simp [execOp, MR.ev, MR.size, hsz, e2, f2, e3, f3, e6, f6, go_sem]) ?_
        refine MR.takeH (i := 5) (some 27) (.bool false) rfl rfl (by kernel_rfl) (by kernel_rfl) (by kernel_rfl) (fun _ _ _ h => h) hS (MR.free rfl) (fun wq hw => by simp [execOp, MR.ev, MR.size, hsz, e2, f2, e3, f3, e6, f6, go_sem]) ?_
        refine MR.skipH (i := 6) (some 28) rfl rfl (by kernel_rfl) (by kernel_rfl) (by kernel_rfl) (fun _ _ _ h => h) hS (MR.unwant (d := 27) (b' := false) rfl rfl (by simp [MR.size, hsz]) (by simp [MR.ev, MR.size, hsz, e2, f2, e3, f3, e6, f6]) (by decide)) ?_
        refine MR.skipH (i := 7) (some 29) rfl rfl (by kernel_rfl) (by kernel_rfl) (by kernel_rfl) (fun _ _ _ h => h) hS (MR.unwant (d := 27) (b' := false) rfl rfl (by simp [MR.size, hsz]) (by simp [MR.ev, MR.size, hsz, e2, f2, e3, f3, e6, f6]) (by decide)) ?_
        refine MR.skipH (i := 8) (some 30) rfl rfl (by kernel_rfl) (by kernel_rfl) (by kernel_rfl) (fun _ _ _ h => h) hS (MR.unwant (d := 27) (b' := false) rfl rfl (by simp [MR.size, hsz]) (by simp [MR.ev, MR.size, hsz, e2, f2, e3, f3, e6, f6]) (by decide)) ?_
        refine MR.skipH (i := 9) (some 31) rfl rfl (by kernel_rfl) (by kernel_rfl) (by kernel_rfl) (fun _ _ _ h => h) hS (MR.unwant (d := 27) (b' := false) rfl rfl (by simp [MR.size, hsz]) (by simp [MR.ev, MR.size, hsz, e2, f2, e3, f3, e6, f6]) (by decide)) ?_
        refine MR.skipH (i := 10) (some 32) rfl rfl (by kernel_rfl) (by kernel_rfl) (by kernel_rfl) (fun _ _ _ h => h) hS (MR.unwant (d := 27) (b' := false) rfl rfl (by simp [MR.size, hsz]) (by simp [MR.ev, MR.size, hsz, e2, f2, e3, f3, e6, f6]) (by decide)) ?_
        refine MR.skipH (i := 11) (some 33) rfl rfl (by kernel_rfl) (by kernel_rfl) (by kernel_rfl) (fun _ _ _ h => h) hS (MR.unwant (d := 27) (b' := false) rfl rfl (by simp [MR.size, hsz]) (by simp [MR.ev, MR.size, hsz, e2, f2, e3, f3, e6, f6]) (by decide)) ?_
        refine MR.skipH (i := 12) (some 34) rfl rfl (by kernel_rfl) (by kernel_rfl) (by kernel_rfl) (fun _ _ _ h => h) hS (MR.unwant (d := 27) (b' := false) rfl rfl (by simp [MR.size, hsz]) (by simp [MR.ev, MR.size, hsz, e2, f2, e3, f3, e6, f6]) (by decide)) ?_
        refine MR.takeH (i := 13) (some 35) (.bool false) rfl rfl (by kernel_rfl) (by kernel_rfl) (by kernel_rfl) (fun _ _ _ h => h) hS (MR.free rfl) (fun wq hw => by simp [execOp, MR.ev, MR.size, hsz, e2, f2, e3, f3, e6, f6, go_sem]) ?_
        refine wpAnyH_done (by kernel_rfl) ?_ _
        rw [HA.out]
        have hP := HW.out.kept hS
        have HP : Hid _ := hP
        clear hP HA hS c0 e2 e3 e6 f2 f3 f6 hsz HW hxl
        generalize World.drew wr = w4 at *
        simp only [Act.put, List.setIfInBounds_toArray, List.set_cons_succ, List.set_cons_zero]
        have OWN0 : Hid ((w4.alloc (.cells #[] 24)).ownsRow (w.heap.size + 1 + 1 + 1) 24 10 (.slice (some ⟨w4.heap.size, 0, none⟩) 0 0) ([] : List Bd).length (MP.flat [])) := by
          show World.ownsRow _ _ _ _ _ _ _
          have := World.ownsRow_lit (base := w.heap.size + 1 + 1 + 1) (e := 24) (size := 10) w4 #[] 0 HP.out.res.lt (by unfold maxLen; omega) (by simp)
          simpa [MP.flat] using this
        have c0 := HP.out.arg
        have l0 : w.heap.size < w4.heap.size := by have := HP.out.bx.lt; omega
        go_wp2_with (at_builtin; go_loud (refine wpList_append_own_none rfl _ _ 27 rfl (w.heap.size + 1 + 1 + 1) 24 i0 10 Try.underlying27 hi _ _ _ rfl OWN0.out rfl ?_))
        have HP5 : Hid _ := HP.out.kept (W' := w4.alloc (.cells #[] 24)) ((Below.refl _ w4).alloc (Nat.le_refl _) _)
        have HOD : Hid _ := OdIn.start HP5.out OWN0.out
        have hob : (w4.alloc (.cells #[] 24)).heap.size = w4.heap.size + 1 := by simp
        rw [hob] at HOD
        clear hob
        obtain ⟨tk, HTE⟩ : ∃ tk : List Bd, Hid (tk = []) := ⟨[], rfl⟩
        obtain ⟨va, vc, hva⟩ : ∃ va vc, (Value.slice (some ⟨w4.heap.size, 0, none⟩) 0 0) = .slice va tk.length vc := ⟨_, _, by rw [HTE.out]; rfl⟩
        rw [show ([] : List Bd) = tk from HTE.out.symm] at HOD
        rw [hva] at HOD ⊢
        clear hva OWN0 HP5 HP c0 l0
        have htl1 : tk.length ≤ 60 := by rw [HTE.out]; simp
        generalize ((w4.alloc (.cells #[] 24)).alloc (.cells #[.slice va tk.length vc] 31)) = w6 at *
        generalize w4.heap.size + 1 = ob at *
        have c0 := HOD.out.sd.arg
        have hq0 : w.heap.size < w6.heap.size := by have := HOD.out.sd.bx.lt; omega
        refine MR.frame fun A hA => ?_
        have hsz : A.tmps.size = 98 := by rw [hA]; rfl
        have e2 : A.eval (.tmp 2) = .pointer (some ⟨w.heap.size, 0, none⟩) := by rw [hA]; rfl
        have f2 := MR.read (t := 2) (by rw [hsz]; decide) e2
        have e3 : A.eval (.tmp 3) = .pointer (some ⟨w.heap.size + 1, 0, none⟩) := by rw [hA]; rfl
        have f3 := MR.read (t := 3) (by rw [hsz]; decide) e3
        have e6 : A.eval (.tmp 6) = .int .i64 0 := by rw [hA]; rfl
        have f6 := MR.read (t := 6) (by rw [hsz]; decide) e6
        have HA : Hid (A = _) := hA
        clear hA
        have hS : (fun w' : World => Below w6.heap.size w6 w') (World.drew _) := ((Below.refl _ w6).drew)
        refine wp_region_held (S := fun w' : World => Below w6.heap.size w6 w') (by kernel_rfl) ?_
        change wpAnyH _ _ _ _ _ _ _ _ (World.drew _)
        refine MR.takeH (i := 0) (some 45) (.int .i64 0) rfl rfl (by kernel_rfl) (by kernel_rfl) (by kernel_rfl) (fun _ _ _ h => h) hS (MR.free rfl) (fun wq hw => by simp [execOp, MR.ev, MR.size, hsz, e2, f2, e3, f3, e6, f6, go_sem]) ?_
        refine MR.takeH (i := 1) (some 46) ((.pointer (some ⟨w.heap.size, 0, none⟩))) rfl rfl (by kernel_rfl) (by kernel_rfl) (by kernel_rfl) (fun _ _ _ h => h) hS (MR.free rfl) (fun wq hw => by simp [execOp, MR.ev, MR.size, hsz, e2, f2, e3, f3, e6, f6, go_sem]) ?_
        refine MR.takeH (i := 2) (some 47) ((.slice none 0 0)) rfl rfl (by kernel_rfl) (by kernel_rfl) (by kernel_rfl) (fun _ _ _ h => h) hS (MR.free rfl) (fun wq hw => by have cq : wq.cell? ⟨w.heap.size, 0, none⟩ = some (.slice none 0 0) := (hw.cell (p := ⟨w.heap.size, 0, none⟩) hq0).trans c0; simp [execOp, MR.ev, MR.size, hsz, e2, f2, e3, f3, e6, f6, cq, go_sem]) ?_
        refine MR.takeH (i := 3) (some 48) (.int .i64 0) rfl rfl (by kernel_rfl) (by kernel_rfl) (by kernel_rfl) (fun _ _ _ h => h) hS (MR.free rfl) (fun wq hw => by simp [execOp, MR.ev, MR.size, hsz, e2, f2, e3, f3, e6, f6, go_sem]) ?_
        refine MR.takeH (i := 4) (some 49) (.bool true) rfl rfl (by kernel_rfl) (by kernel_rfl) (by kernel_rfl) (fun _ _ _ h => h) hS (MR.free rfl) (fun wq hw => by simp [execOp, MR.ev, MR.size, hsz, e2, f2, e3, f3, e6, f6, go_sem]) ?_
        refine MR.takeH (i := 5) (some 50) (.bool true) rfl rfl (by kernel_rfl) (by kernel_rfl) (by kernel_rfl) (fun _ _ _ h => h) hS (MR.free rfl) (fun wq hw => by simp [execOp, MR.ev, MR.size, hsz, e2, f2, e3, f3, e6, f6, go_sem]) ?_
        refine MR.skipH (i := 6) (some 51) rfl rfl (by kernel_rfl) (by kernel_rfl) (by kernel_rfl) (fun _ _ _ h => h) hS (MR.unwant (d := 50) (b' := true) rfl rfl (by simp [MR.size, hsz]) (by simp [MR.ev, MR.size, hsz, e2, f2, e3, f3, e6, f6]) (by decide)) ?_
        refine MR.skipH (i := 7) (some 52) rfl rfl (by kernel_rfl) (by kernel_rfl) (by kernel_rfl) (fun _ _ _ h => h) hS (MR.unwant (d := 50) (b' := true) rfl rfl (by simp [MR.size, hsz]) (by simp [MR.ev, MR.size, hsz, e2, f2, e3, f3, e6, f6]) (by decide)) ?_
        refine MR.skipH (i := 8) (some 53) rfl rfl (by kernel_rfl) (by kernel_rfl) (by kernel_rfl) (fun _ _ _ h => h) hS (MR.unwant (d := 50) (b' := true) rfl rfl (by simp [MR.size, hsz]) (by simp [MR.ev, MR.size, hsz, e2, f2, e3, f3, e6, f6]) (by decide)) ?_
        refine MR.skipH (i := 9) (some 54) rfl rfl (by kernel_rfl) (by kernel_rfl) (by kernel_rfl) (fun _ _ _ h => h) hS (MR.unwant (d := 50) (b' := true) rfl rfl (by simp [MR.size, hsz]) (by simp [MR.ev, MR.size, hsz, e2, f2, e3, f3, e6, f6]) (by decide)) ?_
        refine MR.skipH (i := 10) (some 55) rfl rfl (by kernel_rfl) (by kernel_rfl) (by kernel_rfl) (fun _ _ _ h => h) hS (MR.unwant (d := 50) (b' := true) rfl rfl (by simp [MR.size, hsz]) (by simp [MR.ev, MR.size, hsz, e2, f2, e3, f3, e6, f6]) (by decide)) ?_
        refine MR.skipH (i := 11) (some 56) rfl rfl (by kernel_rfl) (by kernel_rfl) (by kernel_rfl) (fun _ _ _ h => h) hS (MR.unwant (d := 50) (b' := true) rfl rfl (by simp [MR.size, hsz]) (by simp [MR.ev, MR.size, hsz, e2, f2, e3, f3, e6, f6]) (by decide)) ?_
        refine MR.skipH (i := 12) (some 57) rfl rfl (by kernel_rfl) (by kernel_rfl) (by kernel_rfl) (fun _ _ _ h => h) hS (MR.unwant (d := 50) (b' := true) rfl rfl (by simp [MR.size, hsz]) (by simp [MR.ev, MR.size, hsz, e2, f2, e3, f3, e6, f6]) (by decide)) ?_
        refine MR.takeH (i := 13) (some 58) (.bool true) rfl rfl (by kernel_rfl) (by kernel_rfl) (by kernel_rfl) (fun _ _ _ h => h) hS (MR.free rfl) (fun wq hw => by simp [execOp, MR.ev, MR.size, hsz, e2, f2, e3, f3, e6, f6, go_sem]) ?_
        refine wpAnyH_done (by kernel_rfl) ?_ _
        rw [HA.out]
        replace HOD : Hid _ := HOD.out.kept hS
        clear HA hS c0 e2 e3 e6 f2 f3 f6 hsz
        generalize World.drew w6 = w7 at *
        simp only [Act.put, List.setIfInBounds_toArray, List.set_cons_succ, List.set_cons_zero]
        have o0 := CB.c_of HOD.out.ob (j := 0) (v := .slice va tk.length vc) rfl
        have z0 := CB.f_of HOD.out.ob (j := 0) (by simp)
        have ol := HOD.out.ob.lt
        have hs7 := HOD.out.sd.res.lt
        obtain ⟨q00, q0, q1, q2, q3, q4, q5, q6, q7, q8, q9⟩ := HOD.out.sd.bx.bd
        go_wp2_with (first
          | (refine CB.bslice_m rfl 27 _ rfl rfl 24 (Try.bsliceA b) ?_)
          | (at_builtin; go_loud (refine wpList_append_own_at _ rfl _ _ 27 rfl (w.heap.size + 1 + 1 + 1) 24 i0 (.agg (Bd.cs B1.zero).toArray) 10 88 Try.underlying27 hi hz0 hz1 hz2 rfl (by decide) _ _ _ rfl (HOD.out.ow.alloc _) ⟨w7.heap.size, 0, none⟩ 1 1 b.cs rfl rfl (CB.newN _ _ _) (MA.cs_one _) ?n3 ?n4 ?n5 ?_)))
        case n3 => unfold maxLen; omega
        case n4 => omega
        case n5 => simp; omega
        intro v8 w8 hown8 hgrow8 _ hloc8
        have O8 : w8.ownsRow (w.heap.size + 1 + 1 + 1) 24 10 v8 (tk ++ [b]).length (MP.flat (tk ++ [b])) := by
          have := hown8
          simpa [MP.flat] using this
        have HOD8 := HOD.out.app ((Below.refl _ w7).alloc (Nat.le_refl _) _) O8 hgrow8 hloc8 (by omega)
        have hz8 : (tk ++ [b]).length ≤ 61 := by simp; omega
        obtain ⟨va8, vc8, rfl, _⟩ := CB.view O8
        have HTE8 : Hid (tk ++ [b] = [b]) := by show _ = _; rw [HTE.out]; rfl
        have HOD8' : Hid _ := HOD8
        have o8 := (rg_grown (HOD.out.ob.below ((Below.refl _ w7).alloc (Nat.le_refl _) (.cells b.cs.toArray 24)) HOD.out.ob.lt) hgrow8 (fun e => HOD.out.ne e.symm)).cell (j := 0) (v := .slice va tk.length vc) rfl
        have z8 := (rg_grown (HOD.out.ob.below ((Below.refl _ w7).alloc (Nat.le_refl _) (.cells b.cs.toArray 24)) HOD.out.ob.lt) hgrow8 (fun e => HOD.out.ne e.symm)).free (j := 0) (by simp)
        have l8 : ob < w8.heap.size := by have := hgrow8.size; simp at this; omega
        rw [Nat.zero_add] at o8 z8
        generalize tk ++ [b] = zs at *
        have HYT : Hid (∀ k, k < zs.length → (MP.at_ zs k).py.size ≤ 1048576) := by
          show ∀ _, _
          rw [HTE8.out]; intro k hk; have : k = 0 := by simpa using hk
          subst this; exact hs
        clear hown8 hgrow8 hloc8 O8 HOD8 HOD q00 q0 q1 q2 q3 q4 q5 q6 q7 q8 q9 o0 z0 ol hs7
        have HANG : Hid _ := HANG0.out zs HTE8.out
        have HANB : Hid _ := HANB0.out zs HTE8.out
        clear HANG0 HANB0 HTE8 HTE
        go_wp2_with fail
        generalize (w8.setCell ⟨ob, 0, none⟩ (.slice va8 zs.length vc8)) = w9 at *
        have c9 := HOD8'.out.sd.arg
        have o9 := CB.c_of HOD8'.out.ob (j := 0) (v := (.slice va8 zs.length vc8)) rfl
        have z9 := CB.f_of HOD8'.out.ob (j := 0) (by simp)
        have l9 := HOD8'.out.ob.lt
        have h9 : w.heap.size < w9.heap.size := by have := HOD8'.out.sd.bx.lt; omega
        have r9 := HOD8'.out.sd.res.lt
        have O12 := MP.own_below HOD8'.out.ow ((Below.refl _ w9).drew)
        have hrun := run_append_owned_none (P := Try.prog) (w := w9.drew) (w.heap.size + 1 + 1 + 1) 27 27 24 i0 10 Try.underlying27 hi (.slice va8 zs.length vc8) zs.length (MP.flat zs) O12
        have hgrow12 : w9.drew.grownBy w9.drew (Value.ownBlock (.slice va8 zs.length vc8)) := ⟨rfl, rfl, rfl, Nat.le_refl _, fun k _ _ => rfl⟩
        have HOD12 : Hid _ := HOD8'.out.app (k0 := w9.heap.size) ((Below.refl _ w9).drew) O12 hgrow12 (.inl rfl) (Nat.le_refl _)
        have rg12 := rg_grown (HOD8'.out.ob.below ((Below.refl _ w9).drew) HOD8'.out.ob.lt) hgrow12 (fun e => HOD8'.out.ne e.symm)
        have o12 := CB.c_of rg12 (j := 0) (v := (.slice va8 zs.length vc8)) rfl
        have z12 := CB.f_of rg12 (j := 0) (by simp)
        have l12 := rg12.lt
        refine MR.frame fun A hA => ?_
        have hsz : A.tmps.size = 98 := by rw [hA]; rfl
        have e2 : A.eval (.tmp 2) = .pointer (some ⟨w.heap.size, 0, none⟩) := by rw [hA]; rfl
        have f2 := MR.read (t := 2) (by rw [hsz]; decide) e2
        have e6 : A.eval (.tmp 6) = .int .i64 0 := by rw [hA]; rfl
        have f6 := MR.read (t := 6) (by rw [hsz]; decide) e6
        have e7 : A.eval (.tmp 7) = .pointer (some ⟨ob, 0, none⟩) := by rw [hA]; rfl
        have f7 := MR.read (t := 7) (by rw [hsz]; decide) e7
        have HA : Hid (A = _) := hA
        clear hA
        refine wp_region_held (S := fun _ : World => True) (by kernel_rfl) ?_
        change wpAnyH _ _ _ _ _ _ _ _ (World.drew _)
        refine MR.takeH (i := 0) (some 85) (.pointer (some ⟨ob, 0, none⟩)) rfl rfl (by kernel_rfl) (by kernel_rfl) (by kernel_rfl) (fun _ _ _ h => h) trivial (MR.free rfl) (fun wq hw => by simp [execOp, MR.ev, MR.size, hsz, e2, f2, e6, f6, e7, f7, go_sem]) ?_
        refine MR.takeH (i := 2) (some 87) (.pointer (some ⟨w.heap.size, 0, none⟩)) rfl rfl (by kernel_rfl) (by kernel_rfl) (by kernel_rfl) (fun _ _ _ h => h) trivial (MR.free rfl) (fun wq hw => by simp [execOp, MR.ev, MR.size, hsz, e2, f2, e6, f6, e7, f7, go_sem]) ?_
        refine MR.takeH (i := 4) (some 89) (.int .i64 0) rfl rfl (by kernel_rfl) (by kernel_rfl) (by kernel_rfl) (fun _ _ _ h => h) trivial (MR.free rfl) (fun wq hw => by simp [execOp, MR.ev, MR.size, hsz, e2, f2, e6, f6, e7, f7, go_sem]) ?_
        refine MR.two (i := 1) (j := 3) (by kernel_rfl) ?_ ?_
        · refine MR.nowW (w' := World.drew w9) (some 86) ((.slice va8 zs.length vc8)) rfl rfl (MR.free rfl) (by simp [execOp, MR.ev, MR.size, hsz, e2, f2, e6, f6, e7, f7, o9, l9, go_sem]) ⟨trivial, ?_⟩
          refine MR.nowH (w' := World.drew w9) (i := 3) (some 88) ((.slice none 0 0)) (by kernel_rfl) rfl rfl (MR.free rfl) (by simp [execOp, MR.ev, MR.size, hsz, e2, f2, e6, f6, e7, f7, c9, h9, go_sem]) ⟨trivial, ?_⟩
          refine MR.nowH (w' := World.drew w9) (i := 5) (some 90) ((.slice none 0 0)) (by kernel_rfl) rfl rfl (MR.free rfl) (by simp [execOp, MR.ev, MR.size, hsz, e2, f2, e6, f6, e7, f7, go_sem]) ⟨trivial, ?_⟩
          refine MR.nowH (w' := World.drew w9) (i := 6) (some 91) (.slice va8 zs.length vc8) (by kernel_rfl) rfl rfl (MR.free rfl) (app_run rfl (by simp [MR.ev, MR.size, hsz, e2, f2, e6, f6, e7, f7]) (by simp [MR.ev, MR.size, hsz, e2, f2, e6, f6, e7, f7]) hrun) ⟨trivial, ?_⟩
          refine MR.takeH (i := 7) (some 92) (.pointer (some ⟨ob, 0, none⟩)) rfl rfl (by kernel_rfl) (by kernel_rfl) (by kernel_rfl) (fun _ _ _ h => h) trivial (MR.free rfl) (fun wq hw => by simp [execOp, MR.ev, MR.size, hsz, e2, f2, e6, f6, e7, f7, go_sem]) ?_
          refine MR.storeH (w' := (World.drew w9).setCell ⟨ob, 0, none⟩ (.slice va8 zs.length vc8)) (i := 8) (by kernel_rfl) rfl (MR.free rfl) (by simp [execOp, MR.ev, MR.size, hsz, e2, f2, e6, f6, e7, f7, o12, z12, l12, go_sem]) ⟨trivial, ?_⟩
          refine wpAnyH_done (by kernel_rfl) ?_ _
          rw [HA.out]
          simp only [Act.put, List.setIfInBounds_toArray, List.set_cons_succ, List.set_cons_zero, List.getElem_toArray, List.getElem_cons_succ, List.getElem_cons_zero]
          go_wp2_with fail
          rw [show (w9.setCell ⟨ob, 0, none⟩ (.slice va8 zs.length vc8)).drew = (World.drew w9).setCell ⟨ob, 0, none⟩ (.slice va8 zs.length vc8) from rfl]
          generalize (World.drew w9).setCell ⟨ob, 0, none⟩ (.slice va8 zs.length vc8) = w13 at *
          obtain ⟨hrow, hcap⟩ := HOD12.out.row
          have GP13 : Hid _ := specGoodPile_any va8 vc8 zs w13 (by omega) HYT hrow hcap
          have HOR : Hid _ := HOD12.out.ob.rng
          have hsr := HOD12.out.sd.res.lt
          clear hrow HYT rg12 o12 z12 l12 hrun hgrow12 O12 HOD8' o9 z9 c9 l9 h9 r9 HA e2 e6 e7 f2 f6 f7 hsz
          go_wp2_with (refine MA.load_g rfl 31 _ rfl rfl (cs := [.slice va8 zs.length vc8]) ?_ Try.underlying31 rfl Try.sizePileAS rfl ?_; exact HOR.out)
          refine Calls.mono GP13.out ?_
          rintro e w14 ⟨rfl, hb14⟩
          replace HOD12 : Hid _ := HOD12.out.kept hb14
          clear GP13 HOR hb14
          cases hgy : PL.good zs with
          | false =>
            have HANS : Hid _ := HANB.out hgy
            clear hgy HANB HANG
            go_wp2_with (refine MA.store_m rfl 31 _ _ rfl rfl rfl (cs := [.slice none 0 0]) ?_ Try.sizePileAS rfl rfl (by simp [Value.oneCell']) ?_; exact HOD12.out.sd.res)
            exact bodyPost_ret (MA.ret_cell2 rfl rfl rfl (MA.load_rg (HOD12.out.sd.res.put (vs := [.slice none 0 0]) rfl) Try.underlying31 rfl Try.sizePileAS rfl)) rfl ⟨none, 0, by rw [HANS.out]; rfl, by rw [HANS.out]; exact World.ownsRow_nil _ _ _ _, MA.below_cells (by omega) _ _ _ HOD12.out.sd.below⟩
          | true =>
            have HANS : Hid _ := HANG.out hgy
            have HOR : Hid _ := HOD12.out.ob.rng
            clear hgy HANB HANG
            go_wp2_with (first
              | (refine MA.load_g rfl 31 _ rfl rfl (cs := [.slice va8 zs.length vc8]) ?_ Try.underlying31 rfl Try.sizePileAS rfl ?_; exact HOR.out)
              | (refine MA.store_m rfl 31 _ _ rfl rfl rfl (cs := [.slice none 0 0]) ?_ Try.sizePileAS rfl rfl (by simp [Value.oneCell']) ?_; exact HOD12.out.sd.res))
            exact bodyPost_ret (MA.ret_cell2 rfl rfl rfl (MA.load_rg (HOD12.out.sd.res.put (vs := [.slice va8 zs.length vc8]) rfl) Try.underlying31 rfl Try.sizePileAS rfl)) rfl ⟨va8, vc8, by rw [HANS.out]; rfl, by rw [HANS.out]; exact HOD12.out.ret, MA.below_cells (by omega) _ _ _ HOD12.out.sd.below⟩
        · refine MR.nowW (w' := World.drew w9) (some 88) ((.slice none 0 0)) rfl rfl (MR.free rfl) (by simp [execOp, MR.ev, MR.size, hsz, e2, f2, e6, f6, e7, f7, c9, h9, go_sem]) ⟨trivial, ?_⟩
          refine MR.takeH (i := 5) (some 90) ((.slice none 0 0)) rfl rfl (by kernel_rfl) (by kernel_rfl) (by kernel_rfl) (fun _ _ _ h => h) trivial (MR.free rfl) (fun wq hw => by simp [execOp, MR.ev, MR.size, hsz, e2, f2, e6, f6, e7, f7, go_sem]) ?_
          refine MR.nowH (w' := World.drew w9) (i := 1) (some 86) ((.slice va8 zs.length vc8)) (by kernel_rfl) rfl rfl (MR.free rfl) (by simp [execOp, MR.ev, MR.size, hsz, e2, f2, e6, f6, e7, f7, o9, l9, go_sem]) ⟨trivial, ?_⟩
          refine MR.nowH (w' := World.drew w9) (i := 6) (some 91) (.slice va8 zs.length vc8) (by kernel_rfl) rfl rfl (MR.free rfl) (app_run rfl (by simp [MR.ev, MR.size, hsz, e2, f2, e6, f6, e7, f7]) (by simp [MR.ev, MR.size, hsz, e2, f2, e6, f6, e7, f7]) hrun) ⟨trivial, ?_⟩
          refine MR.takeH (i := 7) (some 92) (.pointer (some ⟨ob, 0, none⟩)) rfl rfl (by kernel_rfl) (by kernel_rfl) (by kernel_rfl) (fun _ _ _ h => h) trivial (MR.free rfl) (fun wq hw => by simp [execOp, MR.ev, MR.size, hsz, e2, f2, e6, f6, e7, f7, go_sem]) ?_
          refine MR.storeH (w' := (World.drew w9).setCell ⟨ob, 0, none⟩ (.slice va8 zs.length vc8)) (i := 8) (by kernel_rfl) rfl (MR.free rfl) (by simp [execOp, MR.ev, MR.size, hsz, e2, f2, e6, f6, e7, f7, o12, z12, l12, go_sem]) ⟨trivial, ?_⟩
          refine wpAnyH_done (by kernel_rfl) ?_ _
          rw [HA.out]
          simp only [Act.put, List.setIfInBounds_toArray, List.set_cons_succ, List.set_cons_zero, List.getElem_toArray, List.getElem_cons_succ, List.getElem_cons_zero]
          go_wp2_with fail
          rw [show (w9.setCell ⟨ob, 0, none⟩ (.slice va8 zs.length vc8)).drew = (World.drew w9).setCell ⟨ob, 0, none⟩ (.slice va8 zs.length vc8) from rfl]
          generalize (World.drew w9).setCell ⟨ob, 0, none⟩ (.slice va8 zs.length vc8) = w13 at *
          obtain ⟨hrow, hcap⟩ := HOD12.out.row
          have GP13 : Hid _ := specGoodPile_any va8 vc8 zs w13 (by omega) HYT hrow hcap
          have HOR : Hid _ := HOD12.out.ob.rng
          have hsr := HOD12.out.sd.res.lt
          clear hrow HYT rg12 o12 z12 l12 hrun hgrow12 O12 HOD8' o9 z9 c9 l9 h9 r9 HA e2 e6 e7 f2 f6 f7 hsz
          go_wp2_with (refine MA.load_g rfl 31 _ rfl rfl (cs := [.slice va8 zs.length vc8]) ?_ Try.underlying31 rfl Try.sizePileAS rfl ?_; exact HOR.out)
          refine Calls.mono GP13.out ?_
          rintro e w14 ⟨rfl, hb14⟩
          replace HOD12 : Hid _ := HOD12.out.kept hb14
          clear GP13 HOR hb14
          cases hgy : PL.good zs with
          | false =>
            have HANS : Hid _ := HANB.out hgy
            clear hgy HANB HANG
            go_wp2_with (refine MA.store_m rfl 31 _ _ rfl rfl rfl (cs := [.slice none 0 0]) ?_ Try.sizePileAS rfl rfl (by simp [Value.oneCell']) ?_; exact HOD12.out.sd.res)
            exact bodyPost_ret (MA.ret_cell2 rfl rfl rfl (MA.load_rg (HOD12.out.sd.res.put (vs := [.slice none 0 0]) rfl) Try.underlying31 rfl Try.sizePileAS rfl)) rfl ⟨none, 0, by rw [HANS.out]; rfl, by rw [HANS.out]; exact World.ownsRow_nil _ _ _ _, MA.below_cells (by omega) _ _ _ HOD12.out.sd.below⟩
          | true =>
            have HANS : Hid _ := HANG.out hgy
            have HOR : Hid _ := HOD12.out.ob.rng
            clear hgy HANB HANG
            go_wp2_with (first
              | (refine MA.load_g rfl 31 _ rfl rfl (cs := [.slice va8 zs.length vc8]) ?_ Try.underlying31 rfl Try.sizePileAS rfl ?_; exact HOR.out)
              | (refine MA.store_m rfl 31 _ _ rfl rfl rfl (cs := [.slice none 0 0]) ?_ Try.sizePileAS rfl rfl (by simp [Value.oneCell']) ?_; exact HOD12.out.sd.res))
            exact bodyPost_ret (MA.ret_cell2 rfl rfl rfl (MA.load_rg (HOD12.out.sd.res.put (vs := [.slice va8 zs.length vc8]) rfl) Try.underlying31 rfl Try.sizePileAS rfl)) rfl ⟨va8, vc8, by rw [HANS.out]; rfl, by rw [HANS.out]; exact HOD12.out.ret, MA.below_cells (by omega) _ _ _ HOD12.out.sd.below⟩
/-- .. at the pile with a row of its own, or without. -/
theorem specAddO_any (B : Nat) (u : Value) (xs : List Bd) (b : Bd) (w : World) (hn : xs.length ≤ 1048576) (hs : b.py.size ≤ 1048576) (ht : Hid (∀ k, k < xs.length → (MP.at_ xs k).py.size ≤ 1048576)) (hin : w.ownsRow B 24 10 u xs.length (MP.flat xs)) :
    Calls Try.prog 18 #[.agg #[u], .agg b.cs.toArray] w fun e w' => ∃ a1 c1, e = .returned (.tuple #[.agg #[.slice a1 (PD.ansS xs b).1.length c1], .bool (PD.ansS xs b).2]) ∧ w'.ownsRow w.heap.size 24 10 (.slice a1 (PD.ansS xs b).1.length c1) (PD.ansS xs b).1.length (MP.flat (PD.ansS xs b).1) ∧ Below w.heap.size w w' := by
  rcases hin.2 with ⟨rfl, h0⟩ | ⟨g, cap, cur, rfl, hb, hg, hc1, hc2, hc3, hc4⟩
  · obtain rfl : xs = [] := List.eq_nil_of_length_eq_zero h0
    exact specAddN_any b w hs
  · exact specAddC_any cap g xs b w hc1 hn hs ht (MP.BsAt.of_own hin)
end Go.Proofs.Ytdgflhgbcfehhaa

/- The cursor's pile. -/
namespace Go.Proofs.Ytdgflhgbcfehhaa
open Go.RowKit
theorem two_at (w : World) : StrsAt (w.alloc (.cells #[.string ⟨#[]⟩, .string ⟨#[122, 122]⟩] 9)) w.heap.size 0 [⟨#[]⟩, ⟨#[122, 122]⟩] := by
  refine ⟨by simp, fun j hj => ?_⟩
  rw [Nat.zero_add, World.cell?_alloc_at _ _ _ _ (by rfl)]
  have : j < 2 := hj
  match j, this with
  | 0, _ | 1, _ => rfl
set_option linter.unusedSimpArgs false in
set_option maxHeartbeats 12800000 in
set_option maxRecDepth 100000 in
theorem curPile_any (p : Nat) (a : Option Addr) (zs : List Int) (cap M : Nat) (w : World) (hz : zs.length ≤ 140737488355328) (hM : M ≤ 140737488310000) (hc : MC.Cur w p a zs cap M) :
    Calls Try.prog 50 #[.pointer (some ⟨p, 0, none⟩)] w fun e w' => ∃ (u U : Value) (xs L : List Bd), e = .returned (.tuple #[.agg #[u], U]) ∧ w'.ownsRow w.heap.size 24 10 u xs.length (MP.flat xs) ∧ w'.ownsRow w.heap.size 24 10 U L.length (MP.flat L) ∧ xs.length ≤ 60 ∧ L.length ≤ 122 ∧ (∀ x ∈ xs, x.py.size ≤ 61) ∧ (∀ x ∈ L, x.py.size ≤ 61) ∧ MC.Cur w' p a zs cap (M + 400) ∧ MC.Only p w w' := by
  obtain ⟨i0, hi, hz0, hz1, hz2⟩ := info_parts Try.infoBundleS
  have hplt := hc.lt
  have hres := MA.Rg.new w [.slice none 0 0] 31
  have hor := (MC.Only.refl p w).alloc (.cells #[.slice none 0 0] 31)
  replace hc := hc.alloc (.cells #[.slice none 0 0] 31)
  go_enter Try.func50, Try.ntmps50
  go_wp2_with fail
  obtain ⟨r, hr⟩ : ∃ r, w.heap.size = r := ⟨_, rfl⟩
  have hsz0 : (w.alloc (.cells #[.slice none 0 0] 31)).heap.size = r + 1 := by simp [hr]
  generalize w.alloc (.cells #[.slice none 0 0] 31) = w0 at *
  rw [hr] at hres hplt ⊢
  refine (wholeBundle_any p a zs cap M _ hz (by omega) hc).mono ?_
  rintro e w1 ⟨b, rfl, hpb, -, -, hc1, ho1⟩
  replace hres := PY.rg_only hres ho1 (by omega)
  replace hor := hor.trans ho1
  have hsz1 := ho1.size
  clear hc ho1
  have hc := hc1
  clear hc1
  have hbx := MA.Rg.new w1 b.cs 24
  have hsz2 : (w1.alloc (.cells b.cs.toArray 24)).heap.size = w1.heap.size + 1 := by simp
  replace hres := hres.alloc (.cells b.cs.toArray 24)
  replace hc := hc.alloc (.cells b.cs.toArray 24)
  replace hor := hor.alloc (.cells b.cs.toArray 24)
  simp only [Bd.cs] at hbx hres hc hor hsz2
  go_wp2
  generalize w1.alloc (.cells #[.int .i64 b.fr, .int .i64 b.to, .bool b.gr, .int .i64 b.md, .int .i64 b.no, .int .i64 b.lf, .int .i64 b.hp, .int .i64 b.of, .int .i64 b.tl, .string b.py] 24) = w2 at *
  obtain ⟨bq, hbq⟩ : ∃ q, w1.heap.size = q := ⟨_, rfl⟩
  rw [hbq] at hbx hsz1 hsz2 ⊢
  change MA.Rg w2 bq 0 b.cs at hbx
  clear hbq
  refine MR.frame fun A hA => ?_
  have hsz : A.tmps.size = 102 := by rw [hA]; rfl
  have e0 : A.eval (.tmp 0) = .pointer (some ⟨p, 0, none⟩) := by rw [hA]; rfl
  have f0 := MR.read (t := 0) (by rw [hsz]; decide) e0
  have e4 : A.eval (.tmp 4) = .pointer (some ⟨bq, 0, none⟩) := by rw [hA]; rfl
  have f4 := MR.read (t := 4) (by rw [hsz]; decide) e4
  have HA : Hid (A = _) := hA
  clear hA
  have hS : (fun w' => MA.Rg w' bq 0 b.cs) (World.drew _) := hbx.drew
  refine wp_region_held (S := fun w' => MA.Rg w' bq 0 b.cs) (by kernel_rfl) ?_
  change wpAnyH _ _ _ _ _ _ _ _ (World.drew _)
  refine MR.takeH (i := 0) (some 19) (b.v) rfl rfl (by kernel_rfl) (by kernel_rfl) (by kernel_rfl) (fun _ _ _ h => h) hS (MR.free rfl) (fun wq hw => MA.ex_load rfl (by simp [MR.ev, MR.size, hsz, e0, f0, e4, f4]) hw.rng Try.underlying24 rfl Try.sizeBundle rfl) ?_
  refine MR.takeH (i := 1) (some 20) (.pointer (some ⟨p, 0, none⟩)) rfl rfl (by kernel_rfl) (by kernel_rfl) (by kernel_rfl) (fun _ _ _ h => h) hS (MR.free rfl) (fun wq hw => by simp [execOp, MR.ev, MR.size, hsz, e0, f0, e4, f4, go_sem]) ?_
  refine MR.callH (i := 2) (some 21) (49) (#[.pointer (some ⟨p, 0, none⟩), .int .i64 8]) (by kernel_rfl) rfl rfl (MR.free rfl) (by simp [execOp, MR.ev, MR.size, hsz, e0, f0, e4, f4, go_sem]) ?_
  refine Calls.mono (pick_any p a zs cap (M + 60) 8 _ hz (by omega) (hc.below ((Below.refl _ w2).drew))) ?_
  rintro e u1 ⟨y1, rfl, hry1, hxy1, hc1, ho1⟩
  have hS3 : MA.Rg u1 bq 0 b.cs := PY.rg_only hS ho1 (by omega)
  refine ⟨_, rfl, hS3, ?_⟩
  have hw1 : IntKind.i64.wrap (1 + (y1 : Int)) = 1 + (y1 : Int) := by rw [IntKind.wrap_i64]; omega
  refine MR.takeH (i := 3) (some 22) (.int .i64 (1 + (y1 : Int))) rfl rfl (by kernel_rfl) (by kernel_rfl) (by kernel_rfl) (fun _ _ _ h => h) hS3 (MR.free rfl) (fun wq hw => by simp [execOp, MR.ev, MR.size, hsz, e0, f0, e4, f4, hw1, go_sem]) ?_
  refine MR.callH (i := 4) (some 23) (7) (#[b.v, .int .i64 (1 + (y1 : Int))]) (by kernel_rfl) rfl rfl (MR.free rfl) (by simp [execOp, MR.ev, MR.size, hsz, e0, f0, e4, f4, go_sem]) ?_
  refine Calls.mono (specCutB_any b (1 + (y1 : Int)) _ (by omega)) ?_
  rintro e v1 ⟨al1, cl1, rfl, hol1, hb1⟩
  have hS4 : MA.Rg v1 bq 0 b.cs := hS3.below hb1 hS3.lt
  refine ⟨_, rfl, hS4, ?_⟩
  have hL1 := CB.res_len b (1 + (y1 : Int)) hpb
  have HP1 : Hid (∀ c ∈ CB.res b (1 + (y1 : Int)), c.py.size ≤ 61) := CB.res_py b _ hpb
  generalize CB.res b (1 + (y1 : Int)) = L1 at *
  generalize CB.ok b (1 + (y1 : Int)) = ok1 at *
  refine MR.takeH (i := 5) (some 18) (.tuple #[.slice al1 L1.length cl1, .bool ok1]) rfl rfl (by kernel_rfl) (by kernel_rfl) (by kernel_rfl) (fun _ _ _ h => h) hS4 (MR.free rfl) (fun wq hw => by simp [execOp, MR.ev, MR.size, hsz, e0, f0, e4, f4, go_sem]) ?_
  refine MR.takeH (i := 6) (some 24) (.slice al1 L1.length cl1) rfl rfl (by kernel_rfl) (by kernel_rfl) (by kernel_rfl) (fun _ _ _ h => h) hS4 (MR.free rfl) (fun wq hw => by simp [execOp, MR.ev, MR.size, hsz, e0, f0, e4, f4, go_sem]) ?_
  refine MR.takeH (i := 7) (some 25) (.bool ok1) rfl rfl (by kernel_rfl) (by kernel_rfl) (by kernel_rfl) (fun _ _ _ h => h) hS4 (MR.free rfl) (fun wq hw => by simp [execOp, MR.ev, MR.size, hsz, e0, f0, e4, f4, go_sem]) ?_
  refine MR.takeH (i := 8) (some 5) (.slice al1 L1.length cl1) rfl rfl (by kernel_rfl) (by kernel_rfl) (by kernel_rfl) (fun _ _ _ h => h) hS4 (MR.free rfl) (fun wq hw => by simp [execOp, MR.ev, MR.size, hsz, e0, f0, e4, f4, go_sem]) ?_
  refine MR.takeH (i := 9) (some 6) (.bool ok1) rfl rfl (by kernel_rfl) (by kernel_rfl) (by kernel_rfl) (fun _ _ _ h => h) hS4 (MR.free rfl) (fun wq hw => by simp [execOp, MR.ev, MR.size, hsz, e0, f0, e4, f4, go_sem]) ?_
  refine wpAnyH_done (by kernel_rfl) ?_ _
  rw [HA.out]
  simp only [Act.put, List.setIfInBounds_toArray, List.set_cons_succ, List.set_cons_zero]
  have hsU1 := ho1.size
  have hsV1 := hb1.size
  replace hor := ((hor.trans (MC.Only.of_below ((Below.refl _ w2).drew))).trans ho1).trans (MC.Only.of_below hb1)
  replace hres := (PY.rg_only hres.drew ho1 (by omega)).below hb1 (by have := hres.lt; have : (World.drew w2).heap.size = w2.heap.size := rfl; omega)
  replace hc := hc1.below hb1
  have hs1d' : (World.drew w2).heap.size = w2.heap.size := rfl
  clear hbx hS hS3 hb1 ho1 hc1 HA e0 f0 e4 f4 hsz hry1 hxy1 hw1
  have hbx := hS4
  clear hS4
  go_wp2
  refine MR.frame fun A hA => ?_
  have hsz : A.tmps.size = 102 := by rw [hA]; rfl
  have e0 : A.eval (.tmp 0) = .pointer (some ⟨p, 0, none⟩) := by rw [hA]; rfl
  have f0 := MR.read (t := 0) (by rw [hsz]; decide) e0
  have e4 : A.eval (.tmp 4) = .pointer (some ⟨bq, 0, none⟩) := by rw [hA]; rfl
  have f4 := MR.read (t := 4) (by rw [hsz]; decide) e4
  have HA : Hid (A = _) := hA
  clear hA
  have hS : (fun w' => MA.Rg w' bq 0 b.cs) (World.drew _) := hbx.drew
  refine wp_region_held (S := fun w' => MA.Rg w' bq 0 b.cs) (by kernel_rfl) ?_
  change wpAnyH _ _ _ _ _ _ _ _ (World.drew _)
  refine MR.takeH (i := 0) (some 27) (b.v) rfl rfl (by kernel_rfl) (by kernel_rfl) (by kernel_rfl) (fun _ _ _ h => h) hS (MR.free rfl) (fun wq hw => MA.ex_load rfl (by simp [MR.ev, MR.size, hsz, e0, f0, e4, f4]) hw.rng Try.underlying24 rfl Try.sizeBundle rfl) ?_
  refine MR.takeH (i := 1) (some 28) (.pointer (some ⟨p, 0, none⟩)) rfl rfl (by kernel_rfl) (by kernel_rfl) (by kernel_rfl) (fun _ _ _ h => h) hS (MR.free rfl) (fun wq hw => by simp [execOp, MR.ev, MR.size, hsz, e0, f0, e4, f4, go_sem]) ?_
  refine MR.callH (i := 2) (some 29) (49) (#[.pointer (some ⟨p, 0, none⟩), .int .i64 8]) (by kernel_rfl) rfl rfl (MR.free rfl) (by simp [execOp, MR.ev, MR.size, hsz, e0, f0, e4, f4, go_sem]) ?_
  refine Calls.mono (pick_any p a zs cap (M + 62) 8 _ hz (by omega) (hc.below ((Below.refl _ v1).drew))) ?_
  rintro e u2 ⟨y2, rfl, hry2, hxy2, hc2, ho2⟩
  have hS3 : MA.Rg u2 bq 0 b.cs := PY.rg_only hS ho2 (by omega)
  refine ⟨_, rfl, hS3, ?_⟩
  have hw2 : IntKind.i64.wrap (3 + (y2 : Int)) = 3 + (y2 : Int) := by rw [IntKind.wrap_i64]; omega
  refine MR.takeH (i := 3) (some 30) (.int .i64 (3 + (y2 : Int))) rfl rfl (by kernel_rfl) (by kernel_rfl) (by kernel_rfl) (fun _ _ _ h => h) hS3 (MR.free rfl) (fun wq hw => by simp [execOp, MR.ev, MR.size, hsz, e0, f0, e4, f4, hw2, go_sem]) ?_
  refine MR.callH (i := 4) (some 31) (7) (#[b.v, .int .i64 (3 + (y2 : Int))]) (by kernel_rfl) rfl rfl (MR.free rfl) (by simp [execOp, MR.ev, MR.size, hsz, e0, f0, e4, f4, go_sem]) ?_
  refine Calls.mono (specCutB_any b (3 + (y2 : Int)) _ (by omega)) ?_
  rintro e v2 ⟨al2, cl2, rfl, hol2, hb2⟩
  have hS4 : MA.Rg v2 bq 0 b.cs := hS3.below hb2 hS3.lt
  refine ⟨_, rfl, hS4, ?_⟩
  have hL2 := CB.res_len b (3 + (y2 : Int)) hpb
  have HP2 : Hid (∀ c ∈ CB.res b (3 + (y2 : Int)), c.py.size ≤ 61) := CB.res_py b _ hpb
  generalize CB.res b (3 + (y2 : Int)) = L2 at *
  generalize CB.ok b (3 + (y2 : Int)) = ok2 at *
  refine MR.takeH (i := 5) (some 26) (.tuple #[.slice al2 L2.length cl2, .bool ok2]) rfl rfl (by kernel_rfl) (by kernel_rfl) (by kernel_rfl) (fun _ _ _ h => h) hS4 (MR.free rfl) (fun wq hw => by simp [execOp, MR.ev, MR.size, hsz, e0, f0, e4, f4, go_sem]) ?_
  refine MR.takeH (i := 6) (some 32) (.slice al2 L2.length cl2) rfl rfl (by kernel_rfl) (by kernel_rfl) (by kernel_rfl) (fun _ _ _ h => h) hS4 (MR.free rfl) (fun wq hw => by simp [execOp, MR.ev, MR.size, hsz, e0, f0, e4, f4, go_sem]) ?_
  refine MR.takeH (i := 7) (some 33) (.bool ok2) rfl rfl (by kernel_rfl) (by kernel_rfl) (by kernel_rfl) (fun _ _ _ h => h) hS4 (MR.free rfl) (fun wq hw => by simp [execOp, MR.ev, MR.size, hsz, e0, f0, e4, f4, go_sem]) ?_
  refine MR.takeH (i := 8) (some 7) (.slice al2 L2.length cl2) rfl rfl (by kernel_rfl) (by kernel_rfl) (by kernel_rfl) (fun _ _ _ h => h) hS4 (MR.free rfl) (fun wq hw => by simp [execOp, MR.ev, MR.size, hsz, e0, f0, e4, f4, go_sem]) ?_
  refine MR.takeH (i := 9) (some 8) (.bool ok2) rfl rfl (by kernel_rfl) (by kernel_rfl) (by kernel_rfl) (fun _ _ _ h => h) hS4 (MR.free rfl) (fun wq hw => by simp [execOp, MR.ev, MR.size, hsz, e0, f0, e4, f4, go_sem]) ?_
  refine wpAnyH_done (by kernel_rfl) ?_ _
  rw [HA.out]
  simp only [Act.put, List.setIfInBounds_toArray, List.set_cons_succ, List.set_cons_zero]
  have hsU2 := ho2.size
  have hsV2 := hb2.size
  replace hor := ((hor.trans (MC.Only.of_below ((Below.refl _ v1).drew))).trans ho2).trans (MC.Only.of_below hb2)
  replace hres := (PY.rg_only hres.drew ho2 (by omega)).below hb2 (by have := hres.lt; have : (World.drew v1).heap.size = v1.heap.size := rfl; omega)
  replace hc := hc2.below hb2
  have hs2d : (World.drew v1).heap.size = v1.heap.size := rfl
  replace hol1 := MP.own_below (MC.own_only (MP.own_below hol1 ((Below.refl _ v1).drew)) ho2 (by omega)) hb2
  have hs2d' : (World.drew v1).heap.size = v1.heap.size := rfl
  clear hbx hS hS3 hb2 ho2 hc2 HA e0 f0 e4 f4 hsz hry2 hxy2 hw2
  clear hS4
  have HW1 : Hid (v2.ownsRow u1.heap.size 24 10 (.slice al1 L1.length cl1) L1.length (MP.flat L1)) := hol1
  have HW2 : Hid (v2.ownsRow u2.heap.size 24 10 (.slice al2 L2.length cl2) L2.length (MP.flat L2)) := hol2
  have h1b : ∀ k, (Value.slice al1 L1.length cl1).ownBlock = some k → u1.heap.size ≤ k ∧ k < v2.heap.size := hol1.lt
  clear hol1 hol2
  go_wp2_with (at_builtin; go_loud (refine PY.wp_app2 rfl _ _ 27 rfl u1.heap.size 24 i0 (.agg (Bd.cs B1.zero).toArray) 10 88 Try.underlying27 hi hz0 hz1 hz2 rfl (by decide) _ _ _ rfl HW1.out _ _ _ _ rfl HW2.out ?p0 ?p1 ?p2 ?p3 ?_))
  case p0 => exact PC.flat_one _
  case p1 => unfold maxLen; omega
  case p2 => omega
  case p3 => omega
  intro A5 w5 hA5 hg5 hl5
  have O5 : w5.ownsRow u1.heap.size 24 10 A5 (L1 ++ L2).length (MP.flat (L1 ++ L2)) := by rw [List.length_append, MP.flat_app]; exact hA5
  have hLL : (L1 ++ L2).length ≤ 122 := by rw [List.length_append]; omega
  have HPL : Hid (∀ x ∈ L1 ++ L2, x.py.size ≤ 61) := fun x hx => by
    rcases List.mem_append.1 hx with h | h
    · exact HP1.out x h
    · exact HP2.out x h
  replace hor := hor.grown hg5 (fun k hk => by have := (h1b k hk).1; omega)
  replace hc := hc.grown hg5 (fun k hk => by have := (h1b k hk).1; omega)
  have hB5 : Below u1.heap.size v2 w5 := (Below.refl u1.heap.size v2).grown hg5 (by omega) (fun k hk => (h1b k hk).1)
  replace hres := hres.below hB5 (by omega)
  generalize L1 ++ L2 = L at *
  obtain ⟨aL, cL, rfl, hLb⟩ := CB.view O5
  have hs5 := hB5.size
  clear h1b hg5 hl5 hA5 hB5 HW1 HW2 HP1 HP2 hL1 hL2
  obtain ⟨q, hq⟩ : ∃ q, w5.heap.size = q := ⟨_, rfl⟩
  have HPS : Hid (PY.PS w (w5.alloc (.cells #[.slice none 0 0] 31)) p a zs cap (M + 64) r q (.slice aL L.length cL) L (.slice none 0 0) []) := by
    have hbox := MA.Rg.new' w5 [.slice none 0 0] 31 q hq.symm
    have hOl := O5.lt
    exact ⟨hc.alloc _, hor.alloc _, by omega, CB.own_mono (O5.alloc _) (by omega), hres.alloc _, hbox, World.ownsRow_nil _ _ _ _, by omega, by omega, by omega, by simp [Value.ownBlock], by simp [Value.ownBlock], fun e => by have := (hOl _ e).2; omega, fun e => by have := (hOl _ e).1; omega, .inl rfl⟩
  clear hc hor hres O5 hLb
  go_wp2_with fail
  try rw [hq]
  generalize w5.alloc (.cells #[.slice none 0 0] 31) = w6 at *
  clear hq hs5 hs2d hs2d' hsU1 hsV1 hsU2 hsV2 hs1d' hsz1 hsz2 hsz0
  go_loopw [40] (fun iv wr => ∃ (k : Nat) (u : Value) (xs : List Bd), iv = .int .i64 k ∧ k ≤ L.length ∧ PY.PS w wr p a zs cap (M + 64 + 2 * k) r q (.slice aL L.length cL) L u xs ∧ xs.length ≤ 60 ∧ (∀ x ∈ xs, x.py.size ≤ 61)) (fun iv _ => (L.length - intOf iv).toNat)
  case atStart => exact ⟨0, _, [], rfl, by omega, HPS.out, by simp, by simp⟩
  case round =>
    clear HPS
    obtain ⟨k, u, xs, rfl, hk, hP, hxl, hxp⟩ := hrel
    have HP : Hid _ := hP
    clear hP
    have HXP : Hid _ := hxp
    clear hxp
    by_cases hl : k < L.length
    · obtain ⟨g, off, hab, hgl, hYr⟩ := MA.row_range (by obtain ⟨a1, c1, e1, hb⟩ := CB.view HP.out.all; injection e1 with e _ _; rw [e]; exact hb : MP.BsAt wr aL L) hl
      obtain ⟨x, hx⟩ : ∃ x, MP.at_ L k = x := ⟨_, rfl⟩
      rw [hx] at hYr
      have hpx : x.py.size ≤ 61 := hx ▸ HPL.out _ (by rw [MP.at_eq L k hl]; exact List.getElem_mem hl)
      clear hx
      subst hab
      obtain ⟨x0, x1, x2, x3, x4, x5, x6, x7, x8, x9⟩ := x
      go_wp2_with (refine MA.load_g rfl 24 _ rfl rfl (cs := [.int .i64 x0, .int .i64 x1, .bool x2, .int .i64 x3, .int .i64 x4, .int .i64 x5, .int .i64 x6, .int .i64 x7, .int .i64 x8, .string x9]) ?_ Try.underlying24 rfl Try.sizeBundle rfl ?_; exact hYr)
      have HP1 : Hid _ := HP.out.kept ((Below.refl _ wr).alloc (Nat.le_refl _) (.cells #[.int .i64 x0, .int .i64 x1, .bool x2, .int .i64 x3, .int .i64 x4, .int .i64 x5, .int .i64 x6, .int .i64 x7, .int .i64 x8, .string x9] 24))
      have hbx := MA.Rg.new wr [.int .i64 x0, .int .i64 x1, .bool x2, .int .i64 x3, .int .i64 x4, .int .i64 x5, .int .i64 x6, .int .i64 x7, .int .i64 x8, .string x9] 24
      have hxp' : wr.heap.size ≠ p := by have := HP.out.cur.lt; omega
      obtain ⟨xq, hxq⟩ : ∃ q, wr.heap.size = q := ⟨_, rfl⟩
      rw [hxq] at hbx hxp' ⊢
      generalize wr.alloc (.cells #[.int .i64 x0, .int .i64 x1, .bool x2, .int .i64 x3, .int .i64 x4, .int .i64 x5, .int .i64 x6, .int .i64 x7, .int .i64 x8, .string x9] 24) = wx at *
      clear HP hYr hgl hxq
      refine (one_any p a zs cap (M + 64 + 2 * k) 3 _ hz (by omega) HP1.out.cur).mono ?_
      rintro e w7 ⟨b7, rfl, hc7, ho7⟩
      have HP7 : Hid _ := HP1.out.drawn hc7 ho7
      have hbx7 := PY.rg_only hbx ho7 hxp'
      clear HP1 hbx hc7 ho7 hxp'
      cases b7
      case true =>
        clear hbx7
        go_wp2
        go_roundw
        case rel => exact ⟨k + 1, u, xs, by go_num, by omega, HP7.out.more (by omega), hxl, HXP.out⟩
        case measure => simp [intOf]; omega
      case false =>
        have HR0 : Hid (w7.rangeAt q 0 [u]) := HP7.out.box.rng
        have HR1 : Hid (w7.rangeAt xq 0 [.int .i64 x0, .int .i64 x1, .bool x2, .int .i64 x3, .int .i64 x4, .int .i64 x5, .int .i64 x6, .int .i64 x7, .int .i64 x8, .string x9]) := hbx7.rng
        clear hbx7
        go_wp2_with (first
          | (refine MA.load_g rfl 31 _ rfl rfl (cs := [u]) ?_ Try.underlying31 rfl Try.sizePileAS rfl ?_; exact HR0.out)
          | (refine MA.load_g rfl 24 _ rfl rfl (cs := [.int .i64 x0, .int .i64 x1, .bool x2, .int .i64 x3, .int .i64 x4, .int .i64 x5, .int .i64 x6, .int .i64 x7, .int .i64 x8, .string x9]) ?_ Try.underlying24 rfl Try.sizeBundle rfl ?_; exact HR1.out))
        refine (specAddO_any w.heap.size u xs ⟨x0, x1, x2, x3, x4, x5, x6, x7, x8, x9⟩ w7 (by omega) (by show x9.size ≤ _; have : x9.size ≤ 61 := hpx; omega) (PY.small HXP.out) HP7.out.row).mono ?_
        clear HR0 HR1
        have HGL : Hid ((PD.ansS xs ⟨x0, x1, x2, x3, x4, x5, x6, x7, x8, x9⟩).2 = true → (PD.ansS xs ⟨x0, x1, x2, x3, x4, x5, x6, x7, x8, x9⟩).1.length ≤ 60) := fun h => PY.good_len (PY.ansS_good h)
        have HGM : Hid (∀ x ∈ (PD.ansS xs ⟨x0, x1, x2, x3, x4, x5, x6, x7, x8, x9⟩).1, x.py.size ≤ 61) := fun x hx => by
          rcases PY.ansS_mem hx with h | h
          · exact HXP.out x h
          · rw [h]; exact hpx
        generalize PD.ansS xs ⟨x0, x1, x2, x3, x4, x5, x6, x7, x8, x9⟩ = R at *
        obtain ⟨ys, ok⟩ := R
        rintro e w8 ⟨a8, c8, rfl, ho8, hb8⟩
        have hq7 := HP7.out.box.lt
        have hr7 := HP7.out.res.lt
        have hA7 : ∀ j, (Value.slice (some ⟨g, off, none⟩) L.length cL).ownBlock = some j → j < w7.heap.size := fun j hj => (HP7.out.all.lt j hj).2
        have hw7 : w.heap.size ≤ w7.heap.size := HP7.out.only.size
        have HP8 : Hid _ := (HP7.out.kept hb8).kept ((Below.refl _ w8).alloc (Nat.le_refl _) (.cells #[.slice a8 ys.length c8] 31))
        have HO8 : Hid ((w8.alloc (.cells #[.slice a8 ys.length c8] 31)).ownsRow w7.heap.size 24 10 (.slice a8 ys.length c8) ys.length (MP.flat ys)) := World.ownsRow.alloc ho8 _
        have hbx8 := MA.Rg.new w8 [.slice a8 ys.length c8] 31
        clear ho8 hb8 HP7
        cases ok
        case false =>
          clear HGL HGM HO8 hbx8 hq7 hr7 hA7 hw7
          go_wp2
          go_roundw
          case rel => exact ⟨k + 1, u, xs, by go_num, by omega, HP8.out.more (by omega), hxl, HXP.out⟩
          case measure => simp [intOf]; omega
        case true =>
          have hyl := HGL.out rfl
          have HPE : Hid _ := HP8.out.put HO8.out hw7 hr7 hq7 hA7
          have c10 := CB.c_of HP8.out.box (j := 0) (v := u) rfl
          have f10 := CB.f_of HP8.out.box (j := 0) (by simp)
          have l10 := HP8.out.box.lt
          have c13 := CB.c_of hbx8 (j := 0) (v := .slice a8 ys.length c8) rfl
          have l13 := hbx8.lt
          clear HGL HO8 HP8 hbx8 hq7 hr7 hA7 hw7
          go_wp2
          go_roundw
          case rel => exact ⟨k + 1, _, ys, by go_num, by omega, HPE.out.more (by omega), hyl, HGM.out⟩
          case measure => simp [intOf]; omega
    · skip
      obtain ⟨M1, hM1⟩ : ∃ m, M + 64 + 2 * k = m := ⟨_, rfl⟩
      have hM2 : M1 ≤ M + 308 := by omega
      rw [hM1] at HP
      clear hM1
      rcases HP.out.kind with ⟨rfl, rfl⟩ | ⟨g, c, rfl, hxc, hgl, hB⟩
      · skip
        have c10 := CB.c_of HP.out.box (j := 0) (v := (.slice none 0 0)) rfl
        have l10 := HP.out.box.lt
        have zd := CB.c_of HP.out.res (j := 0) (v := .slice none 0 0) rfl
        have zf := CB.f_of HP.out.res (j := 0) (by simp)
        have zr := HP.out.res.lt
        go_wp2
        have zP := HP.out
        exact bodyPost_ret (MA.ret_cell2 rfl rfl rfl (MA.load_rg (CB.put1 zP.res (j := 0) (by simp) (.slice none 0 0)) Try.underlying31 rfl Try.sizePileAS rfl)) rfl ⟨(.slice none 0 0), (.slice aL L.length cL), [], L, rfl, PY.own_set zP.row zP.ur, PY.own_set zP.all zP.Ar, (by simp), hLL, (by simp), HPL.out, BX.cur_set (zP.cur.more (by omega)) (by omega), BX.only_set zP.only zP.hr⟩
      · by_cases h0 : xs.length = 0
        · obtain rfl := List.eq_nil_of_length_eq_zero h0
          clear h0 hB hxl HXP hxc
          have c10 := CB.c_of HP.out.box (j := 0) (v := (.slice (some ⟨g, 0, none⟩) 0 c)) rfl
          have l10 := HP.out.box.lt
          have zd := CB.c_of HP.out.res (j := 0) (v := .slice none 0 0) rfl
          have zf := CB.f_of HP.out.res (j := 0) (by simp)
          have zr := HP.out.res.lt
          go_wp2
          have zP := HP.out
          exact bodyPost_ret (MA.ret_cell2 rfl rfl rfl (MA.load_rg (CB.put1 zP.res (j := 0) (by simp) (.slice (some ⟨g, 0, none⟩) 0 c)) Try.underlying31 rfl Try.sizePileAS rfl)) rfl ⟨(.slice (some ⟨g, 0, none⟩) 0 c), (.slice aL L.length cL), [], L, rfl, PY.own_set zP.row zP.ur, PY.own_set zP.all zP.Ar, (by simp), hLL, (by simp), HPL.out, BX.cur_set (zP.cur.more (by omega)) (by omega), BX.only_set zP.only zP.hr⟩
        · have h0' : (0 : Int) < (xs.length : Int) := by omega
          have c10 := CB.c_of HP.out.box (j := 0) (v := (.slice (some ⟨g, 0, none⟩) xs.length c)) rfl
          have l10 := HP.out.box.lt
          go_wp2_with fail
          refine (one_any p a zs cap M1 20 _ hz (by omega) HP.out.cur).mono ?_
          rintro e w1 ⟨b1, rfl, hc1, ho1⟩
          have HP1 : Hid _ := HP.out.drawn hc1 ho1
          clear HP hc1 ho1 c10 l10 hB hgl
          cases b1
          case false =>
            have c10 := CB.c_of HP1.out.box (j := 0) (v := (.slice (some ⟨g, 0, none⟩) xs.length c)) rfl
            have l10 := HP1.out.box.lt
            have zd := CB.c_of HP1.out.res (j := 0) (v := .slice none 0 0) rfl
            have zf := CB.f_of HP1.out.res (j := 0) (by simp)
            have zr := HP1.out.res.lt
            go_wp2
            have zP := HP1.out
            exact bodyPost_ret (MA.ret_cell2 rfl rfl rfl (MA.load_rg (CB.put1 zP.res (j := 0) (by simp) (.slice (some ⟨g, 0, none⟩) xs.length c)) Try.underlying31 rfl Try.sizePileAS rfl)) rfl ⟨(.slice (some ⟨g, 0, none⟩) xs.length c), (.slice aL L.length cL), xs, L, rfl, PY.own_set zP.row zP.ur, PY.own_set zP.all zP.Ar, hxl, hLL, HXP.out, HPL.out, BX.cur_set (zP.cur.more (by omega)) (by omega), BX.only_set zP.only zP.hr⟩
          case true =>
            have c10 := CB.c_of HP1.out.box (j := 0) (v := .slice (some ⟨g, 0, none⟩) xs.length c) rfl
            have l10 := HP1.out.box.lt
            go_wp2_with fail
            refine (pick_any p a zs cap (M1 + 2) (xs.length : Int) _ hz (by omega) HP1.out.cur).mono ?_
            rintro e w2 ⟨n, rfl, hn, -, hc2, ho2⟩
            have HP2 : Hid _ := HP1.out.drawn hc2 ho2
            have hn' : n < xs.length := by omega
            clear HP1 hc2 ho2 c10 l10 hn
            go_wp2_with fail
            refine (pick_any p a zs cap (M1 + 2 + 2) 3 _ hz (by omega) HP2.out.cur).mono ?_
            rintro e w3 ⟨y, rfl, hy, -, hc3, ho3⟩
            have HP3 : Hid _ := HP2.out.drawn hc3 ho3
            clear HP2 hc3 ho3
            have c10 := CB.c_of HP3.out.box (j := 0) (v := .slice (some ⟨g, 0, none⟩) xs.length c) rfl
            have l10 := HP3.out.box.lt
            have hgl := (HP3.out.row.lt g rfl).2
            have hni : (n : Int) < (xs.length : Int) := by omega
            have hn0 : (0 : Int) ≤ (n : Int) := by omega
            obtain ⟨bb, off, hab, hgl', k0, k1, k2, k3, k4, k5, k6, k7, k8, k9⟩ := (MP.BsAt.of_own HP3.out.row).at hn'
            cases hab
            simp only [Nat.zero_add] at k0 k1 k2 k3 k4 k5 k6 k7 k8 k9
            have fz := fun j => HP3.out.row.frozenAt j
            have hpn : (MP.at_ xs n).py.size ≤ 61 := HXP.out _ (by rw [MP.at_eq xs n hn']; exact List.getElem_mem hn')
            have HX0 : Hid (∃ x, MP.at_ xs n = x) := ⟨_, rfl⟩
            obtain ⟨x, hx⟩ := HX0.out
            rw [hx] at k0 k1 k2 k3 k4 k5 k6 k7 k8 k9 hpn
            have HX : Hid (MP.at_ xs n = x) := hx
            clear hx HX0 hgl'
            obtain ⟨x0, x1, x2, x3, x4, x5, x6, x7, x8, x9⟩ := x
            have hy3 : y = 0 ∨ y = 1 ∨ y = 2 := by omega
            rcases hy3 with rfl | rfl | rfl
            · have hwz : True := trivial
              have HPZ : Hid _ := HP3.out.sets (x' := ⟨x0, x1, x2, x3, x4, x5, x6, wrap64 (x7 + 1), x8, x9⟩) (f := 7) (v := (.int .i64 (wrap64 (x7 + 1)))) rfl hn' (by omega) (by rw [HX.out]; rfl)
              have zf := (CB.off1 HP3.out.res (q' := g) (j := n * 10 + 7) (fun e => HP3.out.ur (by rw [e]; rfl)) ((.int .i64 (wrap64 (x7 + 1))))).free (j := 0) (by simp)
              have zd := (CB.off1 HP3.out.res (q' := g) (j := n * 10 + 7) (fun e => HP3.out.ur (by rw [e]; rfl)) ((.int .i64 (wrap64 (x7 + 1))))).cell (j := 0) (v := .slice none 0 0) rfl
              have zb := (CB.off1 HP3.out.box (q' := g) (j := n * 10 + 7) (fun e => HP3.out.uq (by rw [e]; rfl)) ((.int .i64 (wrap64 (x7 + 1))))).cell (j := 0) (v := (.slice (some ⟨g, 0, none⟩) xs.length c)) rfl
              rw [Nat.zero_add] at zf zd zb
              have zr := HP3.out.res.lt
              have z7 := fz (n * 10 + 7)
              go_wp2
              have zP := HPZ.out
              exact bodyPost_ret (MA.ret_cell2 rfl rfl rfl (MA.load_rg (CB.put1 zP.res (j := 0) (by simp) (.slice (some ⟨g, 0, none⟩) xs.length c)) Try.underlying31 rfl Try.sizePileAS rfl)) rfl ⟨(.slice (some ⟨g, 0, none⟩) xs.length c), (.slice aL L.length cL), (xs.set n ⟨x0, x1, x2, x3, x4, x5, x6, wrap64 (x7 + 1), x8, x9⟩), L, rfl, PY.own_set zP.row zP.ur, PY.own_set zP.all zP.Ar, (by rw [List.length_set]; exact hxl), hLL, (fun x hx => (PY.set_mem hx).elim (HXP.out x) (fun h => by rw [h]; exact hpn)), HPL.out, BX.cur_set (zP.cur.more (by omega)) (by omega), BX.only_set zP.only zP.hr⟩
            · go_wp2
              have HPa : Hid (PY.PS w ((World.drew w3).alloc (.cells #[.string ⟨#[]⟩, .string ⟨#[122, 122]⟩] 9)) p a zs cap (M1 + 2 + 2 + 2) r q (.slice aL L.length cL) L (.slice (some ⟨g, 0, none⟩) xs.length c) xs) := (HP3.out.kept ((Below.refl _ w3).drew)).kept ((Below.refl _ _).alloc (Nat.le_refl _) _)
              refine MR.frame fun A hA => ?_
              have hsz : A.tmps.size = 102 := by rw [hA]; rfl
              have e0 : A.eval (.tmp 0) = .pointer (some ⟨p, 0, none⟩) := by rw [hA]; rfl
              have f0 := MR.read (t := 0) (by rw [hsz]; decide) e0
              have e10 : A.eval (.tmp 10) = .pointer (some ⟨q, 0, none⟩) := by rw [hA]; rfl
              have f10 := MR.read (t := 10) (by rw [hsz]; decide) e10
              have e15 : A.eval (.tmp 15) = .int .i64 (n : Int) := by rw [hA]; rfl
              have f15 := MR.read (t := 15) (by rw [hsz]; decide) e15
              have HA : Hid (A = _) := hA
              clear hA
              have hS : (fun w' : World => w'.cell? ⟨q, 0, none⟩ = some (.slice (some ⟨g, 0, none⟩) xs.length c)) (World.drew _) := c10
              refine wp_region_held (S := fun w' : World => w'.cell? ⟨q, 0, none⟩ = some (.slice (some ⟨g, 0, none⟩) xs.length c)) (by kernel_rfl) ?_
              change wpAnyH _ _ _ _ _ _ _ _ (World.drew _)
              refine MR.takeH (i := 0) (some 92) (.pointer (some ⟨q, 0, none⟩)) rfl rfl (by kernel_rfl) (by kernel_rfl) (by kernel_rfl) (fun _ _ _ h => h) hS (MR.free rfl) (fun wq hw => by simp [execOp, MR.ev, MR.size, hsz, e0, f0, e10, f10, e15, f15, go_sem]) ?_
              refine MR.takeH (i := 1) (some 93) ((.slice (some ⟨g, 0, none⟩) xs.length c)) rfl rfl (by kernel_rfl) (by kernel_rfl) (by kernel_rfl) (fun _ _ _ h => h) hS (MR.free rfl) (fun wq hw => by simp [execOp, MR.ev, MR.size, hsz, e0, f0, e10, f10, e15, f15, show wq.cell? ⟨q, 0, none⟩ = some (.slice (some ⟨g, 0, none⟩) xs.length c) from hw, go_sem]) ?_
              refine MR.takeH (i := 2) (some 94) (.int .i64 (n : Int)) rfl rfl (by kernel_rfl) (by kernel_rfl) (by kernel_rfl) (fun _ _ _ h => h) hS (MR.free rfl) (fun wq hw => by simp [execOp, MR.ev, MR.size, hsz, e0, f0, e10, f10, e15, f15, go_sem]) ?_
              refine MR.takeH (i := 3) (some 95) (.pointer (some ⟨p, 0, none⟩)) rfl rfl (by kernel_rfl) (by kernel_rfl) (by kernel_rfl) (fun _ _ _ h => h) hS (MR.free rfl) (fun wq hw => by simp [execOp, MR.ev, MR.size, hsz, e0, f0, e10, f10, e15, f15, go_sem]) ?_
              have hS4 : ((World.drew w3).alloc (.cells #[.string ⟨#[]⟩, .string ⟨#[122, 122]⟩] 9)).cell? ⟨q, 0, none⟩ = some (.slice (some ⟨g, 0, none⟩) xs.length c) := CB.c_of HPa.out.box (j := 0) rfl
              refine MR.nowH (w' := ((World.drew w3).alloc (.cells #[.string ⟨#[]⟩, .string ⟨#[122, 122]⟩] 9))) (i := 4) (some 96) (.slice (some ⟨w3.heap.size, 0, none⟩) 2 2) (by kernel_rfl) rfl rfl (MR.free rfl) (by simp [execOp, MR.ev, MR.size, hsz, e0, f0, e10, f10, e15, f15, go_sem]) ⟨hS4, ?_⟩
              refine MR.callH (i := 5) (some 97) (57) (#[.pointer (some ⟨p, 0, none⟩), .slice (some ⟨w3.heap.size, 0, none⟩) 2 2]) (by kernel_rfl) rfl rfl (MR.free rfl) (by simp [execOp, MR.ev, MR.size, hsz, e0, f0, e10, f10, e15, f15, go_sem]) ?_
              refine Calls.mono (of_any p a zs cap (M1 + 2 + 2 + 2) w3.heap.size 0 [⟨#[]⟩, ⟨#[122, 122]⟩] 2 _ hz (by omega) HPa.out.cur (by decide) (by decide) (two_at _) (by have := HP3.out.cur.lt; omega)) ?_
              rintro e w4 ⟨s, rfl, hs, hc4, ho4⟩
              have HP4 : Hid _ := HPa.out.drawn hc4 ho4
              have hS5 : w4.cell? ⟨q, 0, none⟩ = some (.slice (some ⟨g, 0, none⟩) xs.length c) := CB.c_of HP4.out.box (j := 0) rfl
              refine ⟨_, rfl, hS5, ?_⟩
              have hps : s.size ≤ 61 := by
                simp only [List.mem_cons, List.not_mem_nil, or_false] at hs
                rcases hs with rfl | rfl <;> decide
              refine MR.takeH (i := 6) (some 98) (.pointer (some ⟨g, n * 10, none⟩)) rfl rfl (by kernel_rfl) (by kernel_rfl) (by kernel_rfl) (fun _ _ _ h => h) hS5 (MR.free rfl) (fun wq hw => by simp [execOp, MR.ev, MR.size, hsz, e0, f0, e10, f10, e15, f15, hni, hn0, hn', go_sem]) ?_
              refine MR.takeH (i := 7) (some 99) (.pointer (some ⟨g, n * 10 + 9, none⟩)) rfl rfl (by kernel_rfl) (by kernel_rfl) (by kernel_rfl) (fun _ _ _ h => h) hS5 (MR.free rfl) (fun wq hw => by simp [execOp, MR.ev, MR.size, hsz, e0, f0, e10, f10, e15, f15, go_sem]) ?_
              have HPZ : Hid _ := HP4.out.sets (x' := ⟨x0, x1, x2, x3, x4, x5, x6, x7, x8, s⟩) (f := 9) (v := .string s) rfl hn' (by omega) (by rw [HX.out]; rfl)
              have hS6 : (w4.setCell ⟨g, n * 10 + 9, none⟩ (.string s)).cell? ⟨q, 0, none⟩ = some (.slice (some ⟨g, 0, none⟩) xs.length c) := CB.c_of HPZ.out.box (j := 0) rfl
              obtain ⟨bb, off, hab, hgl4, -, -, -, -, -, -, -, -, -, m9⟩ := (MP.BsAt.of_own HP4.out.row).at hn'
              cases hab
              rw [Nat.zero_add, HX.out] at m9
              have m9f := HP4.out.row.frozenAt (n * 10 + 9)
              refine MR.storeH (w' := w4.setCell ⟨g, n * 10 + 9, none⟩ (.string s)) (i := 8) (by kernel_rfl) rfl (MR.free rfl) (by simp [execOp, MR.ev, MR.size, hsz, e0, f0, e10, f10, e15, f15, m9, m9f, hgl4, go_sem]) ⟨hS6, ?_⟩
              refine wpAnyH_done (by kernel_rfl) ?_ _
              rw [HA.out]
              simp only [Act.put, List.setIfInBounds_toArray, List.set_cons_succ, List.set_cons_zero, List.getElem_toArray, List.getElem_cons_succ, List.getElem_cons_zero]
              have c10 := CB.c_of HPZ.out.box (j := 0) (v := (.slice (some ⟨g, 0, none⟩) xs.length c)) rfl
              have l10 := HPZ.out.box.lt
              have zd := CB.c_of HPZ.out.res (j := 0) (v := .slice none 0 0) rfl
              have zf := CB.f_of HPZ.out.res (j := 0) (by simp)
              have zr := HPZ.out.res.lt
              go_wp2
              have zP := HPZ.out
              have zR : ((w4.setCell ⟨g, n * 10 + 9, none⟩ (.string s)).setCell ⟨r, 0, none⟩ (.slice (some ⟨g, 0, none⟩) xs.length c)).ownsRow r 24 10 (.slice (some ⟨g, 0, none⟩) xs.length c) (xs.set n ⟨x0, x1, x2, x3, x4, x5, x6, x7, x8, s⟩).length (MP.flat (xs.set n ⟨x0, x1, x2, x3, x4, x5, x6, x7, x8, s⟩)) := CB.own_mono (PY.own_set zP.row zP.ur) (Nat.le_of_eq hr.symm)
              have zA : ((w4.setCell ⟨g, n * 10 + 9, none⟩ (.string s)).setCell ⟨r, 0, none⟩ (.slice (some ⟨g, 0, none⟩) xs.length c)).ownsRow r 24 10 (.slice aL L.length cL) L.length (MP.flat L) := CB.own_mono (PY.own_set zP.all zP.Ar) (Nat.le_of_eq hr.symm)
              exact bodyPost_ret (MA.ret_cell2 rfl rfl rfl (MA.load_rg (CB.put1 zP.res (j := 0) (by simp) (.slice (some ⟨g, 0, none⟩) xs.length c)) Try.underlying31 rfl Try.sizePileAS rfl)) rfl ⟨(.slice (some ⟨g, 0, none⟩) xs.length c), (.slice aL L.length cL), rfl, _, zR, L, zA, (by rw [List.length_set]; exact hxl), hLL, (fun x hx => (PY.set_mem hx).elim (HXP.out x) (fun h => by rw [h]; exact hps)), HPL.out, BX.cur_set (zP.cur.more (by omega)) (by omega), BX.only_set zP.only zP.hr⟩
            · have hwz : True := trivial
              have HPZ : Hid _ := HP3.out.sets (x' := ⟨x0, x1, x2, x3, wrap64 (x4 + 1), x5, x6, x7, x8, x9⟩) (f := 4) (v := (.int .i64 (wrap64 (x4 + 1)))) rfl hn' (by omega) (by rw [HX.out]; rfl)
              have zf := (CB.off1 HP3.out.res (q' := g) (j := n * 10 + 4) (fun e => HP3.out.ur (by rw [e]; rfl)) ((.int .i64 (wrap64 (x4 + 1))))).free (j := 0) (by simp)
              have zd := (CB.off1 HP3.out.res (q' := g) (j := n * 10 + 4) (fun e => HP3.out.ur (by rw [e]; rfl)) ((.int .i64 (wrap64 (x4 + 1))))).cell (j := 0) (v := .slice none 0 0) rfl
              have zb := (CB.off1 HP3.out.box (q' := g) (j := n * 10 + 4) (fun e => HP3.out.uq (by rw [e]; rfl)) ((.int .i64 (wrap64 (x4 + 1))))).cell (j := 0) (v := (.slice (some ⟨g, 0, none⟩) xs.length c)) rfl
              rw [Nat.zero_add] at zf zd zb
              have zr := HP3.out.res.lt
              have z7 := fz (n * 10 + 4)
              go_wp2
              have zP := HPZ.out
              exact bodyPost_ret (MA.ret_cell2 rfl rfl rfl (MA.load_rg (CB.put1 zP.res (j := 0) (by simp) (.slice (some ⟨g, 0, none⟩) xs.length c)) Try.underlying31 rfl Try.sizePileAS rfl)) rfl ⟨(.slice (some ⟨g, 0, none⟩) xs.length c), (.slice aL L.length cL), (xs.set n ⟨x0, x1, x2, x3, wrap64 (x4 + 1), x5, x6, x7, x8, x9⟩), L, rfl, PY.own_set zP.row zP.ur, PY.own_set zP.all zP.Ar, (by rw [List.length_set]; exact hxl), hLL, (fun x hx => (PY.set_mem hx).elim (HXP.out x) (fun h => by rw [h]; exact hpn)), HPL.out, BX.cur_set (zP.cur.more (by omega)) (by omega), BX.only_set zP.only zP.hr⟩
end Go.Proofs.Ytdgflhgbcfehhaa

/- Piles as they are drawn: DrawGoodPile, DrawWholeOf. -/
namespace Go.Proofs.Ytdgflhgbcfehhaa
open Go.RowKit
namespace PY
theorem grown_cells (g : Nat) : ∀ (vs : List Value) (o : Nat) (w : World), w.grownBy (w.setCells g o vs) (some g)
  | [], o, w => ⟨rfl, rfl, rfl, by simp [World.setCells], fun k _ _ => rfl⟩
  | v :: vs, o, w => by
    have h := grown_cells g vs (o + 1) (w.setCell ⟨g, o, none⟩ v)
    have h0 : w.grownBy (w.setCell ⟨g, o, none⟩ v) (some g) := ⟨rfl, rfl, rfl, by simp, fun k _ hk => Below.heap_setCell w ⟨g, o, none⟩ v k (fun e => hk (by rw [e]))⟩
    exact ⟨h.os.trans h0.os, h.tape.trans h0.tape, h.output.trans h0.output, Nat.le_trans h0.size h.size, fun k hk hn => (h.block k (Nat.lt_of_lt_of_le hk h0.size) hn).trans (h0.block k hk hn)⟩
theorem own_cells {w : World} {base e sz n q : Nat} {v : Value} {ys : List Value} (h : w.ownsRow base e sz v n ys) (hq : v.ownBlock ≠ some q) (o : Nat) (vs : List Value) : (w.setCells q o vs).ownsRow base e sz v n ys :=
  h.kept (grown_cells q vs o w) (.inr hq)
theorem ret_cc {P : Program} {fn : Func} {p u : Tmp} {ty ty' : TypeId} {tmps : Array Value} {w : World} {v x : Value} {k o k' o' : Nat} (h : fn.results = #[.cell p ty, .cell u ty']) (hp : tmps.getD p undef = .pointer (some ⟨k, o, none⟩)) (hu : tmps.getD u undef = .pointer (some ⟨k', o', none⟩)) (hl : (loadVar ty ⟨k, o, none⟩).run P w = .ok v w) (hl' : (loadVar ty' ⟨k', o', none⟩).run P w = .ok x w) :
    (results fn tmps).run P w = .ok (.tuple #[v, x]) w := by
  have e1 : tmps[p]?.getD undef = tmps.getD p undef := by simp [Array.getD_eq_getD_getElem?]
  have e2 : tmps[u]?.getD undef = tmps.getD u undef := by simp [Array.getD_eq_getD_getElem?]
  simp only [results, h]
  simp [Sem.run_bind, Result.andThen, asAddr, e1, e2, hp, hu, hl, hl']
end PY
set_option linter.unusedSimpArgs false in
set_option maxHeartbeats 6400000 in
set_option maxRecDepth 100000 in
theorem drawGoodPile_any (a : Option Addr) (zs : List Int) (cap : Nat) (w : World) (hz : zs.length ≤ 140737488355328) (hb : MC.BytesAt w w.heap.size a zs) :
    Calls Try.prog 54 #[.slice a zs.length cap] w fun e w' => ∃ (a1 : Option Addr) (c1 : Nat) (xs : List Bd), e = .returned (.agg #[.slice a1 xs.length c1]) ∧ w'.ownsRow w.heap.size 24 10 (.slice a1 xs.length c1) xs.length (MP.flat xs) ∧ xs.length ≤ 60 ∧ (∀ x ∈ xs, x.py.size ≤ 61) ∧ Below w.heap.size w w' := by
  have hres := MA.Rg.new w [.slice none 0 0] 31
  have hW0 : Below w.heap.size w (w.alloc (.cells #[.slice none 0 0] 31)) := (Below.refl _ w).alloc (Nat.le_refl _) _
  have hb0 := bytes_upP (.cells #[.slice none 0 0] 31) hb
  have hs0 : (w.alloc (.cells #[.slice none 0 0] 31)).heap.size = w.heap.size + 1 := by simp
  clear hb
  go_enter Try.func54, Try.ntmps54
  go_wp2_with fail
  generalize w.alloc (.cells #[.slice none 0 0] 31) = W0 at *
  obtain ⟨p, hp⟩ : ∃ p, W0.heap.size = p := ⟨_, rfl⟩
  rw [← hs0, hp]
  have hcur := cur_new (T := 55) (cap := cap) hb0
  have hnb : Hid (∀ W, MC.Only p (W0.alloc (.cells #[.slice a zs.length cap, .int .i64 0, .int .u64 0] 55)) W → Below w.heap.size w W) := fun W h => hW0.trans ((new_below hp.symm h).mono (by omega))
  have hcs : (W0.alloc (.cells #[.slice a zs.length cap, .int .i64 0, .int .u64 0] 55)).heap.size = p + 1 := by simp [hp]
  rw [hp] at hcur
  replace hres := hres.alloc (.cells #[.slice a zs.length cap, .int .i64 0, .int .u64 0] 55)
  clear hb0 hW0
  generalize W0.alloc (.cells #[.slice a zs.length cap, .int .i64 0, .int .u64 0] 55) = A0 at *
  refine (curPile_any p a zs cap 0 _ hz (by omega) hcur).mono ?_
  rintro e w1 ⟨u, U, xs, L, rfl, hu, -, hxl, -, hxp, -, -, ho1⟩
  have hB1 : Hid _ := hnb.out _ ho1
  replace hres := PY.rg_only hres ho1 (by omega)
  obtain ⟨a1, c1, rfl, -⟩ := CB.view hu
  have HU : Hid _ := hu
  have HX : Hid _ := hxp
  have hrl := hres.lt
  have hpb : w.heap.size < A0.heap.size := by omega
  clear hnb hcur ho1 hu hxp hs0 hp hcs
  have hre := (hres.alloc (.cells #[.slice a1 xs.length c1] 31))
  have zd := CB.c_of hre (j := 0) (v := .slice none 0 0) rfl
  have zf := CB.f_of hre (j := 0) (by simp)
  go_wp2
  exact bodyPost_ret (MA.ret_cell rfl rfl (MA.load_rg ((CB.put1 hres (j := 0) (by simp) (.slice a1 xs.length c1)).alloc _) Try.underlying31 rfl Try.sizePileAS rfl)) rfl ⟨a1, c1, xs, rfl, CB.own_mono (World.ownsRow.alloc (PY.own_set HU.out (fun e => by have := (World.ownsRow.lt HU.out _ e).1; omega)) _) (by omega), hxl, HX.out, (hB1.out.setCell (p := ⟨w.heap.size, 0, none⟩) (Nat.le_refl _) _).alloc (by simp; omega) _⟩
set_option linter.unusedSimpArgs false in
set_option maxHeartbeats 6400000 in
set_option maxRecDepth 100000 in
theorem drawWholeOf_any (a : Option Addr) (zs : List Int) (cap : Nat) (w : World) (hz : zs.length ≤ 140737488355328) (hb : MC.BytesAt w w.heap.size a zs) :
    Calls Try.prog 23 #[.slice a zs.length cap] w fun e w' => ∃ (a1 : Option Addr) (c1 : Nat) (xs : List Bd), e = .returned (.agg #[.slice a1 xs.length c1]) ∧ w'.ownsRow w.heap.size 24 10 (.slice a1 xs.length c1) xs.length (MP.flat xs) ∧ xs.length ≤ 60 ∧ (∀ x ∈ xs, x.py.size ≤ 61) ∧ Below w.heap.size w w' := by
  have hres := MA.Rg.new w [.slice none 0 0] 31
  have hW0 : Below w.heap.size w (w.alloc (.cells #[.slice none 0 0] 31)) := (Below.refl _ w).alloc (Nat.le_refl _) _
  have hb0 := bytes_upP (.cells #[.slice none 0 0] 31) hb
  have hs0 : (w.alloc (.cells #[.slice none 0 0] 31)).heap.size = w.heap.size + 1 := by simp
  clear hb
  go_enter Try.func23, Try.ntmps23
  go_wp2_with fail
  generalize w.alloc (.cells #[.slice none 0 0] 31) = W0 at *
  refine (drawGoodPile_any a zs cap W0 hz hb0).mono ?_
  rintro e w1 ⟨a1, c1, xs, rfl, hu, hxl, hxp, hB⟩
  have hre := hres.below hB hres.lt
  have hB1 : Hid _ := hW0.trans (hB.mono (by omega))
  have zd := CB.c_of hre (j := 0) (v := .slice none 0 0) rfl
  have zf := CB.f_of hre (j := 0) (by simp)
  have zl := hre.lt
  have hs1 := hB.size
  have HU : Hid _ := hu
  have HX : Hid _ := hxp
  clear hu hxp hB hW0 hb0 hres
  go_wp2
  exact bodyPost_ret (MA.ret_cell rfl rfl (MA.load_rg (CB.put1 hre (j := 0) (by simp) (.slice a1 xs.length c1)) Try.underlying31 rfl Try.sizePileAS rfl)) rfl ⟨a1, c1, xs, rfl, CB.own_mono (PY.own_set HU.out (fun e => by have := (World.ownsRow.lt HU.out _ e).1; omega)) (by omega), hxl, HX.out, hB1.out.setCell (p := ⟨w.heap.size, 0, none⟩) (Nat.le_refl _) _⟩
end Go.Proofs.Ytdgflhgbcfehhaa

/- DrawAddPiece: a pile, and one of its pieces or another. -/
namespace Go.Proofs.Ytdgflhgbcfehhaa
open Go.RowKit
theorem PY.put_none (a : Act) (v : Value) : a.put none v = a := rfl
/-- What DrawAddPiece holds behind its pile. -/
structure PY.DP (w A0 W : World) (p q : Nat) (a : Option Addr) (zs : List Int) (cap M : Nat) (u U : Value) (xs L : List Bd) : Prop where
  cur : MC.Cur W p a zs cap M
  only : MC.Only p A0 W
  r1 : MA.Rg W w.heap.size 0 [.slice none 0 0]
  r2 : MA.Rg W (w.heap.size + 1) 0 B1.zero.cs
  box : MA.Rg W q 0 [u]
  row : W.ownsRow A0.heap.size 24 10 u xs.length (MP.flat xs)
  all : W.ownsRow A0.heap.size 24 10 U L.length (MP.flat L)
  pA : p < A0.heap.size
  hp : w.heap.size + 1 < p
  hq : p < q
theorem PY.DP.kept {w A0 W W' : World} {p q : Nat} {a : Option Addr} {zs : List Int} {cap M : Nat} {u U : Value} {xs L : List Bd} (h : PY.DP w A0 W p q a zs cap M u U xs L) (hb : Below W.heap.size W W') : PY.DP w A0 W' p q a zs cap M u U xs L :=
  ⟨h.cur.below hb, h.only.trans (MC.Only.of_below hb), h.r1.below hb h.r1.lt, h.r2.below hb h.r2.lt, h.box.below hb h.box.lt, MP.own_below h.row hb, MP.own_below h.all hb, h.pA, h.hp, h.hq⟩
theorem PY.DP.drawn {w A0 W W' : World} {p q : Nat} {a : Option Addr} {zs : List Int} {cap M M' : Nat} {u U : Value} {xs L : List Bd} (h : PY.DP w A0 W p q a zs cap M u U xs L) (hc : MC.Cur W' p a zs cap M') (ho : MC.Only p W W') : PY.DP w A0 W' p q a zs cap M' u U xs L := by
  have h1 := h.hp
  have h2 := h.hq
  exact ⟨hc, h.only.trans ho, PY.rg_only h.r1 ho (by omega), PY.rg_only h.r2 ho (by omega), PY.rg_only h.box ho (by omega), MC.own_only h.row ho h.pA, MC.own_only h.all ho h.pA, h.pA, h.hp, h.hq⟩
set_option linter.unusedSimpArgs false in
set_option maxHeartbeats 6400000 in
set_option maxRecDepth 100000 in
theorem drawAddPiece_any (a : Option Addr) (zs : List Int) (cap : Nat) (w : World) (hz : zs.length ≤ 140737488355328) (hb : MC.BytesAt w w.heap.size a zs) :
    Calls Try.prog 17 #[.slice a zs.length cap] w fun e w' => ∃ (a1 : Option Addr) (c1 : Nat) (xs : List Bd) (b : Bd), e = .returned (.tuple #[.agg #[.slice a1 xs.length c1], b.v]) ∧ w'.ownsRow w.heap.size 24 10 (.slice a1 xs.length c1) xs.length (MP.flat xs) ∧ xs.length ≤ 60 ∧ (∀ x ∈ xs, x.py.size ≤ 61) ∧ b.py.size ≤ 61 ∧ Below w.heap.size w w' := by
  have hr1 := (MA.Rg.new w [.slice none 0 0] 31).alloc (.cells B1.zero.cs.toArray 24)
  have hr2 := MA.Rg.new' (w.alloc (.cells #[.slice none 0 0] 31)) B1.zero.cs 24 (w.heap.size + 1) (by simp)
  have hW0 : Below w.heap.size w ((w.alloc (.cells #[.slice none 0 0] 31)).alloc (.cells B1.zero.cs.toArray 24)) := ((Below.refl _ w).alloc (Nat.le_refl _) _).alloc (by simp) _
  have hb0 := bytes_upP (.cells B1.zero.cs.toArray 24) (bytes_upP (.cells #[.slice none 0 0] 31) hb)
  have hs0 : ((w.alloc (.cells #[.slice none 0 0] 31)).alloc (.cells B1.zero.cs.toArray 24)).heap.size = w.heap.size + 1 + 1 := by simp
  simp only [Bd.cs, B1.zero] at hr1 hr2 hW0 hb0 hs0
  clear hb
  go_enter Try.func17, Try.ntmps17
  go_wp2_with fail
  generalize (w.alloc (.cells #[.slice none 0 0] 31)).alloc (.cells #[.int .i64 0, .int .i64 0, .bool false, .int .i64 0, .int .i64 0, .int .i64 0, .int .i64 0, .int .i64 0, .int .i64 0, .string ⟨#[]⟩] 24) = W0 at *
  change MA.Rg W0 (w.heap.size + 1) 0 B1.zero.cs at hr2
  obtain ⟨p, hp⟩ : ∃ p, W0.heap.size = p := ⟨_, rfl⟩
  rw [← hs0, hp]
  have hcur := cur_new (T := 55) (cap := cap) hb0
  have HNB : Hid (∀ W, MC.Only p (W0.alloc (.cells #[.slice a zs.length cap, .int .i64 0, .int .u64 0] 55)) W → Below w.heap.size w W) := fun W h => hW0.trans ((new_below hp.symm h).mono (by omega))
  have hcs : (W0.alloc (.cells #[.slice a zs.length cap, .int .i64 0, .int .u64 0] 55)).heap.size = p + 1 := by simp [hp]
  rw [hp] at hcur
  replace hr1 := hr1.alloc (.cells #[.slice a zs.length cap, .int .i64 0, .int .u64 0] 55)
  replace hr2 := hr2.alloc (.cells #[.slice a zs.length cap, .int .i64 0, .int .u64 0] 55)
  clear hb0 hW0
  generalize W0.alloc (.cells #[.slice a zs.length cap, .int .i64 0, .int .u64 0] 55) = A0 at *
  refine (curPile_any p a zs cap 0 _ hz (by omega) hcur).mono ?_
  rintro e w1 ⟨u, V, xs, L, rfl, hu, hV, hxl, hLl, hxp, hLp, hc1, ho1⟩
  have hs1 := ho1.size
  obtain ⟨a1, c1, rfl, -⟩ := CB.view hu
  obtain ⟨a2, c2, rfl, -⟩ := CB.view hV
  have HP : Hid (PY.DP w A0 (w1.alloc (.cells #[.slice a1 xs.length c1] 31)) p w1.heap.size a zs cap (0 + 400) (.slice a1 xs.length c1) (.slice a2 L.length c2) xs L) :=
    ⟨hc1.alloc _, ho1.alloc _, (PY.rg_only hr1 ho1 (by omega)).alloc _, (PY.rg_only hr2 ho1 (by omega)).alloc _, MA.Rg.new w1 [.slice a1 xs.length c1] 31, World.ownsRow.alloc hu _, World.ownsRow.alloc hV _, by omega, by omega, by omega⟩
  have HX : Hid _ := hxp
  have HL : Hid _ := hLp
  have hpw : w.heap.size + 1 < p := by omega
  have hpq : p < w1.heap.size := by omega
  have hqA : w.heap.size ≤ A0.heap.size := by omega
  clear hr1 hr2 hu hV hxp hLp hc1 ho1 hcur hcs hp hs0
  by_cases hl0 : L.length = 0
  · have hl0' : ¬ (0 : Int) < (L.length : Int) := by omega
    obtain rfl := List.eq_nil_of_length_eq_zero hl0
    clear hl0 hl0' HL hLl
    go_wp2
    try simp only [List.length_nil] at *
    generalize w1.alloc (.cells #[.slice a1 xs.length c1] 31) = w2 at *
    obtain ⟨q, hq⟩ : ∃ q, w1.heap.size = q := ⟨_, rfl⟩
    rw [hq] at HP hpq ⊢
    go_wp2
    refine MR.frame fun A hA => ?_
    have hsz : A.tmps.size = 34 := by rw [hA]; rfl
    have e2 : A.eval (.tmp 2) = .pointer (some ⟨w.heap.size, 0, none⟩) := by rw [hA]; rfl
    have f2 := MR.read (t := 2) (by rw [hsz]; decide) e2
    have e3 : A.eval (.tmp 3) = .pointer (some ⟨w.heap.size + 1, 0, none⟩) := by rw [hA]; rfl
    have f3 := MR.read (t := 3) (by rw [hsz]; decide) e3
    have e4 : A.eval (.tmp 4) = .pointer (some ⟨p, 0, none⟩) := by rw [hA]; rfl
    have f4 := MR.read (t := 4) (by rw [hsz]; decide) e4
    have e5 : A.eval (.tmp 5) = .pointer (some ⟨q, 0, none⟩) := by rw [hA]; rfl
    have f5 := MR.read (t := 5) (by rw [hsz]; decide) e5
    have HA : Hid (A = _) := hA
    clear hA
    have hS : (fun w' : World => w'.rangeAt q 0 [.slice a1 xs.length c1]) (World.drew _) := HP.out.box.drew.rng
    refine wp_region_held (S := fun w' : World => w'.rangeAt q 0 [.slice a1 xs.length c1]) (by kernel_rfl) ?_
    change wpAnyH _ _ _ _ _ _ _ _ (World.drew _)
    refine MR.takeH (i := 0) (some 31) (.agg #[.slice a1 xs.length c1]) rfl rfl (by kernel_rfl) (by kernel_rfl) (by kernel_rfl) (fun _ _ _ h => h) hS (MR.free rfl) (fun wq hw => MA.ex_load rfl (by simp [MR.ev, MR.size, hsz, e2, f2, e3, f3, e4, f4, e5, f5]) hw Try.underlying31 rfl Try.sizePileAS rfl) ?_
    refine MR.takeH (i := 1) (some 32) (.pointer (some ⟨p, 0, none⟩)) rfl rfl (by kernel_rfl) (by kernel_rfl) (by kernel_rfl) (fun _ _ _ h => h) hS (MR.free rfl) (fun wq hw => by simp [execOp, MR.ev, MR.size, hsz, e2, f2, e3, f3, e4, f4, e5, f5, go_sem]) ?_
    refine MR.callH (i := 2) (some 33) (48) (#[.pointer (some ⟨p, 0, none⟩)]) (by kernel_rfl) rfl rfl (MR.free rfl) (by simp [execOp, MR.ev, MR.size, hsz, e2, f2, e3, f3, e4, f4, e5, f5, go_sem]) ?_
    refine Calls.mono (piece_any p a zs cap (0 + 400) _ hz (by omega) (HP.out.cur.below ((Below.refl _ w2).drew))) ?_
    rintro e w5 ⟨b, rfl, hpb, hc5, ho5⟩
    have HP5 : Hid _ := (HP.out.kept ((Below.refl _ w2).drew)).drawn hc5 ho5
    have hS5 : w5.rangeAt q 0 [.slice a1 xs.length c1] := HP5.out.box.rng
    refine ⟨_, rfl, hS5, ?_⟩
    have hE1 : (w5.setCells w.heap.size 0 [.slice a1 xs.length c1]).rangeAt q 0 [.slice a1 xs.length c1] := (HP5.out.box.other (k' := w.heap.size) (o' := 0) (vs := [.slice a1 xs.length c1]) (.inl (by omega))).rng
    refine MR.storeH (w' := w5.setCells w.heap.size 0 [.slice a1 xs.length c1]) (i := 3) (by kernel_rfl) rfl (MR.free rfl) (MA.ex_store rfl (by simp [PY.put_none, MR.ev, MR.size, hsz, e2, f2, e3, f3, e4, f4, e5, f5]) (by simp [PY.put_none, MR.ev, MR.size, hsz, e2, f2, e3, f3, e4, f4, e5, f5]) HP5.out.r1.ok Try.sizePileAS rfl (by simp [Value.oneCell'])) ⟨hE1, ?_⟩
    have hE2 := HP5.out.r2.other (k' := w.heap.size) (o' := 0) (vs := [.slice a1 xs.length c1]) (.inl (by omega))
    have hE3 : ((w5.setCells w.heap.size 0 [.slice a1 xs.length c1]).setCells (w.heap.size + 1) 0 b.cs).rangeAt q 0 [.slice a1 xs.length c1] := ((HP5.out.box.other (k' := w.heap.size) (o' := 0) (vs := [.slice a1 xs.length c1]) (.inl (by omega))).other (k' := w.heap.size + 1) (o' := 0) (vs := b.cs) (.inl (by omega))).rng
    refine MR.storeH (w' := (w5.setCells w.heap.size 0 [.slice a1 xs.length c1]).setCells (w.heap.size + 1) 0 b.cs) (i := 4) (by kernel_rfl) rfl (MR.free rfl) (MA.ex_store rfl (by simp [PY.put_none, MR.ev, MR.size, hsz, e2, f2, e3, f3, e4, f4, e5, f5]) (by simp [PY.put_none, MR.ev, MR.size, hsz, e2, f2, e3, f3, e4, f4, e5, f5]; rfl) hE2.ok Try.sizeBundle rfl (MA.cs_one _)) ⟨hE3, ?_⟩
    refine wpAnyH_done (by kernel_rfl) ?_ _
    rw [HA.out]
    simp only [Act.put, List.setIfInBounds_toArray, List.set_cons_succ, List.set_cons_zero, List.getElem_toArray, List.getElem_cons_succ, List.getElem_cons_zero]
    go_wp2
    have zP := HP5.out
    have zA := zP.pA
    exact bodyPost_ret (PY.ret_cc rfl rfl rfl (MA.load_rg ((zP.r1.put (vs := [.slice a1 xs.length c1]) rfl).other (k' := w.heap.size + 1) (o' := 0) (vs := b.cs) (.inl (by omega))) Try.underlying31 rfl Try.sizePileAS rfl) (MA.load_rg ((zP.r2.other (k' := w.heap.size) (o' := 0) (vs := [.slice a1 xs.length c1]) (.inl (by omega))).put (vs := b.cs) rfl) Try.underlying24 rfl Try.sizeBundle rfl)) rfl ⟨a1, c1, xs, _, rfl, CB.own_mono (PY.own_cells (q := w.heap.size + 1) (PY.own_cells (q := w.heap.size) zP.row (fun e => by have := (World.ownsRow.lt zP.row _ e).1; omega) _ _) (fun e => by have := (World.ownsRow.lt zP.row _ e).1; omega) _ _) (by omega), hxl, HX.out, hpb, MA.below_cells (b := w.heap.size + 1) (by omega) _ _ _ (MA.below_cells (b := w.heap.size) (Nat.le_refl _) _ _ _ (HNB.out _ zP.only))⟩
  · have hl0' : (0 : Int) < (L.length : Int) := by omega
    go_wp2_with fail
    generalize w1.alloc (.cells #[.slice a1 xs.length c1] 31) = w2 at *
    obtain ⟨q, hq⟩ : ∃ q, w1.heap.size = q := ⟨_, rfl⟩
    rw [hq] at HP hpq
    try rw [hq]
    refine (one_any p a zs cap (0 + 400) 6 _ hz (by omega) HP.out.cur).mono ?_
    rintro e w3 ⟨b3, rfl, hc3, ho3⟩
    have HP3 : Hid _ := HP.out.drawn hc3 ho3
    clear HP hc3 ho3
    cases b3
    · go_wp2
      refine MR.frame fun A hA => ?_
      have hsz : A.tmps.size = 34 := by rw [hA]; rfl
      have e2 : A.eval (.tmp 2) = .pointer (some ⟨w.heap.size, 0, none⟩) := by rw [hA]; rfl
      have f2 := MR.read (t := 2) (by rw [hsz]; decide) e2
      have e3 : A.eval (.tmp 3) = .pointer (some ⟨w.heap.size + 1, 0, none⟩) := by rw [hA]; rfl
      have f3 := MR.read (t := 3) (by rw [hsz]; decide) e3
      have e4 : A.eval (.tmp 4) = .pointer (some ⟨p, 0, none⟩) := by rw [hA]; rfl
      have f4 := MR.read (t := 4) (by rw [hsz]; decide) e4
      have e5 : A.eval (.tmp 5) = .pointer (some ⟨q, 0, none⟩) := by rw [hA]; rfl
      have f5 := MR.read (t := 5) (by rw [hsz]; decide) e5
      have e6 : A.eval (.tmp 6) = .slice a2 L.length c2 := by rw [hA]; rfl
      have f6 := MR.read (t := 6) (by rw [hsz]; decide) e6
      have HA : Hid (A = _) := hA
      clear hA
      have hS : (fun w' : World => w'.rangeAt q 0 [.slice a1 xs.length c1] ∧ MP.BsAt w' a2 L) (World.drew _) := ⟨HP3.out.box.drew.rng, by obtain ⟨x1, x2, x3, hb⟩ := CB.view HP3.out.all; injection x3 with e _ _; rw [e]; exact hb.below ((Below.refl _ w3).drew)⟩
      refine wp_region_held (S := fun w' : World => w'.rangeAt q 0 [.slice a1 xs.length c1] ∧ MP.BsAt w' a2 L) (by kernel_rfl) ?_
      change wpAnyH _ _ _ _ _ _ _ _ (World.drew _)
      refine MR.takeH (i := 0) (some 23) (.agg #[.slice a1 xs.length c1]) rfl rfl (by kernel_rfl) (by kernel_rfl) (by kernel_rfl) (fun _ _ _ h => h) hS (MR.free rfl) (fun wq hw => MA.ex_load rfl (by simp [MR.ev, MR.size, hsz, e2, f2, e3, f3, e4, f4, e5, f5, e6, f6]) hw.1 Try.underlying31 rfl Try.sizePileAS rfl) ?_
      refine MR.takeH (i := 1) (some 24) (.slice a2 L.length c2) rfl rfl (by kernel_rfl) (by kernel_rfl) (by kernel_rfl) (fun _ _ _ h => h) hS (MR.free rfl) (fun wq hw => by simp [execOp, MR.ev, MR.size, hsz, e2, f2, e3, f3, e4, f4, e5, f5, e6, f6, go_sem]) ?_
      refine MR.takeH (i := 2) (some 25) (.pointer (some ⟨p, 0, none⟩)) rfl rfl (by kernel_rfl) (by kernel_rfl) (by kernel_rfl) (fun _ _ _ h => h) hS (MR.free rfl) (fun wq hw => by simp [execOp, MR.ev, MR.size, hsz, e2, f2, e3, f3, e4, f4, e5, f5, e6, f6, go_sem]) ?_
      refine MR.takeH (i := 3) (some 26) (.slice a2 L.length c2) rfl rfl (by kernel_rfl) (by kernel_rfl) (by kernel_rfl) (fun _ _ _ h => h) hS (MR.free rfl) (fun wq hw => by simp [execOp, MR.ev, MR.size, hsz, e2, f2, e3, f3, e4, f4, e5, f5, e6, f6, go_sem]) ?_
      refine MR.takeH (i := 4) (some 27) (.int .i64 (L.length : Int)) rfl rfl (by kernel_rfl) (by kernel_rfl) (by kernel_rfl) (fun _ _ _ h => h) hS (MR.free rfl) (fun wq hw => by simp [execOp, MR.ev, MR.size, hsz, e2, f2, e3, f3, e4, f4, e5, f5, e6, f6, go_sem]) ?_
      refine MR.callH (i := 5) (some 28) (49) (#[.pointer (some ⟨p, 0, none⟩), .int .i64 (L.length : Int)]) (by kernel_rfl) rfl rfl (MR.free rfl) (by simp [execOp, MR.ev, MR.size, hsz, e2, f2, e3, f3, e4, f4, e5, f5, e6, f6, go_sem]) ?_
      refine Calls.mono (pick_any p a zs cap (0 + 400 + 2) (L.length : Int) _ hz (by omega) (HP3.out.cur.below ((Below.refl _ w3).drew))) ?_
      rintro e w5 ⟨n, rfl, hn, -, hc5, ho5⟩
      have HP5 : Hid _ := (HP3.out.kept ((Below.refl _ w3).drew)).drawn hc5 ho5
      have hS5 : w5.rangeAt q 0 [.slice a1 xs.length c1] ∧ MP.BsAt w5 a2 L := ⟨HP5.out.box.rng, by obtain ⟨x1, x2, x3, hb⟩ := CB.view HP5.out.all; injection x3 with e _ _; rw [e]; exact hb⟩
      refine ⟨_, rfl, hS5, ?_⟩
      have hn' : n < L.length := by omega
      have hni : (n : Int) < (L.length : Int) := by omega
      have hn0 : (0 : Int) ≤ (n : Int) := by omega
      obtain ⟨x, hx⟩ : ∃ x, MP.at_ L n = x := ⟨_, rfl⟩
      have hpx : x.py.size ≤ 61 := hx ▸ HL.out _ (by rw [MP.at_eq L n hn']; exact List.getElem_mem hn')
      obtain ⟨g, off, hab, hgl, hYr⟩ := MA.row_range hS5.2 hn'
      subst hab
      refine MR.takeH (i := 6) (some 29) (.pointer (some ⟨g, off + n * 10, none⟩)) rfl rfl (by kernel_rfl) (by kernel_rfl) (by kernel_rfl) (fun _ _ _ h => h) hS5 (MR.free rfl) (fun wq hw => by simp [execOp, MR.ev, MR.size, hsz, e2, f2, e3, f3, e4, f4, e5, f5, e6, f6, hni, hn0, hn', go_sem]) ?_
      refine MR.takeH (i := 7) (some 30) (x.v) rfl rfl (by kernel_rfl) (by kernel_rfl) (by kernel_rfl) (fun _ _ _ h => h) hS5 (MR.free rfl) (fun wq hw => MA.ex_load (b := g) (o := off + n * 10) rfl (by simp [MR.ev, MR.size, hsz, e2, f2, e3, f3, e4, f4, e5, f5, e6, f6]) (by obtain ⟨g', off', hab', hgl', hYr'⟩ := MA.row_range hw.2 hn'; cases hab'; rw [hx] at hYr'; exact hYr') Try.underlying24 rfl Try.sizeBundle rfl) ?_
      have hbs : ∀ X, MP.BsAt ((w5.setCells w.heap.size 0 [.slice a1 xs.length c1]).setCells (w.heap.size + 1) 0 X) (some ⟨g, off, none⟩) L ∧ MP.BsAt (w5.setCells w.heap.size 0 [.slice a1 xs.length c1]) (some ⟨g, off, none⟩) L := fun X => by
        have hne : ∀ z, (Value.slice (some ⟨g, off, none⟩) L.length c2).ownBlock = some z → A0.heap.size ≤ z := fun z e => (World.ownsRow.lt HP5.out.all z e).1
        have hA1 := PY.own_cells HP5.out.all (q := w.heap.size) (fun e => by have := hne _ e; have := HP5.out.pA; omega) 0 [.slice a1 xs.length c1]
        have hA2 := PY.own_cells hA1 (q := w.heap.size + 1) (fun e => by have := hne _ e; have := HP5.out.pA; omega) 0 X
        obtain ⟨x1, x2, x3, hb1⟩ := CB.view hA1; obtain ⟨y1, y2, y3, hb2⟩ := CB.view hA2
        injection x3 with e1 _ _; injection y3 with e2 _ _; exact ⟨by rw [e2]; exact hb2, by rw [e1]; exact hb1⟩
      have hE1' : (w5.setCells w.heap.size 0 [.slice a1 xs.length c1]).rangeAt q 0 [.slice a1 xs.length c1] := (HP5.out.box.other (k' := w.heap.size) (o' := 0) (vs := [.slice a1 xs.length c1]) (.inl (by omega))).rng
      refine MR.storeH (w' := w5.setCells w.heap.size 0 [.slice a1 xs.length c1]) (i := 8) (by kernel_rfl) rfl (MR.free rfl) (MA.ex_store rfl (by simp [PY.put_none, MR.ev, MR.size, hsz, e2, f2, e3, f3, e4, f4, e5, f5]) (by simp [PY.put_none, MR.ev, MR.size, hsz, e2, f2, e3, f3, e4, f4, e5, f5]) HP5.out.r1.ok Try.sizePileAS rfl (by simp [Value.oneCell'])) ⟨⟨hE1', (hbs []).2⟩, ?_⟩
      have hE2 := HP5.out.r2.other (k' := w.heap.size) (o' := 0) (vs := [.slice a1 xs.length c1]) (.inl (by omega))
      have hE3' : ((w5.setCells w.heap.size 0 [.slice a1 xs.length c1]).setCells (w.heap.size + 1) 0 x.cs).rangeAt q 0 [.slice a1 xs.length c1] := ((HP5.out.box.other (k' := w.heap.size) (o' := 0) (vs := [.slice a1 xs.length c1]) (.inl (by omega))).other (k' := w.heap.size + 1) (o' := 0) (vs := x.cs) (.inl (by omega))).rng
      refine MR.storeH (w' := (w5.setCells w.heap.size 0 [.slice a1 xs.length c1]).setCells (w.heap.size + 1) 0 x.cs) (i := 9) (by kernel_rfl) rfl (MR.free rfl) (MA.ex_store rfl (by simp [PY.put_none, MR.ev, MR.size, hsz, e2, f2, e3, f3, e4, f4, e5, f5]) (by simp [PY.put_none, MR.ev, MR.size, hsz, e2, f2, e3, f3, e4, f4, e5, f5]; rfl) hE2.ok Try.sizeBundle rfl (MA.cs_one _)) ⟨⟨hE3', (hbs _).1⟩, ?_⟩
      refine wpAnyH_done (by kernel_rfl) ?_ _
      rw [HA.out]
      simp only [Act.put, List.setIfInBounds_toArray, List.set_cons_succ, List.set_cons_zero, List.getElem_toArray, List.getElem_cons_succ, List.getElem_cons_zero]
      go_wp2
      have zP := HP5.out
      have zA := zP.pA
      exact bodyPost_ret (PY.ret_cc rfl rfl rfl (MA.load_rg ((zP.r1.put (vs := [.slice a1 xs.length c1]) rfl).other (k' := w.heap.size + 1) (o' := 0) (vs := x.cs) (.inl (by omega))) Try.underlying31 rfl Try.sizePileAS rfl) (MA.load_rg ((zP.r2.other (k' := w.heap.size) (o' := 0) (vs := [.slice a1 xs.length c1]) (.inl (by omega))).put (vs := x.cs) rfl) Try.underlying24 rfl Try.sizeBundle rfl)) rfl ⟨a1, c1, xs, _, rfl, CB.own_mono (PY.own_cells (q := w.heap.size + 1) (PY.own_cells (q := w.heap.size) zP.row (fun e => by have := (World.ownsRow.lt zP.row _ e).1; omega) _ _) (fun e => by have := (World.ownsRow.lt zP.row _ e).1; omega) _ _) (by omega), hxl, HX.out, hpx, MA.below_cells (b := w.heap.size + 1) (by omega) _ _ _ (MA.below_cells (b := w.heap.size) (Nat.le_refl _) _ _ _ (HNB.out _ zP.only))⟩
    · skip
      go_wp2
      refine MR.frame fun A hA => ?_
      have hsz : A.tmps.size = 34 := by rw [hA]; rfl
      have e2 : A.eval (.tmp 2) = .pointer (some ⟨w.heap.size, 0, none⟩) := by rw [hA]; rfl
      have f2 := MR.read (t := 2) (by rw [hsz]; decide) e2
      have e3 : A.eval (.tmp 3) = .pointer (some ⟨w.heap.size + 1, 0, none⟩) := by rw [hA]; rfl
      have f3 := MR.read (t := 3) (by rw [hsz]; decide) e3
      have e4 : A.eval (.tmp 4) = .pointer (some ⟨p, 0, none⟩) := by rw [hA]; rfl
      have f4 := MR.read (t := 4) (by rw [hsz]; decide) e4
      have e5 : A.eval (.tmp 5) = .pointer (some ⟨q, 0, none⟩) := by rw [hA]; rfl
      have f5 := MR.read (t := 5) (by rw [hsz]; decide) e5
      have HA : Hid (A = _) := hA
      clear hA
      have hS : (fun w' : World => w'.rangeAt q 0 [.slice a1 xs.length c1]) (World.drew _) := HP3.out.box.drew.rng
      refine wp_region_held (S := fun w' : World => w'.rangeAt q 0 [.slice a1 xs.length c1]) (by kernel_rfl) ?_
      change wpAnyH _ _ _ _ _ _ _ _ (World.drew _)
      refine MR.takeH (i := 0) (some 31) (.agg #[.slice a1 xs.length c1]) rfl rfl (by kernel_rfl) (by kernel_rfl) (by kernel_rfl) (fun _ _ _ h => h) hS (MR.free rfl) (fun wq hw => MA.ex_load rfl (by simp [MR.ev, MR.size, hsz, e2, f2, e3, f3, e4, f4, e5, f5]) hw Try.underlying31 rfl Try.sizePileAS rfl) ?_
      refine MR.takeH (i := 1) (some 32) (.pointer (some ⟨p, 0, none⟩)) rfl rfl (by kernel_rfl) (by kernel_rfl) (by kernel_rfl) (fun _ _ _ h => h) hS (MR.free rfl) (fun wq hw => by simp [execOp, MR.ev, MR.size, hsz, e2, f2, e3, f3, e4, f4, e5, f5, go_sem]) ?_
      refine MR.callH (i := 2) (some 33) (48) (#[.pointer (some ⟨p, 0, none⟩)]) (by kernel_rfl) rfl rfl (MR.free rfl) (by simp [execOp, MR.ev, MR.size, hsz, e2, f2, e3, f3, e4, f4, e5, f5, go_sem]) ?_
      refine Calls.mono (piece_any p a zs cap (0 + 400 + 2) _ hz (by omega) (HP3.out.cur.below ((Below.refl _ w3).drew))) ?_
      rintro e w5 ⟨b, rfl, hpb, hc5, ho5⟩
      have HP5 : Hid _ := (HP3.out.kept ((Below.refl _ w3).drew)).drawn hc5 ho5
      have hS5 : w5.rangeAt q 0 [.slice a1 xs.length c1] := HP5.out.box.rng
      refine ⟨_, rfl, hS5, ?_⟩
      have hE1 : (w5.setCells w.heap.size 0 [.slice a1 xs.length c1]).rangeAt q 0 [.slice a1 xs.length c1] := (HP5.out.box.other (k' := w.heap.size) (o' := 0) (vs := [.slice a1 xs.length c1]) (.inl (by omega))).rng
      refine MR.storeH (w' := w5.setCells w.heap.size 0 [.slice a1 xs.length c1]) (i := 3) (by kernel_rfl) rfl (MR.free rfl) (MA.ex_store rfl (by simp [PY.put_none, MR.ev, MR.size, hsz, e2, f2, e3, f3, e4, f4, e5, f5]) (by simp [PY.put_none, MR.ev, MR.size, hsz, e2, f2, e3, f3, e4, f4, e5, f5]) HP5.out.r1.ok Try.sizePileAS rfl (by simp [Value.oneCell'])) ⟨hE1, ?_⟩
      have hE2 := HP5.out.r2.other (k' := w.heap.size) (o' := 0) (vs := [.slice a1 xs.length c1]) (.inl (by omega))
      have hE3 : ((w5.setCells w.heap.size 0 [.slice a1 xs.length c1]).setCells (w.heap.size + 1) 0 b.cs).rangeAt q 0 [.slice a1 xs.length c1] := ((HP5.out.box.other (k' := w.heap.size) (o' := 0) (vs := [.slice a1 xs.length c1]) (.inl (by omega))).other (k' := w.heap.size + 1) (o' := 0) (vs := b.cs) (.inl (by omega))).rng
      refine MR.storeH (w' := (w5.setCells w.heap.size 0 [.slice a1 xs.length c1]).setCells (w.heap.size + 1) 0 b.cs) (i := 4) (by kernel_rfl) rfl (MR.free rfl) (MA.ex_store rfl (by simp [PY.put_none, MR.ev, MR.size, hsz, e2, f2, e3, f3, e4, f4, e5, f5]) (by simp [PY.put_none, MR.ev, MR.size, hsz, e2, f2, e3, f3, e4, f4, e5, f5]; rfl) hE2.ok Try.sizeBundle rfl (MA.cs_one _)) ⟨hE3, ?_⟩
      refine wpAnyH_done (by kernel_rfl) ?_ _
      rw [HA.out]
      simp only [Act.put, List.setIfInBounds_toArray, List.set_cons_succ, List.set_cons_zero, List.getElem_toArray, List.getElem_cons_succ, List.getElem_cons_zero]
      go_wp2
      have zP := HP5.out
      have zA := zP.pA
      exact bodyPost_ret (PY.ret_cc rfl rfl rfl (MA.load_rg ((zP.r1.put (vs := [.slice a1 xs.length c1]) rfl).other (k' := w.heap.size + 1) (o' := 0) (vs := b.cs) (.inl (by omega))) Try.underlying31 rfl Try.sizePileAS rfl) (MA.load_rg ((zP.r2.other (k' := w.heap.size) (o' := 0) (vs := [.slice a1 xs.length c1]) (.inl (by omega))).put (vs := b.cs) rfl) Try.underlying24 rfl Try.sizeBundle rfl)) rfl ⟨a1, c1, xs, _, rfl, CB.own_mono (PY.own_cells (q := w.heap.size + 1) (PY.own_cells (q := w.heap.size) zP.row (fun e => by have := (World.ownsRow.lt zP.row _ e).1; omega) _ _) (fun e => by have := (World.ownsRow.lt zP.row _ e).1; omega) _ _) (by omega), hxl, HX.out, hpb, MA.below_cells (b := w.heap.size + 1) (by omega) _ _ _ (MA.below_cells (b := w.heap.size) (Nat.le_refl _) _ _ _ (HNB.out _ zP.only))⟩
end Go.Proofs.Ytdgflhgbcfehhaa

/- The law FnCovers answers true, whatever bytes it draws from. -/
namespace Go.Proofs.Ytdgflhgbcfehhaa
open Go.RowKit
theorem PY.ans_len {xs : List Bd} {b : Bd} (h : xs.length ≤ 60) : (PD.ans xs b).1.length ≤ 60 := by
  unfold PD.ans
  split
  · simp
  · split
    · exact h
    · split
      · rename_i h2; exact PY.good_len h2
      · simp
theorem PY.ints_own {w : World} {base e n c : Nat} {a : Option Addr} {zs : List Int} (h : w.ownsRow base e 1 (.slice a n c) n (M4.iv zs)) : M4.IntsAt w a zs := by
  have hl : zs.length = n := by have := h.1; simpa [M4.iv] using this
  rcases h.2 with ⟨h1, h0⟩ | ⟨g, cap, cur, h1, -⟩
  · exact .inl (List.eq_nil_of_length_eq_zero (by omega))
  · simp only [Value.slice.injEq] at h1
    obtain ⟨rfl, -, rfl⟩ := h1
    refine .inr ⟨g, 0, rfl, (h.lt g rfl).2, fun j hj => ?_⟩
    rw [Nat.zero_add, h.cellAt j (by omega)]
    simp [M4.iv, hj]
/-- The first i of a row but the m-th. -/
def lessL (c : List Int) (m i : Nat) : List Int := (c.eraseIdx m).take (if m < i then i - 1 else i)
theorem PY.below_bytes (W : World) (e : TypeId) (s : ByteArray) : Below W.heap.size W (Lib.bytesWorld W e s) :=
  ⟨rfl, rfl, rfl, by rw [Lib.bytesWorld_size]; omega, fun k hk => Lib.bytesWorld_at_old W e s k hk⟩
theorem PY.ans_small {xs : List Bd} {b : Bd} (h : ∀ x ∈ xs, x.py.size ≤ 61) (hb : b.py.size ≤ 61) : ∀ x ∈ (PD.ans xs b).1, x.py.size ≤ 61 := fun x hx => by
  rw [PD.ans_same] at hx
  rcases PY.ansS_mem hx with h' | h'
  · exact h x h'
  · rw [h']; exact hb
set_option linter.unusedSimpArgs false in
set_option maxHeartbeats 12800000 in
set_option maxRecDepth 100000 in
theorem lawFnCovers_any (a a' : Option Addr) (zs ys : List Int) (ca cb : Nat) (w : World) (hz : zs.length ≤ 140737488355328) (hy : ys.length ≤ 140737488355328) (hbz : MC.BytesAt w w.heap.size a zs) (hby : MC.BytesAt w w.heap.size a' ys) :
    Calls Try.prog 4 #[.slice a zs.length ca, .slice a' ys.length cb] w fun e w' => e = .returned (.bool true) ∧ Below w.heap.size w w' := by
  by_cases h20 : zs.length + ys.length ≤ 1048576
  · have HBY : Hid (∀ W : World, Below w.heap.size w W → MC.BytesAt W W.heap.size a' ys) := fun W h => (hby.only (q := w.heap.size) (MC.Only.of_below h) (Nat.le_refl _) (Nat.le_refl _)).up h.size
    clear hby
    go_enter Try.func4, Try.ntmps4
    go_wp2_with fail
    refine (drawAddPiece_any a zs ca _ hz hbz).mono ?_
    rintro e W1 ⟨a1, c1, xs, b, rfl, hu, hxl, hxp, hpb, BW⟩
    clear hbz
    obtain ⟨aq, cq, eq, hrow⟩ := CB.view hu
    obtain ⟨rfl, -, rfl⟩ : a1 = aq ∧ xs.length = xs.length ∧ c1 = cq := by injection eq with e1 e2 e3; exact ⟨e1, rfl, e3⟩
    clear eq
    have HXS : Hid _ := PY.small hxp
    have HFC : Hid ((PD.ans xs b).2 = true → PY.FC xs (PD.ans xs b).1 b) := PY.fc_of
    have HYS : Hid (∀ k, k < (PD.ans xs b).1.length → (MP.at_ (PD.ans xs b).1 k).py.size ≤ 1048576) := PY.small (PY.ans_small hxp hpb)
    have hyl : (PD.ans xs b).1.length ≤ 60 := PY.ans_len hxl
    have HIA : Hid (∀ W : World, MP.BsAt W a1 xs → Calls Try.prog 10 #[.agg #[.slice a1 xs.length c1], .agg b.cs.toArray] W fun e w' => ∃ a3 c3, e = .returned (.tuple #[.agg #[.slice a3 (PD.ans xs b).1.length c3], .bool (PD.ans xs b).2]) ∧ MP.BsAt w' a3 (PD.ans xs b).1 ∧ Below W.heap.size W w') := fun W h =>
      (implAdd_any a1 c1 xs b W (by omega) (by omega) HXS h).mono (by rintro e w' ⟨a3, c3, g, rfl, hg, hr, hb⟩; exact ⟨a3, c3, rfl, (PP.add_row hg hr).1, hb⟩)
    have HSA : Hid (∀ W : World, W.ownsRow w.heap.size 24 10 (.slice a1 xs.length c1) xs.length (MP.flat xs) → Calls Try.prog 18 #[.agg #[.slice a1 xs.length c1], .agg b.cs.toArray] W fun e w' => ∃ a3 c3, e = .returned (.tuple #[.agg #[.slice a3 (PD.ans xs b).1.length c3], .bool (PD.ans xs b).2]) ∧ MP.BsAt w' a3 (PD.ans xs b).1 ∧ Below W.heap.size W w') := fun W h => by
      rw [PD.ans_same]
      exact (specAddO_any w.heap.size _ xs b W (by omega) (by omega) HXS h).mono (by rintro e w' ⟨a3, c3, rfl, ho, hb⟩; obtain ⟨x1, x2, x3, hb2⟩ := CB.view ho; injection x3 with e1 _ _; exact ⟨a3, c3, rfl, by rw [e1]; exact hb2, hb⟩)
    have HGI : Hid (∀ W : World, MP.BsAt W a1 xs → _) := fun W h => implGoodPile_any a1 c1 xs W (by omega) HXS h
    have hcap : xs.length ≤ c1 := by
      rcases hu.2 with ⟨e, h0⟩ | ⟨g, cap, cur, e, hb, hg, hc1, _⟩
      · omega
      · injection e with _ _ e3; omega
    have HGS : Hid (∀ W : World, MP.BsAt W a1 xs → _) := fun W h => specGoodPile_any a1 c1 xs W (by omega) HXS h hcap
    have HCV : Hid (∀ W : World, MP.BsAt W a1 xs → _) := fun W h => implCovered_any a1 c1 xs W (by omega) HXS h
    have PB := PP.PBox.new (w := W1) (T := 31) (cap := c1) rfl hrow (PP.far_of hrow (Nat.le_refl _))
    replace PB := PB.alloc (.cells (BX.cs b).toArray 24)
    have hbx := BX.Box.new (W1.alloc (.cells #[.slice a1 xs.length c1] 31)) 24 b (W1.heap.size + 1) (by simp)
    have HU : Hid (((W1.alloc (.cells #[.slice a1 xs.length c1] 31)).alloc (.cells (BX.cs b).toArray 24)).ownsRow w.heap.size 24 10 (.slice a1 xs.length c1) xs.length (MP.flat xs)) := World.ownsRow.alloc (World.ownsRow.alloc hu _) _
    replace BW := (BW.alloc BW.size (.cells #[.slice a1 xs.length c1] 31)).alloc (by have := BW.size; simp; omega) (.cells (BX.cs b).toArray 24)
    clear hxp hu hrow
    have hof : Hid ((PD.ans xs b).2 = true → True) := fun _ => trivial
    generalize (PD.ans xs b).2 = OK at *
    generalize (PD.ans xs b).1 = Y at *
    obtain ⟨x0, x1, x2, x3, x4, x5, x6, x7, x8, x9⟩ := b
    simp only [BX.cs, Bd.cs] at hbx BW HU PB HIA HSA
    go_wp2_with fail
    generalize (W1.alloc (.cells #[.slice a1 xs.length c1] 31)).alloc (.cells #[.int .i64 x0, .int .i64 x1, .bool x2, .int .i64 x3, .int .i64 x4, .int .i64 x5, .int .i64 x6, .int .i64 x7, .int .i64 x8, .string x9] 24) = W2 at *
    obtain ⟨k5, hk5⟩ : ∃ q, W1.heap.size = q := ⟨_, rfl⟩
    rw [hk5] at hbx PB ⊢
    clear hk5
    refine (HIA.out _ PB.row).mono ?_
    rintro e W3 ⟨a3, c3, rfl, hY, hb⟩
    have PX := PP.PBox.new (w := W3) (T := 31) (cap := c3) rfl hY (PP.far_of hY (Nat.le_refl _))
    have HU3 : Hid _ := World.ownsRow.alloc (MP.own_below HU.out hb) (.cells #[.slice a3 Y.length c3] 31)
    replace PB := (PB.below hb).alloc (.cells #[.slice a3 Y.length c3] 31)
    have hb6 := (hbx.below hb hbx.lt).alloc (.cells #[.slice a3 Y.length c3] 31)
    replace BW := (BW.trans (hb.mono BW.size)).alloc (by have := BW.size; have := hb.size; omega) (.cells #[.slice a3 Y.length c3] 31)
    clear hb hY HU HIA hbx
    have c5 := PB.cell
    have l5 := PB.lt
    have k0 := hb6.cells 0
    have k1 := hb6.cells 1
    have k2 := hb6.cells 2
    have k3 := hb6.cells 3
    have k4 := hb6.cells 4
    have k5 := hb6.cells 5
    have k6 := hb6.cells 6
    have k7 := hb6.cells 7
    have k8 := hb6.cells 8
    have k9 := hb6.cells 9
    simp [Bd.cs] at k0 k1 k2 k3 k4 k5 k6 k7 k8 k9
    have kl := hb6.lt
    go_wp2_with fail
    clear k0 k1 k2 k3 k4 k5 k6 k7 k8 k9 kl
    clear c5 l5
    generalize W3.alloc (.cells #[.slice a3 Y.length c3] 31) = W4 at *
    obtain ⟨k7, hk7⟩ : ∃ q, W3.heap.size = q := ⟨_, rfl⟩
    rw [hk7] at PX ⊢
    clear hk7
    refine (HSA.out _ HU3.out).mono ?_
    rintro e W5 ⟨a4, c4, rfl, hY, hb⟩
    have P9 := PP.PBox.new (w := W5) (T := 31) (cap := c4) rfl hY (PP.far_of hY (Nat.le_refl _))
    replace PB := (PB.below hb).alloc (.cells #[.slice a4 Y.length c4] 31)
    replace PX := (PX.below hb).alloc (.cells #[.slice a4 Y.length c4] 31)
    replace hb6 := (hb6.below hb hb6.lt).alloc (.cells #[.slice a4 Y.length c4] 31)
    replace BW := (BW.trans (hb.mono BW.size)).alloc (by have := BW.size; have := hb.size; omega) (.cells #[.slice a4 Y.length c4] 31)
    clear hb hY HU3 HSA
    go_upto_region 6 with fail
    generalize W5.alloc (.cells #[.slice a4 Y.length c4] 31) = W6 at *
    obtain ⟨k9, hk9⟩ : ∃ q, W5.heap.size = q := ⟨_, rfl⟩
    rw [hk9] at P9 ⊢
    clear hk9
    have hoo : (OK != OK) = false := by simp
    have hgg : (PL.good xs != PL.good xs) = false := by simp
    refine MR.frame fun A hA => ?_
    have hsz : A.tmps.size = 224 := by rw [hA]; rfl
    have e5 : A.eval (.tmp 5) = .pointer (some ⟨k5, 0, none⟩) := by rw [hA]; rfl
    have f5 := MR.read (t := 5) (by rw [hsz]; decide) e5
    have e7 : A.eval (.tmp 7) = .pointer (some ⟨k7, 0, none⟩) := by rw [hA]; rfl
    have f7 := MR.read (t := 7) (by rw [hsz]; decide) e7
    have e8 : A.eval (.tmp 8) = .bool OK := by rw [hA]; rfl
    have f8 := MR.read (t := 8) (by rw [hsz]; decide) e8
    have e9 : A.eval (.tmp 9) = .pointer (some ⟨k9, 0, none⟩) := by rw [hA]; rfl
    have f9 := MR.read (t := 9) (by rw [hsz]; decide) e9
    have e10 : A.eval (.tmp 10) = .bool OK := by rw [hA]; rfl
    have f10 := MR.read (t := 10) (by rw [hsz]; decide) e10
    have HA : Hid (A = _) := hA
    clear hA
    have hS : (fun w' : World => Below W6.heap.size W6 w') (World.drew _) := ((Below.refl _ W6).drew)
    refine wp_region_held (S := fun w' : World => Below W6.heap.size W6 w') (by kernel_rfl) ?_
    change wpAnyH _ _ _ _ _ _ _ _ (World.drew _)
    refine MR.takeH (i := 0) (some 54) (.bool OK) rfl rfl (by kernel_rfl) (by kernel_rfl) (by kernel_rfl) (fun _ _ _ h => h) hS (MR.free rfl) (fun wq hw => by simp [execOp, MR.ev, MR.size, hsz, e5, f5, e7, f7, e8, f8, e9, f9, e10, f10, go_sem]) ?_
    refine MR.takeH (i := 1) (some 55) (.bool OK) rfl rfl (by kernel_rfl) (by kernel_rfl) (by kernel_rfl) (fun _ _ _ h => h) hS (MR.free rfl) (fun wq hw => by simp [execOp, MR.ev, MR.size, hsz, e5, f5, e7, f7, e8, f8, e9, f9, e10, f10, go_sem]) ?_
    refine MR.takeH (i := 2) (some 56) (.bool false) rfl rfl (by kernel_rfl) (by kernel_rfl) (by kernel_rfl) (fun _ _ _ h => h) hS (MR.free rfl) (fun wq hw => by simp [execOp, MR.ev, MR.size, hsz, e5, f5, e7, f7, e8, f8, e9, f9, e10, f10, hoo, go_sem]) ?_
    refine MR.takeH (i := 3) (some 57) (.bool false) rfl rfl (by kernel_rfl) (by kernel_rfl) (by kernel_rfl) (fun _ _ _ h => h) hS (MR.free rfl) (fun wq hw => by simp [execOp, MR.ev, MR.size, hsz, e5, f5, e7, f7, e8, f8, e9, f9, e10, f10, go_sem]) ?_
    refine MR.takeH (i := 4) (some 58) (.agg #[.slice a3 Y.length c3]) rfl rfl (by kernel_rfl) (by kernel_rfl) (by kernel_rfl) (fun _ _ _ h => h) hS (MR.want (d := 57) rfl rfl (by simp [MR.size, hsz]) (by simp [MR.ev, MR.size, hsz, e5, f5, e7, f7, e8, f8, e9, f9, e10, f10])) (fun wq hw => MA.ex_load (o := 0) rfl (by simp [MR.ev, MR.size, hsz, e5, f5, e7, f7, e8, f8, e9, f9, e10, f10]) (MA.range_below (cs := [.slice a3 Y.length c3]) (fun j v hv => by match j, hv with | 0, hv => cases hv; exact PX.cell) hw PX.lt) Try.underlying31 rfl Try.sizePileAS rfl) ?_
    refine MR.takeH (i := 5) (some 59) (.agg #[.slice a4 Y.length c4]) rfl rfl (by kernel_rfl) (by kernel_rfl) (by kernel_rfl) (fun _ _ _ h => h) hS (MR.want (d := 57) rfl rfl (by simp [MR.size, hsz]) (by simp [MR.ev, MR.size, hsz, e5, f5, e7, f7, e8, f8, e9, f9, e10, f10])) (fun wq hw => MA.ex_load (o := 0) rfl (by simp [MR.ev, MR.size, hsz, e5, f5, e7, f7, e8, f8, e9, f9, e10, f10]) (MA.range_below (cs := [.slice a4 Y.length c4]) (fun j v hv => by match j, hv with | 0, hv => cases hv; exact P9.cell) hw P9.lt) Try.underlying31 rfl Try.sizePileAS rfl) ?_
    refine MR.callH (i := 6) (some 60) (11) (#[.agg #[.slice a3 Y.length c3], .agg #[.slice a4 Y.length c4]]) (by kernel_rfl) rfl rfl (MR.want (d := 57) rfl rfl (by simp [MR.size, hsz]) (by simp [MR.ev, MR.size, hsz, e5, f5, e7, f7, e8, f8, e9, f9, e10, f10])) (by simp [execOp, MR.ev, MR.size, hsz, e5, f5, e7, f7, e8, f8, e9, f9, e10, f10, go_sem]) ?_
    refine Calls.mono (samePiles_any a3 a4 c3 c4 Y _ (by omega) (PX.row.below hS) (P9.row.below hS)) ?_
    rintro e W7 ⟨rfl, hb7⟩
    have hS7 : Below W6.heap.size W6 W7 := hS.trans (hb7.mono hS.size)
    refine ⟨_, rfl, hS7, ?_⟩
    refine MR.takeH (i := 7) (some 61) (.bool false) rfl rfl (by kernel_rfl) (by kernel_rfl) (by kernel_rfl) (fun _ _ _ h => h) hS7 (MR.want (d := 57) rfl rfl (by simp [MR.size, hsz]) (by simp [MR.ev, MR.size, hsz, e5, f5, e7, f7, e8, f8, e9, f9, e10, f10])) (fun wq hw => by simp [execOp, MR.ev, MR.size, hsz, e5, f5, e7, f7, e8, f8, e9, f9, e10, f10, go_sem]) ?_
    refine MR.takeH (i := 8) (some 62) (.bool false) rfl rfl (by kernel_rfl) (by kernel_rfl) (by kernel_rfl) (fun _ _ _ h => h) hS7 (MR.free rfl) (fun wq hw => by simp [execOp, MR.ev, MR.size, hsz, e5, f5, e7, f7, e8, f8, e9, f9, e10, f10, go_sem]) ?_
    refine MR.takeH (i := 9) (some 63) (.bool false) rfl rfl (by kernel_rfl) (by kernel_rfl) (by kernel_rfl) (fun _ _ _ h => h) hS7 (MR.free rfl) (fun wq hw => by simp [execOp, MR.ev, MR.size, hsz, e5, f5, e7, f7, e8, f8, e9, f9, e10, f10, go_sem]) ?_
    refine MR.takeH (i := 10) (some 64) (.agg #[.slice a1 xs.length c1]) rfl rfl (by kernel_rfl) (by kernel_rfl) (by kernel_rfl) (fun _ _ _ h => h) hS7 (MR.want (d := 63) rfl rfl (by simp [MR.size, hsz]) (by simp [MR.ev, MR.size, hsz, e5, f5, e7, f7, e8, f8, e9, f9, e10, f10])) (fun wq hw => MA.ex_load (o := 0) rfl (by simp [MR.ev, MR.size, hsz, e5, f5, e7, f7, e8, f8, e9, f9, e10, f10]) (MA.range_below (cs := [.slice a1 xs.length c1]) (fun j v hv => by match j, hv with | 0, hv => cases hv; exact PB.cell) hw PB.lt) Try.underlying31 rfl Try.sizePileAS rfl) ?_
    refine MR.takeH (i := 12) (some 66) (.agg #[.slice a1 xs.length c1]) rfl rfl (by kernel_rfl) (by kernel_rfl) (by kernel_rfl) (fun _ _ _ h => h) hS7 (MR.want (d := 63) rfl rfl (by simp [MR.size, hsz]) (by simp [MR.ev, MR.size, hsz, e5, f5, e7, f7, e8, f8, e9, f9, e10, f10])) (fun wq hw => MA.ex_load (o := 0) rfl (by simp [MR.ev, MR.size, hsz, e5, f5, e7, f7, e8, f8, e9, f9, e10, f10]) (MA.range_below (cs := [.slice a1 xs.length c1]) (fun j v hv => by match j, hv with | 0, hv => cases hv; exact PB.cell) hw PB.lt) Try.underlying31 rfl Try.sizePileAS rfl) ?_
    refine MR.callH (i := 11) (some 65) (19) (#[.agg #[.slice a1 xs.length c1]]) (by kernel_rfl) rfl rfl (MR.want (d := 63) rfl rfl (by simp [MR.size, hsz]) (by simp [MR.ev, MR.size, hsz, e5, f5, e7, f7, e8, f8, e9, f9, e10, f10])) (by simp [execOp, MR.ev, MR.size, hsz, e5, f5, e7, f7, e8, f8, e9, f9, e10, f10, go_sem]) ?_
    refine Calls.mono (HGI.out _ (PB.row.below hS7)) ?_
    rintro e W8 ⟨rfl, hb8⟩
    have hS8 : Below W6.heap.size W6 W8 := hS7.trans (hb8.mono hS7.size)
    refine ⟨_, rfl, hS8, ?_⟩
    refine MR.callH (i := 13) (some 67) (20) (#[.agg #[.slice a1 xs.length c1]]) (by kernel_rfl) rfl rfl (MR.want (d := 63) rfl rfl (by simp [MR.size, hsz]) (by simp [MR.ev, MR.size, hsz, e5, f5, e7, f7, e8, f8, e9, f9, e10, f10])) (by simp [execOp, MR.ev, MR.size, hsz, e5, f5, e7, f7, e8, f8, e9, f9, e10, f10, go_sem]) ?_
    refine Calls.mono (HGS.out _ (PB.row.below hS8)) ?_
    rintro e W9 ⟨rfl, hb9⟩
    have hS9 : Below W6.heap.size W6 W9 := hS8.trans (hb9.mono hS8.size)
    refine ⟨_, rfl, hS9, ?_⟩
    refine MR.takeH (i := 14) (some 68) (.bool false) rfl rfl (by kernel_rfl) (by kernel_rfl) (by kernel_rfl) (fun _ _ _ h => h) hS9 (MR.want (d := 63) rfl rfl (by simp [MR.size, hsz]) (by simp [MR.ev, MR.size, hsz, e5, f5, e7, f7, e8, f8, e9, f9, e10, f10])) (fun wq hw => by simp [execOp, MR.ev, MR.size, hsz, e5, f5, e7, f7, e8, f8, e9, f9, e10, f10, hgg, go_sem]) ?_
    refine MR.takeH (i := 15) (some 69) (.bool false) rfl rfl (by kernel_rfl) (by kernel_rfl) (by kernel_rfl) (fun _ _ _ h => h) hS9 (MR.free rfl) (fun wq hw => by simp [execOp, MR.ev, MR.size, hsz, e5, f5, e7, f7, e8, f8, e9, f9, e10, f10, go_sem]) ?_
    refine wpAnyH_done (by kernel_rfl) ?_ _
    rw [HA.out]
    simp only [Act.put, List.setIfInBounds_toArray, List.set_cons_succ, List.set_cons_zero]
    replace PB := PB.below hS9
    replace PX := PX.below hS9
    replace hb6 := hb6.below hS9 hb6.lt
    replace BW := BW.trans (hS9.mono BW.size)
    clear P9 HA hS hS7 hS8 hS9 hb7 hb8 hb9 hsz e5 f5 e7 f7 e8 f8 e9 f9 e10 f10 hoo hgg HGS
    go_upto_if 70 with fail
    go_cut [11, 12, 13, 14, 16, 17, 19] (fun _ _ _ _ _ _ _ wx => Below w.heap.size w wx)
    case first =>
      clear HBY
      cases OK
      · clear HFC HYS HGI HCV
        go_wp2_with fail
        go_meet
        exact BW
      · replace HFC : Hid _ := HFC.out rfl
        have gx := HFC.out.gx
        have gy := HFC.out.gy
        rw [gx] at HCV
        have HCY : Hid (∀ W : World, MP.BsAt W a3 Y → Calls Try.prog 21 #[.agg #[.slice a3 Y.length c3]] W fun e w' => ∃ a1 c1, e = .returned (.tuple #[.slice a1 (covL Y).length c1, .bool true]) ∧ w'.ownsRow W.heap.size 3 1 (.slice a1 (covL Y).length c1) (covL Y).length (M4.iv (covL Y)) ∧ Below W.heap.size W w') := fun W h => by
          have := implCovered_any a3 c3 Y W (by omega) HYS h
          rw [gy] at this; exact this
        have HGY : Hid (∀ W : World, MP.BsAt W a3 Y → Calls Try.prog 19 #[.agg #[.slice a3 Y.length c3]] W fun e w' => e = .returned (.bool true) ∧ Below W.heap.size W w') := fun W h => by
          have := implGoodPile_any a3 c3 Y W (by omega) HYS h
          rw [gy] at this; exact this
        clear gx gy HGI hof
        have c5 := PB.cell
        have l5 := PB.lt
        have c7 := PX.cell
        have l7 := PX.lt
        go_wp2_with fail
        refine (HCV.out _ PB.row).mono ?_
        rintro e V1 ⟨aL, cL, rfl, hL, hb⟩
        replace PX := PX.below hb
        replace hb6 := hb6.below hb hb6.lt
        replace BW := BW.trans (hb.mono BW.size)
        have hLi := PY.ints_own hL
        clear hb hL HCV PB c5 l5 c7 l7
        have c7 := PX.cell
        have l7 := PX.lt
        go_wp2_with fail
        refine (HCY.out _ PX.row).mono ?_
        rintro e V2 ⟨aM, cM, rfl, hM, hb⟩
        replace PX := PX.below hb
        replace hb6 := hb6.below hb hb6.lt
        replace BW := BW.trans (hb.mono BW.size)
        replace hLi := hLi.below hb
        have hMi := PY.ints_own hM
        clear hb hM HCY c7 l7
        have c7 := PX.cell
        have l7 := PX.lt
        go_wp2_with fail
        refine (HGY.out _ PX.row).mono ?_
        rintro e V3 ⟨rfl, hb⟩
        replace hb6 := hb6.below hb hb6.lt
        replace BW := BW.trans (hb.mono BW.size)
        replace hLi := hLi.below hb
        replace hMi := hMi.below hb
        have hll : (covL xs).length ≤ 60 := by
          unfold covL; split
          · rw [plF, List.length_map]; have := List.length_filter_le (PL.sh xs xs.length).th (List.range 60); simpa using this
          · simp
        have hml : (covL Y).length ≤ 60 := by
          unfold covL; split
          · rw [plF, List.length_map]; have := List.length_filter_le (PL.sh Y Y.length).th (List.range 60); simpa using this
          · simp
        clear hb HGY c7 l7 PX HYS HXS hyl hxl hcap
        obtain ⟨-, -, hof0, hofn, hup, hnew, honly⟩ := HFC.out
        have HUP : Hid _ := hup
        have HNEW : Hid _ := hnew
        have HONLY : Hid _ := honly
        clear hup hnew honly HFC
        generalize covL xs = L at *
        generalize covL Y = M at *
        have hof0' : 0 ≤ x7 := hof0
        have hofn' : x7 + (x9.size : Int) ≤ 60 := hofn
        clear hof0 hofn
        go_wp2_with fail
        go_loopw [94] (fun iv wr => ∃ k : Nat, iv = .int .i64 k ∧ k ≤ L.length ∧ wr = V3) (fun iv _ => (L.length - intOf iv).toNat)
        case atStart => exact ⟨0, rfl, by omega, rfl⟩
        case round =>
        obtain ⟨k, rfl, hk, rfl⟩ := hrel
        by_cases hl : k < L.length
        · obtain ⟨g, off, rfl, hgl, hg⟩ := hLi.at hl
          have hzm : L.getD k 0 ∈ L := by rw [List.getD_eq_getElem?_getD, List.getElem?_eq_getElem hl]; exact List.getElem_mem hl
          generalize L.getD k 0 = z at *
          go_wp2_with fail
          refine (hasL_any aM cM M z _ (by omega) hMi).mono ?_
          rintro e V4 ⟨rfl, rfl⟩
          rw [HUP.out z hzm]
          go_wp2_with fail
          go_roundw
          case rel => exact ⟨k + 1, by go_num, by omega, trivial⟩
          case measure => simp [intOf]; omega
        · obtain rfl : k = L.length := by omega
          clear hk hl HUP
          have k9 := hb6.cells 9
          simp [Bd.cs] at k9
          have kl := hb6.lt
          have cv : ∀ W : World, (convert 9 22 (.string x9)).run Try.prog W = .ok (.slice (some ⟨W.heap.size, 0, none⟩) x9.size (grownCap W x9.size 0 5)) (Lib.bytesWorld W 5 x9) := fun W => Lib.run_convert_string_bytes W 9 22 5 x9 Try.underlying9 Try.underlying22 Try.underlying5
          go_wp2_with fail
          have hbb := PY.below_bytes wr 5 x9
          generalize hv4 : Lib.bytesWorld wr 5 x9 = V4 at *
          clear hv4 cv k9 kl
          replace hb6 := hb6.below hbb hb6.lt
          replace BW := BW.trans (hbb.mono BW.size)
          replace hLi := hLi.below hbb
          replace hMi := hMi.below hbb
          have hbl := hbb.size
          clear hbb
          go_loopw [107] (fun iv wv => ∃ k : Nat, iv = .int .i64 k ∧ k ≤ x9.size ∧ wv = V4) (fun iv _ => (x9.size - intOf iv).toNat)
          case atStart => exact ⟨0, rfl, by omega, rfl⟩
          case round =>
            obtain ⟨k, rfl, hk, rfl⟩ := hrel
            by_cases hl : k < x9.size
            · have k7' := hb6.cells 7
              simp [Bd.cs] at k7'
              have kl := hb6.lt
              have hwz : IntKind.i64.wrap (x7 + (k : Int)) = x7 + (k : Int) := by rw [IntKind.wrap_i64]; omega
              go_wp2_with fail
              refine (hasL_any aM cM M (x7 + (k : Int)) _ (by omega) hMi).mono ?_
              rintro e V5 ⟨rfl, rfl⟩
              rw [HNEW.out k hl]
              clear k7' kl
              go_wp2_with fail
              go_roundw
              case rel => exact ⟨k + 1, by go_num, by omega, trivial⟩
              case measure => simp [intOf]; omega
            · obtain rfl : k = x9.size := by omega
              clear hk hl HNEW
              go_wp2_with fail
              go_loopw [120] (fun iv wu => ∃ k : Nat, iv = .int .i64 k ∧ k ≤ M.length ∧ wu = wr) (fun iv _ => (M.length - intOf iv).toNat)
              case atStart => exact ⟨0, rfl, by omega, rfl⟩
              case round =>
                obtain ⟨k, rfl, hk, rfl⟩ := hrel
                by_cases hl : k < M.length
                · obtain ⟨g, off, rfl, hgl, hg⟩ := hMi.at hl
                  have hzm : M.getD k 0 ∈ M := by rw [List.getD_eq_getElem?_getD, List.getElem?_eq_getElem hl]; exact List.getElem_mem hl
                  have hon := HONLY.out _ hzm
                  generalize M.getD k 0 = z at *
                  have k7' := hb6.cells 7
                  have k9' := hb6.cells 9
                  simp [Bd.cs] at k7' k9'
                  have kl := hb6.lt
                  have hwz : IntKind.i64.wrap (x7 + (x9.size : Int)) = x7 + (x9.size : Int) := by rw [IntKind.wrap_i64]; omega
                  go_wp2_with fail
                  refine (hasL_any aL cL L z _ (by omega) hLi).mono ?_
                  rintro e V6 ⟨rfl, rfl⟩
                  cases hq : EG.hasB L z
                  case true =>
                    clear k7' k9' kl hon
                    go_wp2_with fail
                    go_roundw
                    case rel => exact ⟨k + 1, by go_num, by omega, trivial⟩
                    case measure => simp [intOf]; omega
                  case false =>
                    rw [hq] at hon
                    have hz1 : ¬ z < x7 := by have := hon.resolve_left nofun; omega
                    have hz2 : ¬ x7 + (x9.size : Int) ≤ z := by have := hon.resolve_left nofun; omega
                    go_wp2_with fail
                    go_roundw
                    case rel => exact ⟨k + 1, by go_num, by omega, trivial⟩
                    case measure => simp [intOf]; omega
                · obtain rfl : k = M.length := by omega
                  clear hk hl
                  go_wp2_with fail
                  go_meet
                  exact BW
    case rest =>
      have BW : Below w.heap.size w wc := hcut
      clear hcut PB PX hb6 HFC HYS HXS HGI HCV hyl hxl hcap hpb hof
      go_wp2_with fail
      refine (drawWholeOf_any a' ys cb wc hy (HBY.out _ BW)).mono ?_
      rintro e Z1 ⟨a2, c2, qs, rfl, hu, hql, hqp, hb⟩
      replace BW := BW.trans (hb.mono BW.size)
      clear hb HBY
      have hcap : qs.length ≤ c2 := by
        rcases hu.2 with ⟨e, h0⟩ | ⟨g, cap, cur, e, hb, hg, hc1, _⟩
        · omega
        · injection e with _ _ e3; omega
      obtain ⟨aq, cq, eq, hrow⟩ := CB.view hu
      obtain ⟨rfl, -, rfl⟩ : a2 = aq ∧ qs.length = qs.length ∧ c2 = cq := by injection eq with e1 e2 e3; exact ⟨e1, rfl, e3⟩
      clear eq hu
      have HQS : Hid _ := PY.small hqp
      have HIW : Hid (∀ W : World, MP.BsAt W a2 qs → _) := fun W h => implWhole_any a2 c2 qs W (by omega) HQS h
      have HSW : Hid (∀ W : World, MP.BsAt W a2 qs → _) := fun W h => specWhole_any a2 c2 qs W (by omega) HQS h hcap
      have HIM : Hid (∀ W : World, MP.BsAt W a2 qs → _) := fun W h => implMissing_any a2 c2 qs W (by omega) HQS h
      have HSM : Hid (∀ W : World, MP.BsAt W a2 qs → _) := fun W h => specMissing_any a2 c2 qs W (by omega) HQS h hcap
      have HFW : Hid (wholeOk qs = true → PY.FW qs) := PY.fw_of
      have HEM : Hid (wholeOk qs = false → (wholeB qs).py.size = 0) := PY.whole_empty
      have PB := PP.PBox.new (w := Z1) (T := 31) (cap := c2) rfl hrow (PP.far_of hrow (Nat.le_refl _))
      replace BW := BW.alloc BW.size (.cells #[.slice a2 qs.length c2] 31)
      clear hrow hqp hcap
      generalize hwb : wholeB qs = wb at *
      have HWB : Hid (wholeB qs = wb) := hwb
      clear hwb
      generalize hiw : wholeOk qs = IS at *
      have HIS : Hid (wholeOk qs = IS) := hiw
      clear hiw
      obtain ⟨v0, v1, v2, v3, v4, v5, v6, v7, v8, v9⟩ := wb
      simp only [Bd.cs] at HIW HSW
      go_wp2_with fail
      generalize Z1.alloc (.cells #[.slice a2 qs.length c2] 31) = Z2 at *
      obtain ⟨k20, hk20⟩ : ∃ q, Z1.heap.size = q := ⟨_, rfl⟩
      rw [hk20] at PB ⊢
      clear hk20
      refine (HIW.out _ PB.row).mono ?_
      rintro e Z3 ⟨rfl, hb⟩
      have hbw := BX.Box.new Z3 24 ⟨v0, v1, v2, v3, v4, v5, v6, v7, v8, v9⟩ Z3.heap.size rfl
      replace PB := (PB.below hb).alloc (.cells (BX.cs ⟨v0, v1, v2, v3, v4, v5, v6, v7, v8, v9⟩).toArray 24)
      replace BW := (BW.trans (hb.mono BW.size)).alloc (by have := BW.size; have := hb.size; omega) (.cells (BX.cs ⟨v0, v1, v2, v3, v4, v5, v6, v7, v8, v9⟩).toArray 24)
      simp only [BX.cs, Bd.cs] at hbw PB BW
      clear hb HIW
      have c20 := PB.cell
      have l20 := PB.lt
      go_wp2_with fail
      clear c20 l20
      generalize Z3.alloc (.cells #[.int .i64 v0, .int .i64 v1, .bool v2, .int .i64 v3, .int .i64 v4, .int .i64 v5, .int .i64 v6, .int .i64 v7, .int .i64 v8, .string v9] 24) = Z4 at *
      obtain ⟨k21, hk21⟩ : ∃ q, Z3.heap.size = q := ⟨_, rfl⟩
      rw [hk21] at hbw ⊢
      clear hk21
      refine (HSW.out _ PB.row).mono ?_
      rintro e Z5 ⟨rfl, hb⟩
      have hbv := BX.Box.new Z5 24 ⟨v0, v1, v2, v3, v4, v5, v6, v7, v8, v9⟩ Z5.heap.size rfl
      replace PB := (PB.below hb).alloc (.cells (BX.cs ⟨v0, v1, v2, v3, v4, v5, v6, v7, v8, v9⟩).toArray 24)
      replace hbw := (hbw.below hb hbw.lt).alloc (.cells (BX.cs ⟨v0, v1, v2, v3, v4, v5, v6, v7, v8, v9⟩).toArray 24)
      replace BW := (BW.trans (hb.mono BW.size)).alloc (by have := BW.size; have := hb.size; omega) (.cells (BX.cs ⟨v0, v1, v2, v3, v4, v5, v6, v7, v8, v9⟩).toArray 24)
      simp only [BX.cs, Bd.cs] at hbv hbw PB BW
      clear hb HSW
      have c20 := PB.cell
      have l20 := PB.lt
      go_wp2_with fail
      clear c20 l20
      generalize Z5.alloc (.cells #[.int .i64 v0, .int .i64 v1, .bool v2, .int .i64 v3, .int .i64 v4, .int .i64 v5, .int .i64 v6, .int .i64 v7, .int .i64 v8, .string v9] 24) = Z6 at *
      obtain ⟨k23, hk23⟩ : ∃ q, Z5.heap.size = q := ⟨_, rfl⟩
      rw [hk23] at hbv ⊢
      clear hk23
      refine (HIM.out _ PB.row).mono ?_
      rintro e Z7 ⟨rfl, hb⟩
      replace PB := PB.below hb
      replace hbw := hbw.below hb hbw.lt
      replace hbv := hbv.below hb hbv.lt
      replace BW := BW.trans (hb.mono BW.size)
      clear hb HIM
      have c20 := PB.cell
      have l20 := PB.lt
      go_wp2_with fail
      clear c20 l20
      refine (HSM.out _ PB.row).mono ?_
      rintro e Z8 ⟨rfl, hb⟩
      replace PB := PB.below hb
      replace hbw := hbw.below hb hbw.lt
      replace hbv := hbv.below hb hbv.lt
      replace BW := BW.trans (hb.mono BW.size)
      clear hb HSM
      have hi1 : (IS != IS) = false := by simp
      have hi2 : (PL.good qs != PL.good qs) = false := by simp
      have hi3 : (missN qs != missN qs) = false := by simp
      have c20 := PB.cell
      have l20 := PB.lt
      have k0 := hbw.cells 0
      have k1 := hbw.cells 1
      have k2 := hbw.cells 2
      have k3 := hbw.cells 3
      have k4 := hbw.cells 4
      have k5 := hbw.cells 5
      have k6 := hbw.cells 6
      have k7 := hbw.cells 7
      have k8 := hbw.cells 8
      have k9 := hbw.cells 9
      simp [Bd.cs] at k0 k1 k2 k3 k4 k5 k6 k7 k8 k9
      have kl := hbw.lt
      have m0 := hbv.cells 0
      have m1 := hbv.cells 1
      have m2 := hbv.cells 2
      have m3 := hbv.cells 3
      have m4 := hbv.cells 4
      have m5 := hbv.cells 5
      have m6 := hbv.cells 6
      have m7 := hbv.cells 7
      have m8 := hbv.cells 8
      have m9 := hbv.cells 9
      simp [Bd.cs] at m0 m1 m2 m3 m4 m5 m6 m7 m8 m9
      have ml := hbv.lt
      cases IS
      · have hem : v9.toList.isEmpty = true := CB.empty_of (HEM.out rfl)
        go_wp2_with fail
        go_ret
        exact ⟨by simp [hem], BW⟩
      · replace HFW : Hid _ := HFW.out rfl
        clear HEM HIS
        go_wp2_with fail
        clear k0 k1 k2 k3 k4 k5 k6 k7 k8 k9 kl
        clear m0 m1 m2 m3 m4 m5 m6 m7 m8 m9 ml
        clear hi1 hi2 hi3 c20 l20 hbv
        go_loopw [193] (fun iv wr => ∃ k : Nat, iv = .int .i64 k ∧ k ≤ qs.length ∧ Below Z8.heap.size Z8 wr) (fun iv _ => (qs.length - intOf iv).toNat)
        case atStart => exact ⟨0, rfl, by omega, Below.refl _ _⟩
        case round =>
          obtain ⟨k, rfl, hk, hb⟩ := hrel
          by_cases hl : k < qs.length
          · obtain ⟨g, off, hab, hgl, hYr⟩ := MA.row_range (PB.row.below hb) hl
            have hat := HFW.out.at0 k hl
            rw [HWB.out] at hat
            obtain ⟨y, hy⟩ : ∃ y, MP.at_ qs k = y := ⟨_, rfl⟩
            have hpy : y.py.size ≤ 1048576 := hy ▸ HQS.out k hl
            rw [hy] at hYr hat
            clear hy
            subst hab
            obtain ⟨y0, y1, y2, y3, y4, y5, y6, y7, y8, y9⟩ := y
            obtain ⟨ha0, ha1, ha2⟩ := hat
            obtain ⟨o, ho⟩ := Int.eq_ofNat_of_zero_le ha0
            dsimp only at ha0 ha1 ha2 ho hpy
            subst ho
            rw [Int.toNat_natCast] at ha2
            have hbx := (hbw.below hb hbw.lt).alloc (.cells #[.int .i64 y0, .int .i64 y1, .bool y2, .int .i64 y3, .int .i64 y4, .int .i64 y5, .int .i64 y6, .int .i64 (o : Int), .int .i64 y8, .string y9] 24)
            have k9 := hbx.cells 9
            simp [Bd.cs] at k9
            have kl := hbx.lt
            clear ha0
            have hvs : v9.size ≤ 60 := by
              have := HFW.out.gw
              rw [HWB.out] at this
              simp only [B1.good, Bool.and_eq_true, decide_eq_true_eq] at this
              exact this.1.2
            have hw1 : IntKind.i64.wrap ((o : Int) + (y9.size : Int)) = (o : Int) + (y9.size : Int) := by rw [IntKind.wrap_i64]; omega
            go_upto_region 43 with (refine MA.load_g rfl 24 _ rfl rfl (cs := [.int .i64 y0, .int .i64 y1, .bool y2, .int .i64 y3, .int .i64 y4, .int .i64 y5, .int .i64 y6, .int .i64 (o : Int), .int .i64 y8, .string y9]) ?_ Try.underlying24 rfl Try.sizeBundle rfl ?_; exact hYr)
            have hex : ((v9.extract o (o + y9.size)).toList != y9.toList) = false := by rw [ha2]; simp
            go_quiet (fail)
            go_wp2_with fail
            go_roundw
            case rel => exact ⟨k + 1, by go_num, by omega, below_drewN (hb.alloc hb.size _) _⟩
            case measure => simp [intOf]; omega
          · obtain rfl : k = qs.length := by omega
            replace hbw := hbw.below hb hbw.lt
            replace PB := PB.below hb
            replace BW := BW.trans (hb.mono BW.size)
            clear hk hl hb
            have hn0 := HFW.out.n0
            have hpos := HFW.out.pos
            have hgw := HFW.out.gw
            rw [HWB.out] at hgw
            have hvs : v9.size ≤ 60 := by
              have := hgw
              simp only [B1.good, Bool.and_eq_true, decide_eq_true_eq] at this
              exact this.1.2
            have hmm : (missN qs == 0) = true := by simp [hn0]
            have hp0 : (0 : Int) < (qs.length : Int) := by omega
            have HGB : Hid (∀ W : World, Calls Try.prog 16 #[.agg #[.int .i64 v0, .int .i64 v1, .bool v2, .int .i64 v3, .int .i64 v4, .int .i64 v5, .int .i64 v6, .int .i64 v7, .int .i64 v8, .string v9]] W fun e w' => e = .returned (.bool true) ∧ Below W.heap.size W w') := fun W => implGoodBundle_any ⟨v0, v1, v2, v3, v4, v5, v6, v7, v8, v9⟩ W (by show v9.size ≤ 1048576; omega) true hgw
            clear hgw hvs
            have c20 := PB.cell
            have l20 := PB.lt
            have k0 := hbw.cells 0
            have k1 := hbw.cells 1
            have k2 := hbw.cells 2
            have k3 := hbw.cells 3
            have k4 := hbw.cells 4
            have k5 := hbw.cells 5
            have k6 := hbw.cells 6
            have k7 := hbw.cells 7
            have k8 := hbw.cells 8
            have k9 := hbw.cells 9
            simp [Bd.cs] at k0 k1 k2 k3 k4 k5 k6 k7 k8 k9
            have kl := hbw.lt
            go_wp2_with fail
            refine (HGB.out _).mono ?_
            rintro e Z9 ⟨rfl, hb⟩
            replace PB := PB.below hb
            replace BW := BW.trans (hb.mono BW.size)
            clear hb
            have c20 := PB.cell
            have l20 := PB.lt
            go_wp2_with fail
            go_ret
            exact ⟨rfl, BW⟩
  · have h20' : (1048576 : Int) < (zs.length : Int) + (ys.length : Int) := by omega
    go_enter Try.func4, Try.ntmps4
    go_wp2
    go_ret
    exact ⟨rfl, Below.refl _ _⟩
end Go.Proofs.Ytdgflhgbcfehhaa
