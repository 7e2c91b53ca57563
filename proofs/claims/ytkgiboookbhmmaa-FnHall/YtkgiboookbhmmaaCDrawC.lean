/- DrawIsCover: a pairing and two rows, drawn (laid by tools/gen_drawcov.py). -/
import Derived.Test.YtkgiboookbhmmaaRows
import Derived.Test.YtkgiboookbhmmaaCDrawP
import Derived.Test.YtkgiboookbhmmaaCPairCovS
import Derived.Test.YtkgiboookbhmmaaCSomeD
import Derived.Test.YtkgiboookbhmmaaMRP
import Derived.WalkKit
import Derived.WalkSpells
import Derived.WalkLawsBesides
import Derived.Outline
namespace Go.Proofs.Ytkgiboookbhmmaa
open Go.RowKit
set_option linter.unusedSimpArgs false in
set_option maxHeartbeats 1600000 in
set_option maxRecDepth 100000 in
theorem drawIsCover_any (a : Option Addr) (zs : List Int) (cap : Nat) (w : World) (hz : zs.length ≤ 140737488355328) (hb : MC.BytesAt w w.heap.size a zs) :
    Calls Try.prog 21 #[.slice a zs.length cap] w fun e w' => ∃ (l r : Int) (a1 : Option Addr) (c1 : Nat) (ws : List (List Int)) (a2 : Option Addr) (c2 : Nat) (xs : List Int) (a3 : Option Addr) (c3 : Nat) (ys : List Int), e = .returned (.tuple #[PG.pv l r (.slice a1 ws.length c1), .slice a2 xs.length c2, .slice a3 ys.length c3]) ∧ (ws.length ≤ 9 ∧ l = (ws.length : Int) ∧ 0 ≤ r ∧ r ≤ 5) ∧ NR.tot ws ≤ 100 ∧ xs.length ≤ 100 ∧ ys.length ≤ 100 ∧ (∃ b, w.heap.size < b ∧ PG.PE 25 27 b w' l r (.slice a1 ws.length c1) ws) ∧ M4.IntsAt w' a2 xs ∧ M4.IntsAt w' a3 ys ∧ Below w.heap.size w w' := by
  have B0 : Below w.heap.size w (w.alloc (.cells #[.int .i64 0, .int .i64 0, .slice none 0 0] 25)) := (Below.refl _ w).alloc (Nat.le_refl _) _
  have hb0 := (hb.only (q := w.heap.size) (MC.Only.of_below B0) (Nat.le_refl _) (Nat.le_refl _)).up B0.size
  have hbx : (w.alloc (.cells #[.int .i64 0, .int .i64 0, .slice none 0 0] 25)).heap[w.heap.size]? = some (.cells #[.int .i64 0, .int .i64 0, .slice none 0 0] 25 (0, 0)) := heap_alloc_new w _
  have hs0 : w.heap.size < (w.alloc (.cells #[.int .i64 0, .int .i64 0, .slice none 0 0] 25)).heap.size := by simp
  have hs9 : (w.alloc (.cells #[.int .i64 0, .int .i64 0, .slice none 0 0] 25)).heap.size = w.heap.size + 1 := by simp
  have hcn := cur_new (T := 64) (cap := cap) hb0
  rw [hs9] at hcn
  have PN : Hid _ := pairing_any (w.heap.size + 1) a zs cap 0 _ hz (by omega) hcn
  have HBX : Hid _ := hbx
  clear hb hb0 hbx hcn
  go_enter Try.func21, Try.ntmps21
  go_wp2_with fail
  refine Calls.mono PN.out ?_
  rintro e w1 ⟨l, r, a1, c1, ws, rfl, h9, ht, ⟨b, hbl, hE⟩, hc1, ho1⟩
  obtain ⟨h9, rfl, hr0, hr5⟩ := h9
  have hB1 := new_below hs9.symm ho1
  have hbx1 := (hB1.block w.heap.size hs0).trans HBX.out
  have hp1 := hc1.lt
  have hbl' : w.heap.size + 1 < b := by simp at hbl; omega
  -- the world with the pairing's box
  have A1 : Below w1.heap.size w1 (w1.alloc (Obj.cells #[.int .i64 (ws.length : Int), .int .i64 r, .slice a1 ws.length c1] 25)) := (Below.refl _ w1).alloc (Nat.le_refl _) _
  have HC : Hid (MC.Cur (w1.alloc (Obj.cells #[.int .i64 (ws.length : Int), .int .i64 r, .slice a1 ws.length c1] 25)) (w.heap.size + 1) a zs cap 300) := MC.Cur.more (hc1.alloc _) (by omega)
  have hWE := hE.only (MC.Only.of_below A1 (p := w.heap.size + 1)) hbl'
  have hWR := (A1.block w.heap.size (by omega)).trans hbx1
  have hWX := heap_alloc_new w1 (Obj.cells #[.int .i64 (ws.length : Int), .int .i64 r, .slice a1 ws.length c1] 25)
  have hWs : w1.heap.size < (w1.alloc (Obj.cells #[.int .i64 (ws.length : Int), .int .i64 r, .slice a1 ws.length c1] 25)).heap.size := by simp
  have hWB : Below w.heap.size w (w1.alloc (Obj.cells #[.int .i64 (ws.length : Int), .int .i64 r, .slice a1 ws.length c1] 25)) := (B0.trans (hB1.mono B0.size)).trans (A1.mono (by omega))
  have HE : Hid (∀ V : World, MC.Only (w.heap.size + 1) (w1.alloc (Obj.cells #[.int .i64 (ws.length : Int), .int .i64 r, .slice a1 ws.length c1] 25)) V → PG.PE 25 27 b V (ws.length : Int) r (.slice a1 ws.length c1) ws ∧ V.heap[w.heap.size]? = some (.cells #[.int .i64 0, .int .i64 0, .slice none 0 0] 25 (0, 0)) ∧ V.heap[w1.heap.size]? = some (.cells #[.int .i64 (ws.length : Int), .int .i64 r, .slice a1 ws.length c1] 25 (0, 0))) := fun V h => ⟨hWE.only h hbl', (h.block w.heap.size (by omega) (by omega)).trans hWR, (h.block w1.heap.size hWs (by omega)).trans hWX⟩
  clear PN hc1 ho1 HBX hE hbl hB1 hbx1 A1 hWE hWR hWX B0
  go_wp2_with fail
  generalize w1.alloc (Obj.cells #[.int .i64 (ws.length : Int), .int .i64 r, .slice a1 ws.length c1] 25) = W at *
  generalize w1.heap.size = q at *
  obtain ⟨hE0, hX0, hY0⟩ := HE.out W (MC.Only.refl _ _)
  obtain ⟨az, cz, hvz, hR⟩ := hE0.view
  simp only [Value.slice.injEq] at hvz
  obtain ⟨rfl, -, -⟩ := hvz
  have hK1 := PG.coA_le (ws.length : Int) r ws
  have hK2 := PG.coB_le (ws.length : Int) r ws
  have CS : Hid _ := specCov_any (ws.length : Int) r a1 c1 ws W (by omega) (by omega) hR _ _ _ rfl rfl rfl
  clear hE0 hX0 hY0 hR
  refine Calls.mono CS.out ?_
  rintro e w3 ⟨a4, c4, a5, c5, M_, rfl, hm1, -, o4, -, o5, b4⟩
  have hO3 : MC.Only (w.heap.size + 1) W w3 := MC.Only.of_below b4
  have HC3 : Hid (MC.Cur w3 (w.heap.size + 1) a zs cap 300) := MC.Cur.below HC.out b4
  have H4 : Hid _ := o4
  have H5 : Hid _ := PG.own_mono o5 hm1
  generalize PG.coA (ws.length : Int) r ws = K at *
  generalize PG.coB (ws.length : Int) r ws = J at *
  clear CS HC o4 o5 b4 hm1
  cases hg : PG.good (ws.length : Int) r ws with
  | false =>
    clear hg H4 H5
    go_wp2
    obtain ⟨R, rfl⟩ : ∃ R : Nat, r = (R : Int) := ⟨r.toNat, by omega⟩
    obtain ⟨-, -, hY⟩ := HE.out _ hO3
    have k0 := PG.cellA hY (i := 0) rfl
    have k1 := PG.cellA hY (i := 1) rfl
    have k2 := PG.cellA hY (i := 2) rfl
    simp only [List.getElem_toArray, List.getElem_cons_zero, List.getElem_cons_succ] at k0 k1 k2
    have hsO := hO3.size
    clear hY
    refine MR.frame fun A_ hA => ?_
    have hsz : A_.tmps.size = 38 := by rw [hA]; rfl
    have e2 : A_.eval (.tmp 2) = .pointer (some ⟨w.heap.size, 0, none⟩) := by rw [hA]; rfl
    have f2 := MR.read (t := 2) (by rw [hsz]; decide) e2
    have e5 : A_.eval (.tmp 5) = .pointer (some ⟨w.heap.size + 1, 0, none⟩) := by rw [hA]; rfl
    have f5 := MR.read (t := 5) (by rw [hsz]; decide) e5
    have e6 : A_.eval (.tmp 6) = .pointer (some ⟨q, 0, none⟩) := by rw [hA]; rfl
    have f6 := MR.read (t := 6) (by rw [hsz]; decide) e6
    have HA : Hid (A_ = _) := hA
    clear hA
    refine MR.cut (fun aa w' => ∃ (a6 : Option Addr) (c6 : Nat) (X : List Int) (a7 : Option Addr) (c7 : Nat) (Y : List Int), aa = (((((((((((A_.put (some 29) (.agg #[.int .i64 (ws.length : Int), .int .i64 (R : Int), .slice a1 ws.length c1])).put (some 30) (.pointer (some ⟨w.heap.size + 1, 0, none⟩))).put (some 31) (.pointer (some ⟨q, 0, none⟩))).put (some 32) (.int .i64 (ws.length : Int))).put (some 33) (.slice a6 X.length c6)).put (some 34) (.pointer (some ⟨w.heap.size + 1, 0, none⟩))).put (some 35) (.pointer (some ⟨q, 1, none⟩))).put (some 36) (.int .i64 (R : Int))).put (some 37) (.slice a7 Y.length c7)).put (some 3) (.slice a6 X.length c6)).put (some 4) (.slice a7 Y.length c7)) ∧ Hid (X.length ≤ 100 ∧ Y.length ≤ 100 ∧ ∃ V : World, w' = (((V.setCell ⟨w.heap.size, 0, none⟩ (.int .i64 (ws.length : Int))).setCell ⟨w.heap.size, 1, none⟩ (.int .i64 (R : Int))).setCell ⟨w.heap.size, 2, none⟩ (.slice a1 ws.length c1)) ∧ MC.Only (w.heap.size + 1) W V ∧ V.ownsRow W.heap.size 3 1 (.slice a6 X.length c6) X.length (M4.iv X) ∧ V.ownsRow W.heap.size 3 1 (.slice a7 Y.length c7) Y.length (M4.iv Y))) ?_ ?_
    · have hS : (fun wq : World => wq.cell? ⟨q, 0, none⟩ = some (.int .i64 (ws.length : Int)) ∧ wq.cell? ⟨q, 1, none⟩ = some (.int .i64 (R : Int)) ∧ wq.cell? ⟨q, 2, none⟩ = some (.slice a1 ws.length c1)) (World.drew _) := ⟨k0, k1, k2⟩
      refine wp_region_held (S := fun wq : World => wq.cell? ⟨q, 0, none⟩ = some (.int .i64 (ws.length : Int)) ∧ wq.cell? ⟨q, 1, none⟩ = some (.int .i64 (R : Int)) ∧ wq.cell? ⟨q, 2, none⟩ = some (.slice a1 ws.length c1)) (by kernel_rfl) ?_
      change wpAnyH _ _ _ _ _ _ _ _ (World.drew _)
      refine MR.takeH (i := 0) (some 29) (.agg #[.int .i64 (ws.length : Int), .int .i64 (R : Int), .slice a1 ws.length c1]) rfl rfl (by kernel_rfl) (by kernel_rfl) (by kernel_rfl) nofun hS (MR.free rfl) (fun wq hw => by simp [execOp, MR.ev, MR.size, hsz, e2, f2, e5, f5, e6, f6, hw.1, hw.2.1, hw.2.2, go_sem]) ?_
      refine MR.takeH (i := 1) (some 30) (.pointer (some ⟨w.heap.size + 1, 0, none⟩)) rfl rfl (by kernel_rfl) (by kernel_rfl) (by kernel_rfl) nofun hS (MR.free rfl) (fun wq hw => by simp [execOp, MR.ev, MR.size, hsz, e2, f2, e5, f5, e6, f6, go_sem]) ?_
      refine MR.takeH (i := 2) (some 31) (.pointer (some ⟨q, 0, none⟩)) rfl rfl (by kernel_rfl) (by kernel_rfl) (by kernel_rfl) nofun hS (MR.free rfl) (fun wq hw => by simp [execOp, MR.ev, MR.size, hsz, e2, f2, e5, f5, e6, f6, go_sem]) ?_
      refine MR.takeH (i := 3) (some 32) (.int .i64 (ws.length : Int)) rfl rfl (by kernel_rfl) (by kernel_rfl) (by kernel_rfl) nofun hS (MR.free rfl) (fun wq hw => by simp [execOp, MR.ev, MR.size, hsz, e2, f2, e5, f5, e6, f6, hw.1, go_sem]) ?_
      refine MR.takeH (i := 5) (some 34) (.pointer (some ⟨w.heap.size + 1, 0, none⟩)) rfl rfl (by kernel_rfl) (by kernel_rfl) (by kernel_rfl) nofun hS (MR.free rfl) (fun wq hw => by simp [execOp, MR.ev, MR.size, hsz, e2, f2, e5, f5, e6, f6, go_sem]) ?_
      refine MR.takeH (i := 6) (some 35) (.pointer (some ⟨q, 1, none⟩)) rfl rfl (by kernel_rfl) (by kernel_rfl) (by kernel_rfl) nofun hS (MR.free rfl) (fun wq hw => by simp [execOp, MR.ev, MR.size, hsz, e2, f2, e5, f5, e6, f6, go_sem]) ?_
      refine MR.takeH (i := 7) (some 36) (.int .i64 (R : Int)) rfl rfl (by kernel_rfl) (by kernel_rfl) (by kernel_rfl) nofun hS (MR.free rfl) (fun wq hw => by simp [execOp, MR.ev, MR.size, hsz, e2, f2, e5, f5, e6, f6, hw.2.1, go_sem]) ?_
      refine MR.callH (i := 4) (some 33) (45) (#[.pointer (some ⟨w.heap.size + 1, 0, none⟩), .int .i64 (ws.length : Int)]) (by kernel_rfl) rfl rfl (MR.free rfl) (by simp [execOp, MR.ev, MR.size, hsz, e2, f2, e5, f5, e6, f6, go_sem]) ?_
      refine (someOf_any (w.heap.size + 1) a zs cap 300 ws.length _ hz (by omega) (by omega) (HC3.out.below (Below.refl _ w3).drew)).mono ?_
      rintro e w8 ⟨a6, c6, X, rfl, hXl, o6, hc8, ho8'⟩
      have ho8 : MC.Only (w.heap.size + 1) w3 w8 := (MC.Only.of_below (Below.refl _ w3).drew).trans ho8'
      have hO8 := hO3.trans ho8
      have hY8 := (HE.out _ hO8).2.2
      have hS8 : (fun wq : World => wq.cell? ⟨q, 0, none⟩ = some (.int .i64 (ws.length : Int)) ∧ wq.cell? ⟨q, 1, none⟩ = some (.int .i64 (R : Int)) ∧ wq.cell? ⟨q, 2, none⟩ = some (.slice a1 ws.length c1)) w8 := ⟨PG.cellA hY8 (i := 0) rfl, PG.cellA hY8 (i := 1) rfl, PG.cellA hY8 (i := 2) rfl⟩
      have hs8 := hO8.size
      have p6 := PG.own_mono o6 (show W.heap.size ≤ _ by simpa using hsO)
      refine ⟨_, rfl, hS8, ?_⟩
      refine MR.callH (i := 8) (some 37) (45) (#[.pointer (some ⟨w.heap.size + 1, 0, none⟩), .int .i64 (R : Int)]) (by kernel_rfl) rfl rfl (MR.free rfl) (by simp [execOp, MR.ev, MR.size, hsz, e2, f2, e5, f5, e6, f6, go_sem]) ?_
      refine (someOf_any (w.heap.size + 1) a zs cap _ R _ hz (by omega) (by omega) hc8).mono ?_
      rintro e w9 ⟨a7, c7, Y, rfl, hYl, o7, hc9, ho9⟩
      have hO9 := hO8.trans ho9
      obtain ⟨-, hX9, hY9⟩ := HE.out _ hO9
      have hS9 : (fun wq : World => wq.cell? ⟨q, 0, none⟩ = some (.int .i64 (ws.length : Int)) ∧ wq.cell? ⟨q, 1, none⟩ = some (.int .i64 (R : Int)) ∧ wq.cell? ⟨q, 2, none⟩ = some (.slice a1 ws.length c1)) w9 := ⟨PG.cellA hY9 (i := 0) rfl, PG.cellA hY9 (i := 1) rfl, PG.cellA hY9 (i := 2) rfl⟩
      have r6 := MC.own_only p6 ho9 (by omega)
      have r7 := PG.own_mono o7 hs8
      have x0 := PG.cellA hX9 (i := 0) rfl
      have x1 := PG.cellA hX9 (i := 1) rfl
      have x2 := PG.cellA hX9 (i := 2) rfl
      have z0 := PG.freeA hX9 (i := 0)
      have z1 := PG.freeA hX9 (i := 1)
      have z2 := PG.freeA hX9 (i := 2)
      have onR := (((MC.Only.refl w.heap.size w9).setCell 0 (.int .i64 (ws.length : Int))).setCell 1 (.int .i64 (R : Int))).setCell 2 (.slice a1 ws.length c1)
      have hYz := (onR.block q (by have := hO9.size; omega) (by omega)).trans hY9
      have hSz : (fun wq : World => wq.cell? ⟨q, 0, none⟩ = some (.int .i64 (ws.length : Int)) ∧ wq.cell? ⟨q, 1, none⟩ = some (.int .i64 (R : Int)) ∧ wq.cell? ⟨q, 2, none⟩ = some (.slice a1 ws.length c1)) (((w9.setCell ⟨w.heap.size, 0, none⟩ (.int .i64 (ws.length : Int))).setCell ⟨w.heap.size, 1, none⟩ (.int .i64 (R : Int))).setCell ⟨w.heap.size, 2, none⟩ (.slice a1 ws.length c1)) := ⟨PG.cellA hYz (i := 0) rfl, PG.cellA hYz (i := 1) rfl, PG.cellA hYz (i := 2) rfl⟩
      refine ⟨_, rfl, hS9, ?_⟩
      refine MR.storeH (w' := (((w9.setCell ⟨w.heap.size, 0, none⟩ (.int .i64 (ws.length : Int))).setCell ⟨w.heap.size, 1, none⟩ (.int .i64 (R : Int))).setCell ⟨w.heap.size, 2, none⟩ (.slice a1 ws.length c1))) (i := 9) (by kernel_rfl) rfl (MR.free rfl) (by simp [execOp, MR.ev, MR.size, hsz, e2, f2, e5, f5, e6, f6, x0, x1, x2, z0, z1, z2, go_sem]) ⟨hSz, ?_⟩
      refine MR.nowH (i := 10) (some 3) (.slice a6 X.length c6) (by kernel_rfl) rfl rfl (MR.free rfl) (by simp [execOp, MR.ev, MR.size, hsz, e2, f2, e5, f5, e6, f6, go_sem]) ⟨hSz, ?_⟩
      refine MR.nowH (i := 11) (some 4) (.slice a7 Y.length c7) (by kernel_rfl) rfl rfl (MR.free rfl) (by simp [execOp, MR.ev, MR.size, hsz, e2, f2, e5, f5, e6, f6, go_sem]) ⟨hSz, ?_⟩
      refine wpAnyH_done (by kernel_rfl) ⟨rfl, a6, c6, X, a7, c7, Y, ?_, ⟨by omega, by omega, w9, rfl, hO9, r6, r7⟩⟩ _
      rw [HA.out]
      simp only [Act.put, List.setIfInBounds_toArray, List.set_cons_succ, List.set_cons_zero]
      try rfl
    rintro aa w10 ⟨a6, c6, X, a7, c7, Y, rfl, hf⟩
    obtain ⟨hXl, hYl, V, rfl, hOV, g6, g7⟩ := hf.out
    rw [HA.out]
    obtain ⟨hEV, hXV, hYV⟩ := HE.out _ hOV
    have q0 := PG.cellA hYV (i := 0) rfl
    have q1 := PG.cellA hYV (i := 1) rfl
    have q2 := PG.cellA hYV (i := 2) rfl
    have x0 := PG.cellA hXV (i := 0) rfl
    have x1 := PG.cellA hXV (i := 1) rfl
    have x2 := PG.cellA hXV (i := 2) rfl
    have z0 := PG.freeA hXV (i := 0)
    have z1 := PG.freeA hXV (i := 1)
    have z2 := PG.freeA hXV (i := 2)
    have onR := (((MC.Only.refl w.heap.size V).setCell 0 (.int .i64 (ws.length : Int))).setCell 1 (.int .i64 (R : Int))).setCell 2 (.slice a1 ws.length c1)
    have hsV := hOV.size
    have hBz : Below w.heap.size w (((V.setCell ⟨w.heap.size, 0, none⟩ (.int .i64 (ws.length : Int))).setCell ⟨w.heap.size, 1, none⟩ (.int .i64 (R : Int))).setCell ⟨w.heap.size, 2, none⟩ (.slice a1 ws.length c1)) := (hWB.trans (hOV.below (by omega) (by omega))).trans (onR.below (Nat.le_refl _) (by omega))
    have HEz : Hid _ := hEV.only onR (by omega)
    have HT1 : Hid _ := M5.own_ints (MC.own_only g6 onR (by omega))
    have HT2 : Hid _ := M5.own_ints (MC.own_only g7 onR (by omega))
    clear HA e2 f2 e5 f5 e6 f6 hsz hf k0 k1 k2 hEV hXV hYV onR g6 g7
    simp only [Act.put, List.setIfInBounds_toArray, List.set_cons_succ, List.set_cons_zero]
    go_wp2
    exact bodyPost_ret (v := .tuple #[PG.pv (ws.length : Int) (R : Int) (.slice a1 ws.length c1), .slice a6 X.length c6, .slice a7 Y.length c7]) (by simp [results, Try.results21, go_sem, q0, q1, q2, x0, x1, x2, PG.pv]) rfl ⟨(ws.length : Int), (R : Int), a1, c1, ws, a6, c6, X, a7, c7, Y, rfl, ⟨h9, rfl, hr0, hr5⟩, ht, hXl, hYl, ⟨b, by omega, HEz.out⟩, HT1.out, HT2.out, hBz⟩
  | true =>
    have ON : Hid _ := one_any (w.heap.size + 1) a zs cap 300 2 _ hz (by omega) HC3.out
    clear hg
    go_wp2_with fail
    refine Calls.mono ON.out ?_
    rintro e w6 ⟨b6, rfl, hc6, ho6⟩
    have hO6 := hO3.trans ho6
    have G4 : Hid _ := MC.own_only H4.out ho6 (by omega)
    have G5 : Hid _ := MC.own_only H5.out ho6 (by omega)
    have HC6 : Hid (MC.Cur w6 (w.heap.size + 1) a zs cap 302) := hc6
    clear ON HC3 H4 H5 hc6 ho6
    cases b6
    · go_wp2
      obtain ⟨R, rfl⟩ : ∃ R : Nat, r = (R : Int) := ⟨r.toNat, by omega⟩
      obtain ⟨-, -, hY⟩ := HE.out _ hO6
      have k0 := PG.cellA hY (i := 0) rfl
      have k1 := PG.cellA hY (i := 1) rfl
      have k2 := PG.cellA hY (i := 2) rfl
      simp only [List.getElem_toArray, List.getElem_cons_zero, List.getElem_cons_succ] at k0 k1 k2
      have hsO := hO6.size
      clear hY
      refine MR.frame fun A_ hA => ?_
      have hsz : A_.tmps.size = 38 := by rw [hA]; rfl
      have e2 : A_.eval (.tmp 2) = .pointer (some ⟨w.heap.size, 0, none⟩) := by rw [hA]; rfl
      have f2 := MR.read (t := 2) (by rw [hsz]; decide) e2
      have e5 : A_.eval (.tmp 5) = .pointer (some ⟨w.heap.size + 1, 0, none⟩) := by rw [hA]; rfl
      have f5 := MR.read (t := 5) (by rw [hsz]; decide) e5
      have e6 : A_.eval (.tmp 6) = .pointer (some ⟨q, 0, none⟩) := by rw [hA]; rfl
      have f6 := MR.read (t := 6) (by rw [hsz]; decide) e6
      have HA : Hid (A_ = _) := hA
      clear hA
      refine MR.cut (fun aa w' => ∃ (a6 : Option Addr) (c6 : Nat) (X : List Int) (a7 : Option Addr) (c7 : Nat) (Y : List Int), aa = (((((((((((A_.put (some 29) (.agg #[.int .i64 (ws.length : Int), .int .i64 (R : Int), .slice a1 ws.length c1])).put (some 30) (.pointer (some ⟨w.heap.size + 1, 0, none⟩))).put (some 31) (.pointer (some ⟨q, 0, none⟩))).put (some 32) (.int .i64 (ws.length : Int))).put (some 33) (.slice a6 X.length c6)).put (some 34) (.pointer (some ⟨w.heap.size + 1, 0, none⟩))).put (some 35) (.pointer (some ⟨q, 1, none⟩))).put (some 36) (.int .i64 (R : Int))).put (some 37) (.slice a7 Y.length c7)).put (some 3) (.slice a6 X.length c6)).put (some 4) (.slice a7 Y.length c7)) ∧ Hid (X.length ≤ 100 ∧ Y.length ≤ 100 ∧ ∃ V : World, w' = (((V.setCell ⟨w.heap.size, 0, none⟩ (.int .i64 (ws.length : Int))).setCell ⟨w.heap.size, 1, none⟩ (.int .i64 (R : Int))).setCell ⟨w.heap.size, 2, none⟩ (.slice a1 ws.length c1)) ∧ MC.Only (w.heap.size + 1) W V ∧ V.ownsRow W.heap.size 3 1 (.slice a6 X.length c6) X.length (M4.iv X) ∧ V.ownsRow W.heap.size 3 1 (.slice a7 Y.length c7) Y.length (M4.iv Y))) ?_ ?_
      · have hS : (fun wq : World => wq.cell? ⟨q, 0, none⟩ = some (.int .i64 (ws.length : Int)) ∧ wq.cell? ⟨q, 1, none⟩ = some (.int .i64 (R : Int)) ∧ wq.cell? ⟨q, 2, none⟩ = some (.slice a1 ws.length c1)) (World.drew _) := ⟨k0, k1, k2⟩
        refine wp_region_held (S := fun wq : World => wq.cell? ⟨q, 0, none⟩ = some (.int .i64 (ws.length : Int)) ∧ wq.cell? ⟨q, 1, none⟩ = some (.int .i64 (R : Int)) ∧ wq.cell? ⟨q, 2, none⟩ = some (.slice a1 ws.length c1)) (by kernel_rfl) ?_
        change wpAnyH _ _ _ _ _ _ _ _ (World.drew _)
        refine MR.takeH (i := 0) (some 29) (.agg #[.int .i64 (ws.length : Int), .int .i64 (R : Int), .slice a1 ws.length c1]) rfl rfl (by kernel_rfl) (by kernel_rfl) (by kernel_rfl) nofun hS (MR.free rfl) (fun wq hw => by simp [execOp, MR.ev, MR.size, hsz, e2, f2, e5, f5, e6, f6, hw.1, hw.2.1, hw.2.2, go_sem]) ?_
        refine MR.takeH (i := 1) (some 30) (.pointer (some ⟨w.heap.size + 1, 0, none⟩)) rfl rfl (by kernel_rfl) (by kernel_rfl) (by kernel_rfl) nofun hS (MR.free rfl) (fun wq hw => by simp [execOp, MR.ev, MR.size, hsz, e2, f2, e5, f5, e6, f6, go_sem]) ?_
        refine MR.takeH (i := 2) (some 31) (.pointer (some ⟨q, 0, none⟩)) rfl rfl (by kernel_rfl) (by kernel_rfl) (by kernel_rfl) nofun hS (MR.free rfl) (fun wq hw => by simp [execOp, MR.ev, MR.size, hsz, e2, f2, e5, f5, e6, f6, go_sem]) ?_
        refine MR.takeH (i := 3) (some 32) (.int .i64 (ws.length : Int)) rfl rfl (by kernel_rfl) (by kernel_rfl) (by kernel_rfl) nofun hS (MR.free rfl) (fun wq hw => by simp [execOp, MR.ev, MR.size, hsz, e2, f2, e5, f5, e6, f6, hw.1, go_sem]) ?_
        refine MR.takeH (i := 5) (some 34) (.pointer (some ⟨w.heap.size + 1, 0, none⟩)) rfl rfl (by kernel_rfl) (by kernel_rfl) (by kernel_rfl) nofun hS (MR.free rfl) (fun wq hw => by simp [execOp, MR.ev, MR.size, hsz, e2, f2, e5, f5, e6, f6, go_sem]) ?_
        refine MR.takeH (i := 6) (some 35) (.pointer (some ⟨q, 1, none⟩)) rfl rfl (by kernel_rfl) (by kernel_rfl) (by kernel_rfl) nofun hS (MR.free rfl) (fun wq hw => by simp [execOp, MR.ev, MR.size, hsz, e2, f2, e5, f5, e6, f6, go_sem]) ?_
        refine MR.takeH (i := 7) (some 36) (.int .i64 (R : Int)) rfl rfl (by kernel_rfl) (by kernel_rfl) (by kernel_rfl) nofun hS (MR.free rfl) (fun wq hw => by simp [execOp, MR.ev, MR.size, hsz, e2, f2, e5, f5, e6, f6, hw.2.1, go_sem]) ?_
        refine MR.callH (i := 4) (some 33) (45) (#[.pointer (some ⟨w.heap.size + 1, 0, none⟩), .int .i64 (ws.length : Int)]) (by kernel_rfl) rfl rfl (MR.free rfl) (by simp [execOp, MR.ev, MR.size, hsz, e2, f2, e5, f5, e6, f6, go_sem]) ?_
        refine (someOf_any (w.heap.size + 1) a zs cap 302 ws.length _ hz (by omega) (by omega) (HC6.out.below (Below.refl _ w6).drew)).mono ?_
        rintro e w8 ⟨a6, c6, X, rfl, hXl, o6, hc8, ho8'⟩
        have ho8 : MC.Only (w.heap.size + 1) w6 w8 := (MC.Only.of_below (Below.refl _ w6).drew).trans ho8'
        have hO8 := hO6.trans ho8
        have hY8 := (HE.out _ hO8).2.2
        have hS8 : (fun wq : World => wq.cell? ⟨q, 0, none⟩ = some (.int .i64 (ws.length : Int)) ∧ wq.cell? ⟨q, 1, none⟩ = some (.int .i64 (R : Int)) ∧ wq.cell? ⟨q, 2, none⟩ = some (.slice a1 ws.length c1)) w8 := ⟨PG.cellA hY8 (i := 0) rfl, PG.cellA hY8 (i := 1) rfl, PG.cellA hY8 (i := 2) rfl⟩
        have hs8 := hO8.size
        have p6 := PG.own_mono o6 (show W.heap.size ≤ _ by simpa using hsO)
        refine ⟨_, rfl, hS8, ?_⟩
        refine MR.callH (i := 8) (some 37) (45) (#[.pointer (some ⟨w.heap.size + 1, 0, none⟩), .int .i64 (R : Int)]) (by kernel_rfl) rfl rfl (MR.free rfl) (by simp [execOp, MR.ev, MR.size, hsz, e2, f2, e5, f5, e6, f6, go_sem]) ?_
        refine (someOf_any (w.heap.size + 1) a zs cap _ R _ hz (by omega) (by omega) hc8).mono ?_
        rintro e w9 ⟨a7, c7, Y, rfl, hYl, o7, hc9, ho9⟩
        have hO9 := hO8.trans ho9
        obtain ⟨-, hX9, hY9⟩ := HE.out _ hO9
        have hS9 : (fun wq : World => wq.cell? ⟨q, 0, none⟩ = some (.int .i64 (ws.length : Int)) ∧ wq.cell? ⟨q, 1, none⟩ = some (.int .i64 (R : Int)) ∧ wq.cell? ⟨q, 2, none⟩ = some (.slice a1 ws.length c1)) w9 := ⟨PG.cellA hY9 (i := 0) rfl, PG.cellA hY9 (i := 1) rfl, PG.cellA hY9 (i := 2) rfl⟩
        have r6 := MC.own_only p6 ho9 (by omega)
        have r7 := PG.own_mono o7 hs8
        have x0 := PG.cellA hX9 (i := 0) rfl
        have x1 := PG.cellA hX9 (i := 1) rfl
        have x2 := PG.cellA hX9 (i := 2) rfl
        have z0 := PG.freeA hX9 (i := 0)
        have z1 := PG.freeA hX9 (i := 1)
        have z2 := PG.freeA hX9 (i := 2)
        have onR := (((MC.Only.refl w.heap.size w9).setCell 0 (.int .i64 (ws.length : Int))).setCell 1 (.int .i64 (R : Int))).setCell 2 (.slice a1 ws.length c1)
        have hYz := (onR.block q (by have := hO9.size; omega) (by omega)).trans hY9
        have hSz : (fun wq : World => wq.cell? ⟨q, 0, none⟩ = some (.int .i64 (ws.length : Int)) ∧ wq.cell? ⟨q, 1, none⟩ = some (.int .i64 (R : Int)) ∧ wq.cell? ⟨q, 2, none⟩ = some (.slice a1 ws.length c1)) (((w9.setCell ⟨w.heap.size, 0, none⟩ (.int .i64 (ws.length : Int))).setCell ⟨w.heap.size, 1, none⟩ (.int .i64 (R : Int))).setCell ⟨w.heap.size, 2, none⟩ (.slice a1 ws.length c1)) := ⟨PG.cellA hYz (i := 0) rfl, PG.cellA hYz (i := 1) rfl, PG.cellA hYz (i := 2) rfl⟩
        refine ⟨_, rfl, hS9, ?_⟩
        refine MR.storeH (w' := (((w9.setCell ⟨w.heap.size, 0, none⟩ (.int .i64 (ws.length : Int))).setCell ⟨w.heap.size, 1, none⟩ (.int .i64 (R : Int))).setCell ⟨w.heap.size, 2, none⟩ (.slice a1 ws.length c1))) (i := 9) (by kernel_rfl) rfl (MR.free rfl) (by simp [execOp, MR.ev, MR.size, hsz, e2, f2, e5, f5, e6, f6, x0, x1, x2, z0, z1, z2, go_sem]) ⟨hSz, ?_⟩
        refine MR.nowH (i := 10) (some 3) (.slice a6 X.length c6) (by kernel_rfl) rfl rfl (MR.free rfl) (by simp [execOp, MR.ev, MR.size, hsz, e2, f2, e5, f5, e6, f6, go_sem]) ⟨hSz, ?_⟩
        refine MR.nowH (i := 11) (some 4) (.slice a7 Y.length c7) (by kernel_rfl) rfl rfl (MR.free rfl) (by simp [execOp, MR.ev, MR.size, hsz, e2, f2, e5, f5, e6, f6, go_sem]) ⟨hSz, ?_⟩
        refine wpAnyH_done (by kernel_rfl) ⟨rfl, a6, c6, X, a7, c7, Y, ?_, ⟨by omega, by omega, w9, rfl, hO9, r6, r7⟩⟩ _
        rw [HA.out]
        simp only [Act.put, List.setIfInBounds_toArray, List.set_cons_succ, List.set_cons_zero]
        try rfl
      rintro aa w10 ⟨a6, c6, X, a7, c7, Y, rfl, hf⟩
      obtain ⟨hXl, hYl, V, rfl, hOV, g6, g7⟩ := hf.out
      rw [HA.out]
      obtain ⟨hEV, hXV, hYV⟩ := HE.out _ hOV
      have q0 := PG.cellA hYV (i := 0) rfl
      have q1 := PG.cellA hYV (i := 1) rfl
      have q2 := PG.cellA hYV (i := 2) rfl
      have x0 := PG.cellA hXV (i := 0) rfl
      have x1 := PG.cellA hXV (i := 1) rfl
      have x2 := PG.cellA hXV (i := 2) rfl
      have z0 := PG.freeA hXV (i := 0)
      have z1 := PG.freeA hXV (i := 1)
      have z2 := PG.freeA hXV (i := 2)
      have onR := (((MC.Only.refl w.heap.size V).setCell 0 (.int .i64 (ws.length : Int))).setCell 1 (.int .i64 (R : Int))).setCell 2 (.slice a1 ws.length c1)
      have hsV := hOV.size
      have hBz : Below w.heap.size w (((V.setCell ⟨w.heap.size, 0, none⟩ (.int .i64 (ws.length : Int))).setCell ⟨w.heap.size, 1, none⟩ (.int .i64 (R : Int))).setCell ⟨w.heap.size, 2, none⟩ (.slice a1 ws.length c1)) := (hWB.trans (hOV.below (by omega) (by omega))).trans (onR.below (Nat.le_refl _) (by omega))
      have HEz : Hid _ := hEV.only onR (by omega)
      have HT1 : Hid _ := M5.own_ints (MC.own_only g6 onR (by omega))
      have HT2 : Hid _ := M5.own_ints (MC.own_only g7 onR (by omega))
      clear HA e2 f2 e5 f5 e6 f6 hsz hf k0 k1 k2 hEV hXV hYV onR g6 g7
      simp only [Act.put, List.setIfInBounds_toArray, List.set_cons_succ, List.set_cons_zero]
      go_wp2
      exact bodyPost_ret (v := .tuple #[PG.pv (ws.length : Int) (R : Int) (.slice a1 ws.length c1), .slice a6 X.length c6, .slice a7 Y.length c7]) (by simp [results, Try.results21, go_sem, q0, q1, q2, x0, x1, x2, PG.pv]) rfl ⟨(ws.length : Int), (R : Int), a1, c1, ws, a6, c6, X, a7, c7, Y, rfl, ⟨h9, rfl, hr0, hr5⟩, ht, hXl, hYl, ⟨b, by omega, HEz.out⟩, HT1.out, HT2.out, hBz⟩
    · obtain ⟨hE6, hX6, hY6⟩ := HE.out _ hO6
      have q0 := PG.cellA hY6 (i := 0) rfl
      have q1 := PG.cellA hY6 (i := 1) rfl
      have q2 := PG.cellA hY6 (i := 2) rfl
      have x0 := PG.cellA hX6 (i := 0) rfl
      have x1 := PG.cellA hX6 (i := 1) rfl
      have x2 := PG.cellA hX6 (i := 2) rfl
      have z0 := PG.freeA hX6 (i := 0)
      have z1 := PG.freeA hX6 (i := 1)
      have z2 := PG.freeA hX6 (i := 2)
      have onR := (((MC.Only.refl w.heap.size w6).setCell 0 (.int .i64 (ws.length : Int))).setCell 1 (.int .i64 r)).setCell 2 (.slice a1 ws.length c1)
      have hsV := hO6.size
      have hBz : Below w.heap.size w (((w6.setCell ⟨w.heap.size, 0, none⟩ (.int .i64 (ws.length : Int))).setCell ⟨w.heap.size, 1, none⟩ (.int .i64 r)).setCell ⟨w.heap.size, 2, none⟩ (.slice a1 ws.length c1)) := (hWB.trans (hO6.below (by omega) (by omega))).trans (onR.below (Nat.le_refl _) (by omega))
      have HEz : Hid _ := hE6.only onR (by omega)
      have HT1 : Hid _ := M5.own_ints (MC.own_only G4.out onR (by omega))
      have HT2 : Hid _ := M5.own_ints (MC.own_only G5.out onR (by omega))
      clear hE6 hX6 hY6 onR
      go_wp2
      exact bodyPost_ret (v := .tuple #[PG.pv (ws.length : Int) r (.slice a1 ws.length c1), .slice a4 K.length c4, .slice a5 J.length c5]) (by simp [results, Try.results21, go_sem, q0, q1, q2, x0, x1, x2, PG.pv]) rfl ⟨(ws.length : Int), r, a1, c1, ws, a4, c4, K, a5, c5, J, rfl, ⟨h9, rfl, hr0, hr5⟩, ht, by omega, by omega, ⟨b, by omega, HEz.out⟩, HT1.out, HT2.out, hBz⟩
end Go.Proofs.Ytkgiboookbhmmaa
