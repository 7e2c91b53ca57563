import Derived.Test.YtllmlplnbnimeaaRows
import Derived.Test.YtllmlplnbnimeaaM4
import Derived.WalkKit
import Derived.WalkSpells
import Derived.WalkLawsBesides
import Derived.Outline
import Derived.Deep.QuietTactic
import Derived.BigQuiet
import Derived.Test.YtllmlplnbnimeaaMCur
import Derived.Test.YtllmlplnbnimeaaCPairD
import Derived.Test.YtllmlplnbnimeaaMPO
import Derived.Test.YtllmlplnbnimeaaCPairMI
import Derived.Test.YtllmlplnbnimeaaCPairAll
import Derived.Test.YtllmlplnbnimeaaCPairCovI
import Derived.Test.YtllmlplnbnimeaaCPairCovS
/- The laws' sameInts tells whether two slices hold the same numbers. -/
namespace Go.Proofs.Ytllmlplnbnimeaa
open Go.RowKit
set_option maxHeartbeats 800000 in
set_option maxRecDepth 100000 in
theorem sameInts_any (a b : Option Addr) (ca cb : Nat) (xs ys : List Int) (w : World) (hx : xs.length ≤ 140737488355328) (hy : ys.length ≤ 140737488355328) (hax : M4.IntsAt w a xs) (hay : M4.IntsAt w b ys) :
    Calls Try.prog 10 #[.slice a xs.length ca, .slice b ys.length cb] w fun e w' => e = .returned (.bool (decide (xs = ys))) ∧ Below w.heap.size w w' := by
  by_cases hl : xs.length = ys.length
  · have hne : ((xs.length : Int) != (ys.length : Int)) = false := by simp [hl]
    have l1 : xs.length ≤ ys.length := by omega
    have HL : Hid (xs.length = ys.length) := hl
    clear hl
    go_enter Try.func10, Try.ntmps10
    go_wp2
    go_loopw [5, 13] (fun _ iv wr => ∃ k : Nat, iv = .int .i64 k ∧ k ≤ xs.length ∧ Hid (xs.take k = ys.take k) ∧ Below w.heap.size w wr) (fun _ iv _ => (xs.length - intOf iv).toNat)
    case atStart => exact ⟨0, rfl, by omega, rfl, Below.refl _ _⟩
    case round =>
      obtain ⟨k, rfl, hk, hT, hb⟩ := hrel
      by_cases hl : k < xs.length
      · have hly : k < ys.length := by omega
        obtain ⟨b1, off1, rfl, hlt1, hc1⟩ := (hax.below hb).at hl
        obtain ⟨b2, off2, rfl, hlt2, hc2⟩ := (hay.below hb).at hly
        clear hax hay
        obtain ⟨x, hx'⟩ : ∃ x, x = xs.getD k 0 := ⟨_, rfl⟩
        obtain ⟨y, hy'⟩ : ∃ y, y = ys.getD k 0 := ⟨_, rfl⟩
        rw [← hx'] at hc1
        rw [← hy'] at hc2
        have HX : Hid (x = xs.getD k 0) := hx'
        have HY : Hid (y = ys.getD k 0) := hy'
        clear hx' hy'
        by_cases hxy : x = y
        · have hT' : Hid (xs.take (k + 1) = ys.take (k + 1)) := by
            show _ = _
            rw [M4.take_snoc xs k hl, M4.take_snoc ys k hly, hT.out, ← HX.out, ← HY.out, hxy]
          subst hxy
          go_wp2
          go_quiet (fail)
          go_wp2
          go_roundw
          case rel => exact ⟨k + 1, by go_num, by omega, hT', below_drewN hb _⟩
          case measure => simp [intOf]; omega
        · have hbe : (x != y) = true := by simp [hxy]
          have hF : Hid (decide (xs = ys) = false) := by
            show _ = _
            simp only [decide_eq_false_iff_not]
            exact M4.take_ne xs ys k (by rw [← HX.out, ← HY.out]; exact hxy)
          clear hxy
          go_wp2
          go_quiet (fail)
          go_wp2
          go_ret
          exact ⟨M4.ret_bool hF.out.symm, below_drewN hb _⟩
      · obtain rfl : k = xs.length := by omega
        have hF : Hid (decide (xs = ys) = true) := by
          show _ = _
          simp only [decide_eq_true_eq]
          exact M4.take_eq xs ys HL.out hT.out
        go_wp2
        go_ret
        exact ⟨M4.ret_bool hF.out.symm, hb⟩
  · have hne : ((xs.length : Int) != (ys.length : Int)) = true := by simp; omega
    have hF : Hid (decide (xs = ys) = false) := by
      show _ = _
      simp only [decide_eq_false_iff_not]
      exact fun e => hl (by rw [e])
    clear hl
    go_enter Try.func10, Try.ntmps10
    go_wp2
    go_ret
    exact ⟨M4.ret_bool hF.out.symm, Below.refl _ _⟩
end Go.Proofs.Ytllmlplnbnimeaa

/- A new cursor, over whatever program. -/
namespace Go.Proofs.Ytllmlplnbnimeaa
open Go.RowKit
/-- A new cursor. -/
theorem cur_new {w : World} {T : TypeId} {a : Option Addr} {zs : List Int} {cap : Nat} (h : MC.BytesAt w w.heap.size a zs) : MC.Cur (w.alloc (.cells #[.slice a zs.length cap, .int .i64 0, .int .u64 0] T)) w.heap.size a zs cap 0 := by
  have hc : ∀ j, (w.alloc (.cells #[.slice a zs.length cap, .int .i64 0, .int .u64 0] T)).cell? ⟨w.heap.size, j, none⟩ = (#[.slice a zs.length cap, .int .i64 0, .int .u64 0] : Array Value)[j]? := fun j => World.cell?_alloc_at _ _ _ _ (by rfl)
  refine ⟨by simp, hc 0, ⟨0, hc 1, by omega⟩, ⟨0, hc 2, by omega⟩, World.frozen?_alloc_at _ _ _ _ (by rfl), World.frozen?_alloc_at _ _ _ _ (by rfl), ?_⟩
  exact h.only (q := w.heap.size) (MC.Only.of_below ((Below.refl _ _).alloc (Nat.le_refl _) _)) (Nat.le_refl _) (Nat.le_refl _)
theorem new_below {p : Nat} {w w' : World} {o : Obj} (hp : p = w.heap.size) (h : MC.Only p (w.alloc o) w') : Below w.heap.size w w' :=
  ((Below.refl _ _).alloc (Nat.le_refl _) o).trans (h.below (by omega) (by simp))
theorem MC.BytesAt.up {w : World} {p q : Nat} {a : Option Addr} {zs : List Int} (h : MC.BytesAt w p a zs) (hp : p ≤ q) : MC.BytesAt w q a zs := by
  refine ⟨h.1, ?_⟩
  rcases h.2 with rfl | ⟨b, off, rfl, hlt, hc⟩
  · exact .inl rfl
  · exact .inr ⟨b, off, rfl, by omega, hc⟩
end Go.Proofs.Ytllmlplnbnimeaa

/- DrawGoodPairing, DrawMatchAll: a pairing, drawn. -/
namespace Go.Proofs.Ytllmlplnbnimeaa
open Go.RowKit
set_option linter.unusedSimpArgs false in
set_option maxHeartbeats 1600000 in
set_option maxRecDepth 100000 in
theorem drawGoodPairing_any (a : Option Addr) (zs : List Int) (cap : Nat) (w : World) (hz : zs.length ≤ 140737488355328) (hb : MC.BytesAt w w.heap.size a zs) :
    Calls Try.prog 23 #[.slice a zs.length cap] w fun e w' => ∃ (l r : Int) (a1 : Option Addr) (c1 : Nat) (ws : List (List Int)), e = .returned (PG.pv l r (.slice a1 ws.length c1)) ∧ ws.length ≤ 9 ∧ NR.tot ws ≤ 100 ∧ (∃ b, w.heap.size < b ∧ PG.PE 25 27 b w' l r (.slice a1 ws.length c1) ws) ∧ Below w.heap.size w w' := by
  have B0 : Below w.heap.size w (w.alloc (.cells #[.int .i64 0, .int .i64 0, .slice none 0 0] 25)) := (Below.refl _ w).alloc (Nat.le_refl _) _
  have hb0 := (hb.only (q := w.heap.size) (MC.Only.of_below B0) (Nat.le_refl _) (Nat.le_refl _)).up B0.size
  have hbx : (w.alloc (.cells #[.int .i64 0, .int .i64 0, .slice none 0 0] 25)).heap[w.heap.size]? = some (.cells #[.int .i64 0, .int .i64 0, .slice none 0 0] 25 (0, 0)) := heap_alloc_new w _
  have hs0 : w.heap.size < (w.alloc (.cells #[.int .i64 0, .int .i64 0, .slice none 0 0] 25)).heap.size := by simp
  have hs9 : (w.alloc (.cells #[.int .i64 0, .int .i64 0, .slice none 0 0] 25)).heap.size = w.heap.size + 1 := by simp
  have hcn := cur_new (T := 64) (cap := cap) hb0
  rw [hs9] at hcn
  have PN : Hid _ := pairing_any (w.heap.size + 1) a zs cap 0 _ hz (by omega) hcn
  have HBX : Hid _ := hbx
  clear hb hb0 hbx hcn
  go_enter Try.func23, Try.ntmps23
  go_wp2_with fail
  refine Calls.mono PN.out ?_
  rintro e w1 ⟨l, r, a1, c1, ws, rfl, h9, ht, ⟨b, hbl, hE⟩, hc1, ho1⟩
  have hB1 := new_below hs9.symm ho1
  have hbx1 := (hB1.block w.heap.size hs0).trans HBX.out
  clear PN hc1 ho1 HBX
  have x0 := PG.cellA hbx1 (i := 0) rfl
  have x1 := PG.cellA hbx1 (i := 1) rfl
  have x2 := PG.cellA hbx1 (i := 2) rfl
  have z0 := PG.freeA hbx1 (i := 0)
  have z1 := PG.freeA hbx1 (i := 1)
  have z2 := PG.freeA hbx1 (i := 2)
  have onR := (((MC.Only.refl w.heap.size w1).setCell 0 (.int .i64 l)).setCell 1 (.int .i64 r)).setCell 2 (.slice a1 ws.length c1)
  have hs1 := hB1.size
  have hBz : Below w.heap.size w (((w1.setCell ⟨w.heap.size, 0, none⟩ (.int .i64 l)).setCell ⟨w.heap.size, 1, none⟩ (.int .i64 r)).setCell ⟨w.heap.size, 2, none⟩ (.slice a1 ws.length c1)) := (B0.trans (hB1.mono B0.size)).trans (onR.below (Nat.le_refl _) (by omega))
  have hbl' : w.heap.size < b := by simp at hbl hs0; omega
  have hEz := hE.only onR hbl'
  have HZ : Hid _ := hEz
  clear hE hB1 onR hEz hbx1 B0
  simp only [PG.pv] at *
  go_wp2
  exact bodyPost_ret (v := PG.pv l r (.slice a1 ws.length c1)) (by simp [results, Try.results23, go_sem, x0, x1, x2]) rfl ⟨l, r, a1, c1, ws, rfl, h9, ht, ⟨b, hbl', HZ.out⟩, hBz⟩
set_option linter.unusedSimpArgs false in
set_option maxHeartbeats 1600000 in
set_option maxRecDepth 100000 in
theorem drawMatchAll_any (a : Option Addr) (zs : List Int) (cap : Nat) (w : World) (hz : zs.length ≤ 140737488355328) (hb : MC.BytesAt w w.heap.size a zs) :
    Calls Try.prog 5 #[.slice a zs.length cap] w fun e w' => ∃ (l r : Int) (a1 : Option Addr) (c1 : Nat) (ws : List (List Int)), e = .returned (PG.pv l r (.slice a1 ws.length c1)) ∧ ws.length ≤ 9 ∧ NR.tot ws ≤ 100 ∧ (∃ b, w.heap.size < b ∧ PG.PE 25 27 b w' l r (.slice a1 ws.length c1) ws) ∧ Below w.heap.size w w' := by
  have B0 : Below w.heap.size w (w.alloc (.cells #[.int .i64 0, .int .i64 0, .slice none 0 0] 25)) := (Below.refl _ w).alloc (Nat.le_refl _) _
  have hb0 := (hb.only (q := w.heap.size) (MC.Only.of_below B0) (Nat.le_refl _) (Nat.le_refl _)).up B0.size
  have hbx : (w.alloc (.cells #[.int .i64 0, .int .i64 0, .slice none 0 0] 25)).heap[w.heap.size]? = some (.cells #[.int .i64 0, .int .i64 0, .slice none 0 0] 25 (0, 0)) := heap_alloc_new w _
  have hs0 : w.heap.size < (w.alloc (.cells #[.int .i64 0, .int .i64 0, .slice none 0 0] 25)).heap.size := by simp
  have PN : Hid _ := drawGoodPairing_any a zs cap _ hz hb0
  have HBX : Hid _ := hbx
  clear hb hb0 hbx
  go_enter Try.func5, Try.ntmps5
  go_wp2_with fail
  refine Calls.mono PN.out ?_
  rintro e w1 ⟨l, r, a1, c1, ws, rfl, h9, ht, ⟨b, hbl, hE⟩, hB1⟩
  have hbx1 := (hB1.block w.heap.size hs0).trans HBX.out
  clear PN HBX
  have x0 := PG.cellA hbx1 (i := 0) rfl
  have x1 := PG.cellA hbx1 (i := 1) rfl
  have x2 := PG.cellA hbx1 (i := 2) rfl
  have z0 := PG.freeA hbx1 (i := 0)
  have z1 := PG.freeA hbx1 (i := 1)
  have z2 := PG.freeA hbx1 (i := 2)
  have onR := (((MC.Only.refl w.heap.size w1).setCell 0 (.int .i64 l)).setCell 1 (.int .i64 r)).setCell 2 (.slice a1 ws.length c1)
  have hs1 := hB1.size
  have hBz : Below w.heap.size w (((w1.setCell ⟨w.heap.size, 0, none⟩ (.int .i64 l)).setCell ⟨w.heap.size, 1, none⟩ (.int .i64 r)).setCell ⟨w.heap.size, 2, none⟩ (.slice a1 ws.length c1)) := (B0.trans (hB1.mono B0.size)).trans (onR.below (Nat.le_refl _) (by omega))
  have hbl' : w.heap.size < b := by simp at hbl hs0; omega
  have hEz := hE.only onR hbl'
  have HZ : Hid _ := hEz
  clear hE hB1 onR hEz hbx1 B0
  simp only [PG.pv] at *
  go_wp2
  exact bodyPost_ret (v := PG.pv l r (.slice a1 ws.length c1)) (by simp [results, Try.results5, go_sem, x0, x1, x2]) rfl ⟨l, r, a1, c1, ws, rfl, h9, ht, ⟨b, hbl', HZ.out⟩, hBz⟩
end Go.Proofs.Ytllmlplnbnimeaa

/- The law FnKonig answers true at every argument. -/
namespace Go.Proofs.Ytllmlplnbnimeaa
open Go.RowKit
namespace PG
/-- The pairs among the first. -/
def prsTo (m : List Int) (k : Nat) : Nat := prs (m.take k)
theorem prsTo_succ (m : List Int) (k : Nat) (hk : k < m.length) : prsTo m (k + 1) = prsTo m k + (if 0 ≤ m.getD k 0 then 1 else 0) := by
  unfold prsTo prs
  rw [List.take_add_one, List.getElem?_eq_getElem hk, List.countP_append, List.getD_eq_getElem?_getD, List.getElem?_eq_getElem hk]
  simp [List.countP_cons]
theorem prsTo_le (m : List Int) (k : Nat) : prsTo m k ≤ k := by
  unfold prsTo prs
  refine Nat.le_trans (List.countP_le_length) ?_
  rw [List.length_take]; omega
theorem prsTo_all (m : List Int) : prsTo m m.length = prs m := by unfold prsTo; rw [List.take_length]
end PG
set_option linter.unusedSimpArgs false in
set_option maxHeartbeats 3200000 in
set_option maxRecDepth 100000 in
theorem lawFnKonig_any (a : Option Addr) (zs : List Int) (ca : Nat) (w : World) (hz : zs.length ≤ 140737488355328) (hbz : MC.BytesAt w w.heap.size a zs) :
    Calls Try.prog 3 #[.slice a zs.length ca] w fun e w' => e = .returned (.bool true) ∧ Below w.heap.size w w' := by
  by_cases h20 : zs.length ≤ 1048576
  · go_enter Try.func3, Try.ntmps3
    go_wp2_with fail
    refine (drawMatchAll_any a zs ca _ hz hbz).mono ?_
    rintro e w1 ⟨l, r, a1, c1, ws, rfl, h9, ht, ⟨b, hbl, hE⟩, B1⟩
    clear hbz
    go_wp2_with fail
    have B0 : Below w1.heap.size w1 (w1.alloc (Obj.cells #[.int .i64 l, .int .i64 r, .slice a1 ws.length c1] 25)) := (Below.refl _ w1).alloc (Nat.le_refl _) _
    have hRW : NR.RowsAt (w1.alloc (Obj.cells #[.int .i64 l, .int .i64 r, .slice a1 ws.length c1] 25)) a1 ws := by
      obtain ⟨az, cz, hvz, hR⟩ := hE.view
      simp only [Value.slice.injEq] at hvz
      obtain ⟨rfl, -, -⟩ := hvz
      exact NR.RowsAt.below hR B0
    have hbx := heap_alloc_new w1 (Obj.cells #[.int .i64 l, .int .i64 r, .slice a1 ws.length c1] 25)
    have hlt : w1.heap.size < (w1.alloc (Obj.cells #[.int .i64 l, .int .i64 r, .slice a1 ws.length c1] 25)).heap.size := by simp
    have BW : Below w.heap.size w (w1.alloc (Obj.cells #[.int .i64 l, .int .i64 r, .slice a1 ws.length c1] 25)) := B1.trans (B0.mono B1.size)
    clear B0 B1 hE hbl
    generalize w1.alloc (Obj.cells #[.int .i64 l, .int .i64 r, .slice a1 ws.length c1] 25) = W at *
    generalize w1.heap.size = q at *
    have BX : Hid (∀ V : World, Below W.heap.size W V → V.cell? ⟨q, 0, none⟩ = some (.int .i64 l) ∧ V.cell? ⟨q, 1, none⟩ = some (.int .i64 r) ∧ V.cell? ⟨q, 2, none⟩ = some (.slice a1 ws.length c1)) := fun V h => by
      have hV := (h.block q hlt).trans hbx
      exact ⟨PG.cellA hV (i := 0) rfl, PG.cellA hV (i := 1) rfl, PG.cellA hV (i := 2) rfl⟩
    have hLl := PG.allL_le l r ws
    have hK1 := PG.coA_le l r ws
    have hK2 := PG.coB_le l r ws
    have AI : Hid (∀ V : World, Below W.heap.size W V → _) := fun V h => implAll_any l r a1 c1 ws V (by omega) (by omega) (NR.RowsAt.below hRW h) _ _ rfl rfl
    have AS : Hid (∀ V : World, Below W.heap.size W V → _) := fun V h => specAll_any l r a1 c1 ws V (by omega) (by omega) (NR.RowsAt.below hRW h) _ _ rfl rfl
    have CI : Hid (∀ V : World, Below W.heap.size W V → _) := fun V h => implCov_any l r a1 c1 ws V (by omega) (by omega) (NR.RowsAt.below hRW h) _ _ _ rfl rfl rfl
    have CS : Hid (∀ V : World, Below W.heap.size W V → _) := fun V h => specCov_any l r a1 c1 ws V (by omega) (by omega) (NR.RowsAt.below hRW h) _ _ _ rfl rfl rfl
    have GI : Hid (∀ V : World, Below W.heap.size W V → _) := fun V h => implGoodP_any l r a1 c1 ws V (by omega) (by omega) (NR.RowsAt.below hRW h) _ rfl
    have IM : Hid (∀ V : World, Below W.heap.size W V → ∀ b2 c2, (PG.allL l r ws).length ≤ c2 → M4.IntsAt V b2 (PG.allL l r ws) → _) := fun V h b2 c2 h1 h2 => implIsMatch_any l r a1 b2 c1 c2 ws (PG.allL l r ws) V (by omega) (by omega) (by omega) h1 (NR.RowsAt.below hRW h) h2
    have IC : Hid (∀ V : World, Below W.heap.size W V → ∀ b2 c2 b3 c3, M4.IntsAt V b2 (PG.coA l r ws) → M4.IntsAt V b3 (PG.coB l r ws) → _) := fun V h b2 c2 b3 c3 h2 h3 => implIsCover_any l r a1 b2 b3 c1 c2 c3 ws (PG.coA l r ws) (PG.coB l r ws) V (by omega) (by omega) (by omega) (by omega) (NR.RowsAt.below hRW h) h2 h3
    have IP : Hid (PG.impL l r ws (PG.allL l r ws) = none → ∀ V : World, Below W.heap.size W V → ∀ g2 c2, (PG.allL l r ws).length ≤ c2 → M4.IntsAt V (some ⟨g2, 0, none⟩) (PG.allL l r ws) → _) := fun hn V h g2 c2 h1 h2 => implImp_any l r a1 c1 c2 g2 ws (PG.allL l r ws) V (by omega) (by omega) (by omega) h1 (NR.RowsAt.below hRW h) h2 none hn
    have KN : Hid (PG.good l r ws = true → _) := fun h => PG.konig h
    have NO : Hid (PG.good l r ws = false → PG.allL l r ws = []) := fun h => PG.allL_no h
    have LP : Hid (PG.good l r ws = true → 0 < (PG.allL l r ws).length) := fun h => by rw [PG.allL_len h]; have := (PG.good_is h).1; omega
    have B0 : Below W.heap.size W W := Below.refl _ _
    clear hRW hbx
    have AI1 : Hid _ := AI.out W B0
    clear AI
    refine Calls.mono AI1.out ?_
    rintro e w3 ⟨a2, c2, rfl, o2, b2⟩
    have AS1 : Hid _ := AS.out w3 b2
    obtain ⟨x0, x1, x2⟩ := BX.out w3 b2
    clear AI1 AS
    go_wp2_with fail
    clear x0 x1 x2
    refine Calls.mono AS1.out ?_
    rintro e w4 ⟨a3, c3, rfl, o3, b3⟩
    have b14 : Below W.heap.size W w4 := b2.trans (b3.mono b2.size)
    have CI1 : Hid _ := CI.out w4 b14
    obtain ⟨x0, x1, x2⟩ := BX.out w4 b14
    clear AS1 CI
    go_wp2_with fail
    clear x0 x1 x2
    refine Calls.mono CI1.out ?_
    rintro e w5 ⟨a4, c4, a5, c5, M4_, rfl, -, -, o4, -, o5, b4⟩
    have b15 : Below W.heap.size W w5 := b14.trans (b4.mono b14.size)
    have CS1 : Hid _ := CS.out w5 b15
    obtain ⟨x0, x1, x2⟩ := BX.out w5 b15
    clear CI1 CS
    go_wp2_with fail
    clear x0 x1 x2
    refine Calls.mono CS1.out ?_
    rintro e w6 ⟨a6, c6, a7, c7, M6_, rfl, -, -, o6, -, o7, b5⟩
    have b16 : Below W.heap.size W w6 := b15.trans (b5.mono b15.size)
    have q46 : Below w4.heap.size w4 w6 := b4.trans (b5.mono b4.size)
    have q36 : Below w3.heap.size w3 w6 := b3.trans (q46.mono b3.size)
    have HO2 : Hid (World.ownsRow w6 W.heap.size 3 1 (.slice a2 (PG.allL l r ws).length c2) (PG.allL l r ws).length (M4.iv (PG.allL l r ws))) := M5.own_below o2 q36
    have I3' := M5.own_ints (M5.own_below o3 q46)
    have I4 := M5.own_ints (M5.own_below o4 b5)
    have I5 := M5.own_ints (M5.own_below o5 b5)
    have I6 := M5.own_ints o6
    have I7 := M5.own_ints o7
    have S1 : Hid _ := sameInts_any a2 a3 c2 c3 (PG.allL l r ws) (PG.allL l r ws) w6 (by omega) (by omega) (M5.own_ints HO2.out) I3'
    have HI4 : Hid _ := I4
    have HI5 : Hid _ := I5
    have HI6 : Hid _ := I6
    have HI7 : Hid _ := I7
    clear CS1 o2 o3 o4 o5 o6 o7 I3' I4 I5 I6 I7 b2 b3 b4 b5 b14 b15 q46 q36
    go_wp2_with fail
    refine Calls.mono S1.out ?_
    rintro e w7 ⟨rfl, b7⟩
    have b17 : Below W.heap.size W w7 := b16.trans (b7.mono b16.size)
    have S2 : Hid _ := sameInts_any a4 a6 c4 c6 (PG.coA l r ws) (PG.coA l r ws) w7 (by omega) (by omega) (M4.IntsAt.below HI4.out b7) (M4.IntsAt.below HI6.out b7)
    have HO7 : Hid _ := M5.own_below HO2.out b7
    have J4 : Hid (M4.IntsAt w7 a4 (PG.coA l r ws)) := (M4.IntsAt.below HI4.out b7)
    have J5 : Hid (M4.IntsAt w7 a5 (PG.coB l r ws)) := (M4.IntsAt.below HI5.out b7)
    have J7 : Hid (M4.IntsAt w7 a7 (PG.coB l r ws)) := (M4.IntsAt.below HI7.out b7)
    clear S1 HO2 HI4 HI5 HI6 HI7 b7 b16
    go_wp2_with fail
    refine Calls.mono S2.out ?_
    rintro e w8 ⟨rfl, b8⟩
    have b18 : Below W.heap.size W w8 := b17.trans (b8.mono b17.size)
    have S3 : Hid _ := sameInts_any a5 a7 c5 c7 (PG.coB l r ws) (PG.coB l r ws) w8 (by omega) (by omega) (M4.IntsAt.below J5.out b8) (M4.IntsAt.below J7.out b8)
    have HO8 : Hid _ := M5.own_below HO7.out b8
    have K4 : Hid (M4.IntsAt w8 a4 (PG.coA l r ws)) := (M4.IntsAt.below J4.out b8)
    have K5 : Hid (M4.IntsAt w8 a5 (PG.coB l r ws)) := (M4.IntsAt.below J5.out b8)
    clear S2 HO7 J4 J5 J7 b8 b17
    go_wp2_with fail
    refine Calls.mono S3.out ?_
    rintro e w9 ⟨rfl, b9⟩
    have b19 : Below W.heap.size W w9 := b18.trans (b9.mono b18.size)
    have GI1 : Hid _ := GI.out w9 b19
    obtain ⟨x0, x1, x2⟩ := BX.out w9 b19
    have HO9 : Hid _ := M5.own_below HO8.out b9
    have L4 : Hid (M4.IntsAt w9 a4 (PG.coA l r ws)) := (M4.IntsAt.below K4.out b9)
    have L5 : Hid (M4.IntsAt w9 a5 (PG.coB l r ws)) := (M4.IntsAt.below K5.out b9)
    clear S3 GI HO8 K4 K5 b9 b18
    go_wp2_with fail
    clear x0 x1 x2
    refine Calls.mono GI1.out ?_
    rintro e w10 ⟨rfl, b10⟩
    have b110 : Below W.heap.size W w10 := b19.trans (b10.mono b19.size)
    have HO10 : Hid (World.ownsRow w10 W.heap.size 3 1 (.slice a2 (PG.allL l r ws).length c2) (PG.allL l r ws).length (M4.iv (PG.allL l r ws))) := M5.own_below HO9.out b10
    have N4 : Hid (M4.IntsAt w10 a4 (PG.coA l r ws)) := (M4.IntsAt.below L4.out b10)
    have N5 : Hid (M4.IntsAt w10 a5 (PG.coB l r ws)) := (M4.IntsAt.below L5.out b10)
    clear GI1 HO9 L4 L5 b10 b19
    cases hg : PG.good l r ws with
    | false =>
      have hE := NO.out hg
      rw [hE]
      have BZ := BW.trans (b110.mono BW.size)
      clear NO KN LP IM IC IP HO10 N4 N5 BX hLl hK1 hK2 hg hE
      go_wp2
      go_ret
      exact ⟨rfl, BZ⟩
    | true =>
      obtain ⟨k1, k2, k3, k4, k5, k6⟩ := KN.out hg
      have hLP := LP.out hg
      have IP2 : Hid _ := IP.out k3
      have KK : Hid (_ ∧ _ ∧ _ ∧ _) := ⟨k1, k2, k4, k5⟩
      have K6 : Hid _ := k6
      clear k1 k2 k3 k4 k5 k6 KN NO LP IP hg
      generalize PG.allL l r ws = L at *
      generalize PG.coA l r ws = K at *
      generalize PG.coB l r ws = J at *
      go_wp2
      go_loopw [14, 89] (fun pv iv wr => ∃ k : Nat, iv = .int .i64 k ∧ k ≤ L.length ∧ pv = .int .i64 (PG.prsTo L k : Nat) ∧ Below w10.heap.size w10 wr) (fun _ iv _ => (L.length - intOf iv).toNat)
      case atStart => exact ⟨0, rfl, by omega, rfl, Below.refl _ _⟩
      case round =>
        obtain ⟨k, rfl, hk, rfl, hb⟩ := hrel
        by_cases hlk : k < L.length
        · obtain ⟨b2, off2, rfl, hlt2, d0⟩ := M4.IntsAt.at (M4.IntsAt.below (M5.own_ints HO10.out) hb) (k := k) hlk
          have hs := PG.prsTo_succ L k hlk
          have hsl := PG.prsTo_le L k
          have HS : Hid _ := hs
          generalize L.getD k 0 = y at *
          clear hs
          by_cases hy : 0 ≤ y
          · go_wp2
            go_roundw
            case rel => exact ⟨k + 1, by go_num, by omega, by rw [HS.out, if_pos hy]; go_num, hb⟩
            case measure => simp [intOf]; omega
          · go_wp2
            go_roundw
            case rel => exact ⟨k + 1, by go_num, by omega, by rw [HS.out, if_neg hy]; rfl, hb⟩
            case measure => simp [intOf]; omega
        · obtain rfl : k = L.length := by omega
          have hp := PG.prsTo_all L
          rw [hp]
          have HP : Hid _ := hp
          clear hp
          have b111 : Below W.heap.size W wr := b110.trans (hb.mono b110.size)
          have HO11 := M5.own_below HO10.out hb
          obtain ⟨g2, rfl, hcap⟩ : ∃ g2, a2 = some ⟨g2, 0, none⟩ ∧ L.length ≤ c2 := by
            rcases HO11.2 with ⟨_, h0⟩ | ⟨g, cap, cur, hv, _, _, hge, _⟩
            · omega
            · simp only [Value.slice.injEq] at hv
              exact ⟨g, hv.1, by rw [hv.2.2]; exact hge⟩
          have I11 := M5.own_ints HO11
          have IM1 : Hid _ := IM.out wr b111 _ c2 hcap I11
          rw [KK.out.1, KK.out.2.1] at IM1
          have P2 : Hid _ := I11
          have P4 : Hid _ := (M4.IntsAt.below N4.out hb)
          have P5 : Hid _ := (M4.IntsAt.below N5.out hb)
          obtain ⟨x0, x1, x2⟩ := BX.out wr b111
          clear I11 HO11 IM N4 N5 HO10 hb b110
          go_wp2_with fail
          clear x0 x1 x2
          refine Calls.mono IM1.out ?_
          rintro e w12 ⟨rfl, b12⟩
          have b112 : Below W.heap.size W w12 := b111.trans (b12.mono b111.size)
          have IC1 : Hid _ := IC.out w12 b112 a4 c4 a5 c5 (M4.IntsAt.below P4.out b12) (M4.IntsAt.below P5.out b12)
          rw [KK.out.2.2.1, KK.out.2.2.2] at IC1
          have Q2 : Hid _ := (M4.IntsAt.below P2.out b12)
          obtain ⟨x0, x1, x2⟩ := BX.out w12 b112
          clear IM1 IC P2 P4 P5 b12 b111
          go_wp2_with fail
          clear x0 x1 x2
          refine Calls.mono IC1.out ?_
          rintro e w13 ⟨rfl, b13⟩
          have b113 : Below W.heap.size W w13 := b112.trans (b13.mono b112.size)
          have IP1 : Hid _ := IP2.out w13 b113 g2 c2 hcap (M4.IntsAt.below Q2.out b13)
          obtain ⟨x0, x1, x2⟩ := BX.out w13 b113
          clear IC1 IP2 Q2 b13 b112
          go_wp2_with fail
          clear x0 x1 x2
          refine Calls.mono IP1.out ?_
          rintro e w14 ⟨a14, c14, rfl, -, b14⟩
          have b114 : Below W.heap.size W w14 := b113.trans (b14.mono b113.size)
          have BZ := BW.trans (b114.mono BW.size)
          have h6 : ((K.length : Int) + (J.length : Int) == ((PG.prs L : Nat) : Int)) = true := by rw [← K6.out]; simp
          have H6 : Hid _ := h6
          clear h6
          clear IP1 BX b14 b113 b114 KK K6 HP
          go_wp2
          go_ret
          exact ⟨congrArg (fun b => Ending.returned (.bool b)) H6.out, BZ⟩
  · go_enter Try.func3, Try.ntmps3
    go_wp2
    go_ret
    exact ⟨rfl, Below.refl _ _⟩
end Go.Proofs.Ytllmlplnbnimeaa
