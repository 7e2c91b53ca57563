/- AskBucket of the program. -/
import Derived.Test.YteedppngiknjlaaDoorRows
import Derived.Test.YteedppngiknjlaaDoorCWithOne
import Derived.Test.YteedppngiknjlaaDoorCErr
import Derived.Test.YteedppngiknjlaaDoorCErrAs
import Derived.Test.YteedppngiknjlaaDoorMEr3
import Derived.WalkKit
import Derived.WalkSpells
import Derived.WalkLawsBesides
import Derived.Outline
import Derived.Deep.RegionHeld3
namespace Go.Proofs.YteedppngiknjlaaDoor
open Go.RowKit
theorem as_hit_below (n : Int) (t : Nat) (a b : Addr) (old : Value) (w : World) (hE : Er3 w a b) (ht : w.cell? ⟨t, 0, none⟩ = some old) (hf : w.frozen? ⟨t, 0, none⟩ = false) :
    Calls Tryd.prog 34 #[.iface 70 (.agg #[.int .i64 n]), .iface 72 (.pointer (some ⟨t, 0, none⟩))] w fun e w' => e = .returned (.bool true) ∧ Below t w w' ∧ w'.cell? ⟨t, 0, none⟩ = some (.int .i64 n) := by
  refine (as_hit n t old w hE.g ht hf).mono ?_
  rintro e w' ⟨rfl, rfl⟩
  have htl : t < w.heap.size := by
    rcases Nat.lt_or_ge t w.heap.size with h | h
    · exact h
    · simp [World.cell?, Array.getElem?_eq_none h] at ht
  refine ⟨rfl, Below.setCell (((((Below.refl t w).alloc (by omega) _).alloc (by simp; omega) _).alloc (by simp; omega) _).alloc (by simp; omega) _) (by simp) _, ?_⟩
  refine World.cell?_setCell_same _ _ _ (u := old) ?_
  rw [World.cell?_alloc_lt _ _ ⟨t, 0, none⟩ (by simp; omega), World.cell?_alloc_lt _ _ ⟨t, 0, none⟩ (by simp; omega), World.cell?_alloc_lt _ _ ⟨t, 0, none⟩ (by simp; omega), World.cell?_alloc_lt _ _ ⟨t, 0, none⟩ htl, ht]
set_option linter.unusedSimpArgs false in
set_option maxHeartbeats 1600000 in
set_option maxRecDepth 100000 in
theorem implAskB_any (x : Bk) (n : Int) (a b : Addr) (w : World) (hE : Er3 w a b) :
    Calls Tryd.prog 14 #[x.v, .int .i64 n] w fun e w' => e = .returned (.tuple #[(BK.ask x n).v, .bool (BK.letB x n), .bool (BK.levOk x n)]) ∧ Below w.heap.size w w' := by
  have DW : Hid (∀ (W : World) (_ : Er1 W a), Calls Tryd.prog 33 #[x.v, .int .i64 n] W fun e w' => e = .returned (.tuple #[.int .i64 (oneL x n), fltB x n a]) ∧ Below W.heap.size W w') := fun W h => withOne_any x n a W h
  have IS : Hid (∀ W : World, Calls Tryd.prog 32 #[.iface 111 (.pointer (some a)), .iface 111 (.pointer (some a))] W fun e w' => e = .returned (.bool true) ∧ W = w') := fun W => is_same a W
  have IN : Hid (∀ W : World, Calls Tryd.prog 32 #[.nilIface, .iface 111 (.pointer (some a))] W fun e w' => e = .returned (.bool false) ∧ W = w') := fun W => is_nil a W
  have IO : Hid (∀ (W : World) (_ : Er2 W a b), Calls Tryd.prog 32 #[.iface 70 (.agg #[.int .i64 (BK.lvl x n)]), .iface 111 (.pointer (some a))] W fun e w' => e = .returned (.bool false) ∧ Below W.heap.size W w') := fun W h => is_spill_other _ a b W h
  have AN : Hid (∀ (t : Value) (W : World), Calls Tryd.prog 34 #[.nilIface, t] W fun e w' => e = .returned (.bool false) ∧ W = w') := fun t W => as_nil t W
  have AH : Hid (∀ (t : Nat) (old : Value) (W : World) (_ : Er3 W a b) (_ : W.cell? ⟨t, 0, none⟩ = some old) (_ : W.frozen? ⟨t, 0, none⟩ = false), Calls Tryd.prog 34 #[.iface 70 (.agg #[.int .i64 (BK.lvl x n)]), .iface 72 (.pointer (some ⟨t, 0, none⟩))] W fun e w' => e = .returned (.bool true) ∧ Below t W w' ∧ w'.cell? ⟨t, 0, none⟩ = some (.int .i64 (BK.lvl x n))) := fun t old W h1 h2 h3 => as_hit_below _ t a b old W h1 h2 h3
  have HE : Hid _ := (hE.alloc (.cells #[.int .i64 x.p, .int .i64 x.u, .int .i64 x.l, .int .i64 x.t] 35)).alloc (.cells #[.int .i64 0, .int .i64 0, .int .i64 0, .int .i64 0] 35)
  clear hE
  have hF : BK.levOk x n = false → fltB x n a = .iface 111 (.pointer (some a)) ∧ BK.letB x n = false ∧ BK.zB = BK.ask x n := fun h => by simp [fltB, BK.letB, BK.ask, h]
  have hY : BK.levOk x n = true → BK.letB x n = true → fltB x n a = .nilIface ∧ (⟨x.p, x.u, oneL x n, n⟩ : Bk) = BK.ask x n := fun h h' => by simp [fltB, oneL, BK.ask, h, h']
  have hN : BK.levOk x n = true → BK.letB x n = false → fltB x n a = .iface 70 (.agg #[.int .i64 (BK.lvl x n)]) ∧ (⟨x.p, x.u, BK.lvl x n, n⟩ : Bk) = BK.ask x n := fun h h' => by simp [fltB, BK.ask, h, h']
  generalize BK.ask x n = R at *
  generalize fltB x n a = F at *
  generalize oneL x n = L at *
  generalize BK.lvl x n = V at *
  generalize BK.levOk x n = K at *
  generalize BK.letB x n = M at *
  obtain ⟨p, u, l, t⟩ := x
  have hA := (BK.At4.new w (.int .i64 p) (.int .i64 u) (.int .i64 l) (.int .i64 t) 35 _ rfl).alloc (.cells #[.int .i64 0, .int .i64 0, .int .i64 0, .int .i64 0] 35)
  have hZ := BK.At4.new (w.alloc (.cells #[.int .i64 p, .int .i64 u, .int .i64 l, .int .i64 t] 35)) (.int .i64 0) (.int .i64 0) (.int .i64 0) (.int .i64 0) 35 (w.heap.size + 1) (by simp)
  have hB : Below w.heap.size w _ := ((Below.refl _ w).alloc (Nat.le_refl _) (.cells #[.int .i64 p, .int .i64 u, .int .i64 l, .int .i64 t] 35)).alloc (by simp) (.cells #[.int .i64 0, .int .i64 0, .int .i64 0, .int .i64 0] 35)
  go_enter Tryd.func14, Tryd.ntmps14
  go_wp2_with fail
  refine (DW.out _ HE.out.e2.e1).mono ?_
  rintro e w1 ⟨rfl, hb1⟩
  have hA1 := hA.below hb1 hA.lt
  have hZ1 := hZ.below hb1 hZ.lt
  have hE1 : Hid _ := HE.out.below hb1 (Nat.le_refl _)
  have hB1 := hB.trans (hb1.mono hB.size)
  have hg0 := hE1.out.e2.e1.g
  clear hb1 hB HE DW hA hZ
  cases K
  · obtain ⟨rfl, rfl, hR⟩ := hF rfl
    have HR : Hid (BK.zB = R) := hR
    obtain ⟨d0, d1, d2, d3⟩ := hZ1.cells
    have z0 := hZ1.free 0
    have z1 := hZ1.free 1
    have z2 := hZ1.free 2
    have z3 := hZ1.free 3
    have hlt := hZ1.lt
    clear hF hY hN hR hA1 hE1 IN IO hZ1 AN AH
    go_wp2_with fail
    refine (IS.out _).mono ?_
    rintro e w2 ⟨rfl, rfl⟩
    clear IS
    go_wp2
    exact bodyPost_ret (v := .tuple #[Bk.v BK.zB, .bool false, .bool false]) (by simp [results, Tryd.results14, go_sem, BK.zB, d0, d1, d2, d3]) rfl ⟨retBBB13 HR.out rfl rfl, (((hB1.setCell (by simp) _).setCell (by simp) _).setCell (by simp) _).setCell (by simp) _⟩
  · cases M
    · obtain ⟨rfl, hR⟩ := hN rfl rfl
      have HR : Hid ((⟨p, u, V, n⟩ : Bk) = R) := hR
      clear hF hY hN hR IN IS AN
      have HB1 : Hid _ := hB1
      clear hB1
      go_wp2_with fail
      refine (IO.out _ hE1.out.e2).mono ?_
      rintro e w2 ⟨rfl, hb2⟩
      have hA2 := (hA1.below hb2 hA1.lt).alloc (.cells #[.int .i64 0] 70)
      have hZ2 := (hZ1.below hb2 hZ1.lt).alloc (.cells #[.int .i64 0] 70)
      have hE2 : Hid _ := (hE1.out.below hb2 (Nat.le_refl _)).alloc (.cells #[.int .i64 0] 70)
      have hl1 := Nat.lt_of_lt_of_le hA1.lt hb2.size
      have hl2 := Nat.lt_of_lt_of_le hZ1.lt hb2.size
      have hs2 := Nat.le_trans HB1.out.size hb2.size
      have HB2 : Hid _ := (HB1.out.trans (hb2.mono HB1.out.size)).alloc hs2 (.cells #[.int .i64 0] 70)
      clear hb2 hA1 hZ1 hE1 HB1 IO hg0
      go_wp2_with fail
      refine (AH.out w2.heap.size (.int .i64 0) _ hE2.out (by simp) (by simp)).mono ?_
      rintro e w3 ⟨rfl, hb3, kv⟩
      have hA3 := hA2.below hb3 hl1
      have hZ3 := hZ2.below hb3 hl2
      have HB3 : Hid _ := HB2.out.trans (hb3.mono hs2)
      obtain ⟨k0, k1, k2, k3⟩ := hA3.cells
      obtain ⟨d0, d1, d2, d3⟩ := hZ3.cells
      have z0 := hZ3.free 0
      have z1 := hZ3.free 1
      have z2 := hZ3.free 2
      have z3 := hZ3.free 3
      have hlt := hZ3.lt
      have hltA := hA3.lt
      clear hb3 hA2 hZ2 hE2 HB2 AH hA3 hZ3 hl1 hl2 hs2
      go_wp2_with fail
      go_region_held3 (fun w' => w'.cell? ⟨w.heap.size, 0, none⟩ = some (.int .i64 p) ∧ w'.cell? ⟨w.heap.size, 1, none⟩ = some (.int .i64 u)) (go_keep) (fail)
      go_wp2
      exact bodyPost_ret (v := .tuple #[Bk.v ⟨p, u, V, n⟩, .bool false, .bool true]) (by simp [results, Tryd.results14, go_sem, d0, d1, d2, d3]) rfl ⟨retBBB13 HR.out rfl rfl, ((((HB3.out.drew.setCell (by simp) _).setCell (by simp) _).setCell (by simp) _).setCell (by simp) _)⟩
    · obtain ⟨rfl, hR⟩ := hY rfl rfl
      have HR : Hid ((⟨p, u, L, n⟩ : Bk) = R) := hR
      have hB2 := hB1.alloc hB1.size (.cells #[.int .i64 0] 70)
      obtain ⟨k0, k1, k2, k3⟩ := (hA1.alloc (.cells #[.int .i64 0] 70)).cells
      obtain ⟨d0, d1, d2, d3⟩ := (hZ1.alloc (.cells #[.int .i64 0] 70)).cells
      have z0 := (hZ1.alloc (.cells #[.int .i64 0] 70)).free 0
      have z1 := (hZ1.alloc (.cells #[.int .i64 0] 70)).free 1
      have z2 := (hZ1.alloc (.cells #[.int .i64 0] 70)).free 2
      have z3 := (hZ1.alloc (.cells #[.int .i64 0] 70)).free 3
      have hlt := hZ1.lt
      have hltA := hA1.lt
      clear hF hY hN hR IS IO hE1 hA1 hZ1 AH
      go_wp2_with fail
      refine (IN.out _).mono ?_
      rintro e w2 ⟨rfl, rfl⟩
      clear hg0 IN
      go_wp2_with fail
      refine (AN.out _ _).mono ?_
      rintro e w2 ⟨rfl, rfl⟩
      clear AN
      generalize w1.alloc (.cells #[.int .i64 0] 70) = W2 at *
      go_wp2_with fail
      go_region_held3 (fun w' => w'.cell? ⟨w.heap.size, 0, none⟩ = some (.int .i64 p) ∧ w'.cell? ⟨w.heap.size, 1, none⟩ = some (.int .i64 u)) (go_keep) (fail)
      go_wp2
      exact bodyPost_ret (v := .tuple #[Bk.v ⟨p, u, L, n⟩, .bool true, .bool true]) (by simp [results, Tryd.results14, go_sem, d0, d1, d2, d3]) rfl ⟨retBBB13 HR.out rfl rfl, ((((hB2.drew.setCell (by simp) _).setCell (by simp) _).setCell (by simp) _).setCell (by simp) _)⟩
end Go.Proofs.YteedppngiknjlaaDoor
