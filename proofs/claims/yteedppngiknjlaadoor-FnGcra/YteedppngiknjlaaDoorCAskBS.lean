/- AskBucket of the specification. -/
import Derived.Test.YteedppngiknjlaaDoorRows
import Derived.Test.YteedppngiknjlaaDoorCLevS
import Derived.Test.YteedppngiknjlaaDoorMBKb
import Derived.WalkKit
import Derived.WalkSpells
import Derived.WalkLawsBesides
import Derived.Outline
namespace Go.Proofs.YteedppngiknjlaaDoor
open Go.RowKit
set_option linter.unusedSimpArgs false in
set_option maxHeartbeats 1600000 in
set_option maxRecDepth 100000 in
theorem specAskB_any (x : Bk) (n : Int) (w : World) :
    Calls Tryd.prog 21 #[x.v, .int .i64 n] w fun e w' => e = .returned (.tuple #[(BK.ask x n).v, .bool (BK.letB x n), .bool (BK.levOk x n)]) ∧ Below w.heap.size w w' := by
  have LA : Hid (∀ W : World, Calls Tryd.prog 42 #[x.v, .int .i64 n] W fun e w' => e = .returned (.tuple #[.int .i64 (BK.lev x n), .bool (BK.levOk x n)]) ∧ Below W.heap.size W w') := fun W => specLevel_any x n W
  have HF : Hid (BK.levOk x n = false → false = BK.letB x n ∧ BK.zB = BK.ask x n) := fun h => by simp [BK.letB, BK.ask, h]
  have HY : Hid (BK.levOk x n = true → BK.lev x n + x.p ≤ x.p * x.u → true = BK.letB x n ∧ (⟨x.p, x.u, BK.lev x n + x.p, n⟩ : Bk) = BK.ask x n) := fun h h' => by
    have e : BK.lev x n = BK.lvl x n := by simp [BK.lev, h]
    rw [e] at h' ⊢; simp [BK.letB, BK.ask, h, h']
  have HN : Hid (BK.levOk x n = true → x.p * x.u < BK.lev x n + x.p → false = BK.letB x n ∧ (⟨x.p, x.u, BK.lev x n, n⟩ : Bk) = BK.ask x n) := fun h h' => by
    have e : BK.lev x n = BK.lvl x n := by simp [BK.lev, h]
    rw [e] at h' ⊢; have h2 : ¬ BK.lvl x n + x.p ≤ x.p * x.u := by omega
    simp [BK.letB, BK.ask, h, h2]
  have HM : Hid (BK.levOk x n = true → 1 ≤ x.p ∧ x.p ≤ 50 ∧ 1 ≤ x.p * x.u ∧ x.p * x.u ≤ 1000 ∧ 0 ≤ BK.lev x n ∧ BK.lev x n ≤ x.p * x.u) := fun h => by
    obtain ⟨g, h1, h2⟩ := BK.levOk_iff.1 h
    obtain ⟨p1, p2, -, -⟩ := BK.okS_iff.1 g.s
    obtain ⟨m1, m2⟩ := BK.mul_small g.s
    have q0 := g.l0
    have q1 := g.l1
    have e : BK.lev x n = BK.lvl x n := by simp [BK.lev, h]
    rw [e]
    refine ⟨p1, p2, m1, m2, ?_, ?_⟩ <;> (unfold BK.lvl; split <;> omega)
  generalize BK.ask x n = R at *
  generalize BK.letB x n = M at *
  generalize BK.lev x n = V at *
  generalize BK.levOk x n = K at *
  obtain ⟨p, u, l, t⟩ := x
  have hA := (BK.At4.new w (.int .i64 p) (.int .i64 u) (.int .i64 l) (.int .i64 t) 35 _ rfl).alloc (.cells #[.int .i64 0, .int .i64 0, .int .i64 0, .int .i64 0] 35)
  have hZ := BK.At4.new (w.alloc (.cells #[.int .i64 p, .int .i64 u, .int .i64 l, .int .i64 t] 35)) (.int .i64 0) (.int .i64 0) (.int .i64 0) (.int .i64 0) 35 (w.heap.size + 1) (by simp)
  have hB : Below w.heap.size w _ := ((Below.refl _ w).alloc (Nat.le_refl _) (.cells #[.int .i64 p, .int .i64 u, .int .i64 l, .int .i64 t] 35)).alloc (by simp) (.cells #[.int .i64 0, .int .i64 0, .int .i64 0, .int .i64 0] 35)
  go_enter Tryd.func21, Tryd.ntmps21
  go_wp2_with fail
  refine (LA.out _).mono ?_
  rintro e w1 ⟨rfl, hb1⟩
  have hA1 := hA.below hb1 hA.lt
  have hZ1 := hZ.below hb1 hZ.lt
  have hB1 := hB.trans (hb1.mono hB.size)
  obtain ⟨k0, k1, k2, k3⟩ := hA1.cells
  obtain ⟨d0, d1, d2, d3⟩ := hZ1.cells
  have z0 := hZ1.free 0
  have z1 := hZ1.free 1
  have z2 := hZ1.free 2
  have z3 := hZ1.free 3
  have y2 := hA1.free 2
  have y3 := hA1.free 3
  have hlt := hZ1.lt
  have hltA := hA1.lt
  clear hb1 hB LA hA hZ hA1 hZ1
  cases K
  · have HR : Hid (false = M ∧ BK.zB = R) := HF.out rfl
    clear HF HY HN HM
    go_wp2
    exact bodyPost_ret (v := .tuple #[Bk.v BK.zB, .bool false, .bool false]) (by simp [results, Tryd.results21, go_sem, BK.zB, d0, d1, d2, d3]) rfl ⟨retBBB13 HR.out.2 HR.out.1 rfl, (((hB1.setCell (by simp) _).setCell (by simp) _).setCell (by simp) _).setCell (by simp) _⟩
  · obtain ⟨p1, p2, m1, m2, x1, x2⟩ := HM.out rfl
    simp only at HY HN
    generalize hm : p * u = m at *
    by_cases hx : V + p ≤ m
    · have HQ : Hid (true = M ∧ (⟨p, u, V + p, n⟩ : Bk) = R) := HY.out trivial hx
      have H := ((hB1.setCell (p := ⟨w.heap.size, 2, none⟩) (by simp) (.int .i64 V)).setCell (p := ⟨w.heap.size, 3, none⟩) (by simp) (.int .i64 n)).setCell (p := ⟨w.heap.size, 2, none⟩) (by simp) (.int .i64 (V + p))
      have HH : Hid _ := (((H.setCell (p := ⟨w.heap.size + 1, 0, none⟩) (by simp) (.int .i64 p)).setCell (p := ⟨w.heap.size + 1, 1, none⟩) (by simp) (.int .i64 u)).setCell (p := ⟨w.heap.size + 1, 2, none⟩) (by simp) (.int .i64 (V + p))).setCell (p := ⟨w.heap.size + 1, 3, none⟩) (by simp) (.int .i64 n)
      clear H hB1 HF HY HN HM
      go_wp2
      exact bodyPost_ret (v := .tuple #[Bk.v ⟨p, u, V + p, n⟩, .bool true, .bool true]) (by simp [results, Tryd.results21, go_sem, d0, d1, d2, d3]) rfl ⟨retBBB13 HQ.out.2 HQ.out.1 rfl, HH.out⟩
    · have hx' : m < V + p := by omega
      have HQ : Hid (false = M ∧ (⟨p, u, V, n⟩ : Bk) = R) := HN.out trivial hx'
      have H := (hB1.setCell (p := ⟨w.heap.size, 2, none⟩) (by simp) (.int .i64 V)).setCell (p := ⟨w.heap.size, 3, none⟩) (by simp) (.int .i64 n)
      have HH : Hid _ := (((H.setCell (p := ⟨w.heap.size + 1, 0, none⟩) (by simp) (.int .i64 p)).setCell (p := ⟨w.heap.size + 1, 1, none⟩) (by simp) (.int .i64 u)).setCell (p := ⟨w.heap.size + 1, 2, none⟩) (by simp) (.int .i64 V)).setCell (p := ⟨w.heap.size + 1, 3, none⟩) (by simp) (.int .i64 n)
      clear H hB1 HF HY HN HM hx
      go_wp2
      exact bodyPost_ret (v := .tuple #[Bk.v ⟨p, u, V, n⟩, .bool false, .bool true]) (by simp [results, Tryd.results21, go_sem, d0, d1, d2, d3]) rfl ⟨retBBB13 HQ.out.2 HQ.out.1 rfl, HH.out⟩
end Go.Proofs.YteedppngiknjlaaDoor
