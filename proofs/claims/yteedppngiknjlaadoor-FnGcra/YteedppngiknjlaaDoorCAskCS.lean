/- AskCell of the specification. -/
import Derived.Test.YteedppngiknjlaaDoorRows
import Derived.Test.YteedppngiknjlaaDoorCCe1
import Derived.Test.YteedppngiknjlaaDoorCBkT
import Derived.Test.YteedppngiknjlaaDoorMBKb
import Derived.WalkKit
import Derived.WalkSpells
import Derived.WalkLawsBesides
import Derived.Outline
namespace Go.Proofs.YteedppngiknjlaaDoor
open Go.RowKit
set_option linter.unusedSimpArgs false in
set_option maxHeartbeats 1600000 in
set_option maxRecDepth 100000 in
theorem specAskC_any (c : Ce) (n : Int) (w : World) :
    Calls Tryd.prog 17 #[c.v, .int .i64 n] w fun e w' => e = .returned (.tuple #[(BK.askC c n).v, .bool (BK.letC c n), .bool (BK.dueOk c n)]) ∧ Below w.heap.size w w' := by
  have GI : Hid (∀ W : World, Calls Tryd.prog 18 #[c.v] W fun e w' => e = .returned (.bool (BK.goodC c)) ∧ Below W.heap.size W w') := fun W => goodCS_any c W _ rfl
  have TI : Hid (∀ W : World, Calls Tryd.prog 38 #[.int .i64 n] W fun e w' => e = .returned (.bool (BK.okT n)) ∧ W = w') := fun W => timeS_any n W
  have HF : Hid (BK.dueOk c n = false → false = BK.letC c n ∧ BK.zC = BK.askC c n) := fun h => by simp [BK.letC, BK.askC, h]
  have HY : Hid (BK.dueOk c n = true → c.d ≤ n + c.p * (c.u - 1) → true = BK.letC c n ∧ (⟨c.p, c.u, BK.duN c n⟩ : Ce) = BK.askC c n) := fun h h' => by simp [BK.letC, BK.askC, h, h']
  have HN : Hid (BK.dueOk c n = true → ¬ c.d ≤ n + c.p * (c.u - 1) → false = BK.letC c n ∧ c = BK.askC c n) := fun h h' => by simp [BK.letC, BK.askC, h, h']
  have HI : Hid (BK.dueOk c n = true ↔ BK.GC c ∧ 0 ≤ n ∧ n ≤ 1000000) := BK.dueOk_iff
  have HG : Hid (BK.goodC c = true ↔ BK.GC c) := BK.goodC_iff
  have HM : Hid (∀ h : BK.GC c, 0 ≤ c.p * (c.u - 1) ∧ c.p * (c.u - 1) ≤ 950 ∧ 1 ≤ c.p ∧ c.p ≤ 50 ∧ 1 ≤ c.u ∧ c.u ≤ 20) := fun h => ⟨(BK.mul_less h.s).1, (BK.mul_less h.s).2.1, BK.okS_iff.1 h.s⟩
  generalize BK.askC c n = R at *
  generalize BK.letC c n = M at *
  generalize BK.dueOk c n = K at *
  generalize BK.goodC c = G at *
  obtain ⟨p, u, d⟩ := c
  have hA := (BK.At3.new w (.int .i64 p) (.int .i64 u) (.int .i64 d) 31 _ rfl).alloc (.cells #[.int .i64 0, .int .i64 0, .int .i64 0] 31)
  have hZ := BK.At3.new (w.alloc (.cells #[.int .i64 p, .int .i64 u, .int .i64 d] 31)) (.int .i64 0) (.int .i64 0) (.int .i64 0) 31 (w.heap.size + 1) (by simp)
  have hB : Below w.heap.size w _ := ((Below.refl _ w).alloc (Nat.le_refl _) (.cells #[.int .i64 p, .int .i64 u, .int .i64 d] 31)).alloc (by simp) (.cells #[.int .i64 0, .int .i64 0, .int .i64 0] 31)
  go_enter Tryd.func17, Tryd.ntmps17
  go_wp2_with fail
  refine (GI.out _).mono ?_
  rintro e w1 ⟨rfl, hb1⟩
  have hA1 := hA.below hb1 hA.lt
  have hZ1 := hZ.below hb1 hZ.lt
  have hB1 := hB.trans (hb1.mono hB.size)
  obtain ⟨k0, k1, k2⟩ := hA1.cells
  obtain ⟨d0, d1, d2⟩ := hZ1.cells
  have z0 := hZ1.free 0
  have z1 := hZ1.free 1
  have z2 := hZ1.free 2
  have y2 := hA1.free 2
  have hlt := hZ1.lt
  have hltA := hA1.lt
  clear hb1 hB GI hA hZ hA1 hZ1
  cases G
  · have hK : K = false := by rw [Bool.eq_false_iff]; intro e; have := HG.out.2 (HI.out.1 e).1; cases this
    subst hK
    obtain ⟨f1, f2⟩ := HF.out rfl
    have HR : Hid (BK.zC = R ∧ false = M) := ⟨f2, f1⟩
    clear HF HY HN HI HG HM TI f1 f2
    go_wp2
    exact bodyPost_ret (v := .tuple #[Ce.v BK.zC, .bool false, .bool false]) (by simp [results, Tryd.results17, go_sem, BK.zC, d0, d1, d2]) rfl ⟨retCBB13 HR.out.1 HR.out.2 rfl, ((hB1.setCell (by simp) _).setCell (by simp) _).setCell (by simp) _⟩
  · have hGC := HG.out.1 rfl
    by_cases hn : 0 ≤ n ∧ n ≤ 1000000
    · have hT : BK.okT n = true := BK.okT_iff.2 hn
      rw [hT] at TI
      have hK : K = true := HI.out.2 ⟨hGC, hn⟩
      subst hK
      obtain ⟨m1, m2, p1, p2, u1, u2⟩ := HM.out hGC
      obtain ⟨-, g1, g2⟩ := hGC
      simp only at m1 m2 p1 p2 u1 u2 g1 g2
      have HD : Hid (BK.duN ⟨p, u, d⟩ n = (if d < n then n else d) + p) := rfl
      simp only at HY HN
      generalize BK.duN ⟨p, u, d⟩ n = D at *
      generalize hm : p * (u - 1) = m at *
      obtain ⟨n1, n2⟩ := hn
      clear HF HI HG HM hT
      by_cases hd : d ≤ n + m
      · have HYY : Hid (true = M ∧ (⟨p, u, D⟩ : Ce) = R) := HY.out trivial hd
        clear HY HN
        go_wp2_with fail
        refine (TI.out _).mono ?_
        rintro e w2 ⟨rfl, rfl⟩
        clear TI
        by_cases hz : d < n
        · have HQ : Hid ((⟨p, u, n + p⟩ : Ce) = R ∧ true = M) := ⟨by rw [← HYY.out.2, HD.out, if_pos hz], HYY.out.1⟩
          clear HD HYY
          have H := (hB1.setCell (p := ⟨w.heap.size, 2, none⟩) (by simp) (.int .i64 n)).setCell (p := ⟨w.heap.size, 2, none⟩) (by simp) (.int .i64 (n + p))
          have HH : Hid _ := ((H.setCell (p := ⟨w.heap.size + 1, 0, none⟩) (by simp) (.int .i64 p)).setCell (p := ⟨w.heap.size + 1, 1, none⟩) (by simp) (.int .i64 u)).setCell (p := ⟨w.heap.size + 1, 2, none⟩) (by simp) (.int .i64 (n + p))
          clear H hB1
          go_wp2
          exact bodyPost_ret (v := .tuple #[Ce.v ⟨p, u, n + p⟩, .bool true, .bool true]) (by simp [results, Tryd.results17, go_sem, d0, d1, d2]) rfl ⟨retCBB13 HQ.out.1 HQ.out.2 rfl, HH.out⟩
        · have HQ : Hid ((⟨p, u, d + p⟩ : Ce) = R ∧ true = M) := ⟨by rw [← HYY.out.2, HD.out, if_neg hz], HYY.out.1⟩
          clear HD HYY
          have H := hB1.setCell (p := ⟨w.heap.size, 2, none⟩) (by simp) (.int .i64 (d + p))
          have HH : Hid _ := ((H.setCell (p := ⟨w.heap.size + 1, 0, none⟩) (by simp) (.int .i64 p)).setCell (p := ⟨w.heap.size + 1, 1, none⟩) (by simp) (.int .i64 u)).setCell (p := ⟨w.heap.size + 1, 2, none⟩) (by simp) (.int .i64 (d + p))
          clear H hB1
          go_wp2
          exact bodyPost_ret (v := .tuple #[Ce.v ⟨p, u, d + p⟩, .bool true, .bool true]) (by simp [results, Tryd.results17, go_sem, d0, d1, d2]) rfl ⟨retCBB13 HQ.out.1 HQ.out.2 rfl, HH.out⟩
      · obtain ⟨f1, f2⟩ := HN.out trivial (by omega)
        have HR : Hid ((⟨p, u, d⟩ : Ce) = R ∧ false = M) := ⟨f2, f1⟩
        have hd' : n + m < d := by omega
        clear HY HN HD f1 f2 hd
        go_wp2_with fail
        refine (TI.out _).mono ?_
        rintro e w2 ⟨rfl, rfl⟩
        clear TI
        go_wp2
        exact bodyPost_ret (v := .tuple #[Ce.v ⟨p, u, d⟩, .bool false, .bool true]) (by simp [results, Tryd.results17, go_sem, d0, d1, d2]) rfl ⟨retCBB13 HR.out.1 HR.out.2 rfl, ((hB1.setCell (by simp) _).setCell (by simp) _).setCell (by simp) _⟩
    · have hT : BK.okT n = false := by rw [Bool.eq_false_iff]; intro e; exact hn (BK.okT_iff.1 e)
      rw [hT] at TI
      have hK : K = false := by rw [Bool.eq_false_iff]; intro e; exact hn (HI.out.1 e).2
      subst hK
      obtain ⟨f1, f2⟩ := HF.out rfl
      have HR : Hid (BK.zC = R ∧ false = M) := ⟨f2, f1⟩
      clear HF HY HN HI HG HM f1 f2 hT hGC hn
      go_wp2_with fail
      refine (TI.out _).mono ?_
      rintro e w2 ⟨rfl, rfl⟩
      clear TI
      go_wp2
      exact bodyPost_ret (v := .tuple #[Ce.v BK.zC, .bool false, .bool false]) (by simp [results, Tryd.results17, go_sem, BK.zC, d0, d1, d2]) rfl ⟨retCBB13 HR.out.1 HR.out.2 rfl, ((hB1.setCell (by simp) _).setCell (by simp) _).setCell (by simp) _⟩
end Go.Proofs.YteedppngiknjlaaDoor
