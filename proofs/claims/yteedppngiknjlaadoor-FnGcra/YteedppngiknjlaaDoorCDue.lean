/- (Cell).dueWithOne: when one more is due, or the fault. -/
import Derived.Test.YteedppngiknjlaaDoorRows
import Derived.Test.YteedppngiknjlaaDoorCCe1
import Derived.Test.YteedppngiknjlaaDoorCBkT
import Derived.Test.YteedppngiknjlaaDoorMBKb
import Derived.Test.YteedppngiknjlaaDoorMEr
import Derived.WalkKit
import Derived.WalkSpells
import Derived.WalkLawsBesides
import Derived.Outline
import Derived.Deep.QuietTactic
import Derived.BigQuiet
namespace Go.Proofs.YteedppngiknjlaaDoor
open Go.RowKit
theorem retIVc {a b : Int} {c d : Value} (h : a = b) (h' : c = d) : Ending.returned (.tuple #[.int .i64 a, c]) = .returned (.tuple #[.int .i64 b, d]) := by rw [h, h']
/-- The fault of a cell that is asked. -/
def fltC (c : Ce) (n : Int) (a : Addr) : Value := if BK.dueOk c n = true then (if BK.letC c n = true then .nilIface else .iface 70 (.agg #[.int .i64 (c.d - n)])) else .iface 111 (.pointer (some a))
def dueL (c : Ce) (n : Int) : Int := if BK.letC c n = true then BK.duN c n else 0
set_option linter.unusedSimpArgs false in
set_option maxHeartbeats 1600000 in
set_option maxRecDepth 100000 in
theorem dueWithOne_any (c : Ce) (n : Int) (a : Addr) (w : World) (hE : Er1 w a) :
    Calls Tryd.prog 31 #[c.v, .int .i64 n] w fun e w' => e = .returned (.tuple #[.int .i64 (dueL c n), fltC c n a]) ∧ Below w.heap.size w w' := by
  have GI : Hid (∀ W : World, Calls Tryd.prog 11 #[c.v] W fun e w' => e = .returned (.bool (BK.goodC c)) ∧ Below W.heap.size W w') := fun W => goodCI_any c W _ rfl
  have TI : Hid (∀ W : World, Calls Tryd.prog 30 #[.int .i64 n] W fun e w' => e = .returned (.bool (BK.okT n)) ∧ W = w') := fun W => timeI_any n W
  have HE : Hid _ := hE.alloc (.cells #[.int .i64 c.p, .int .i64 c.u, .int .i64 c.d] 31)
  have HF : Hid (BK.dueOk c n = false → (0 : Int) = dueL c n ∧ .iface 111 (.pointer (some a)) = fltC c n a) := fun h => by simp [dueL, fltC, BK.letC, h]
  have HY : Hid (BK.dueOk c n = true → c.d ≤ n + c.p * (c.u - 1) → BK.duN c n = dueL c n ∧ .nilIface = fltC c n a) := fun h h' => by simp [dueL, fltC, BK.letC, h, h']
  have HN : Hid (BK.dueOk c n = true → ¬ c.d ≤ n + c.p * (c.u - 1) → 0 = dueL c n ∧ .iface 70 (.agg #[.int .i64 (c.d - n)]) = fltC c n a) := fun h h' => by simp [dueL, fltC, BK.letC, h, h']
  have HI : Hid (BK.dueOk c n = true ↔ BK.GC c ∧ 0 ≤ n ∧ n ≤ 1000000) := BK.dueOk_iff
  have HG : Hid (BK.goodC c = true ↔ BK.GC c) := BK.goodC_iff
  have HM : Hid (∀ h : BK.GC c, 0 ≤ c.p * (c.u - 1) ∧ c.p * (c.u - 1) ≤ 950 ∧ 1 ≤ c.p ∧ c.p ≤ 50 ∧ 1 ≤ c.u ∧ c.u ≤ 20) := fun h => ⟨(BK.mul_less h.s).1, (BK.mul_less h.s).2.1, BK.okS_iff.1 h.s⟩
  clear hE
  generalize fltC c n a = F at *
  generalize dueL c n = L at *
  generalize BK.dueOk c n = K at *
  generalize BK.goodC c = G at *
  obtain ⟨p, u, d⟩ := c
  have hA := BK.At3.new w (.int .i64 p) (.int .i64 u) (.int .i64 d) 31 _ rfl
  have hB : Below w.heap.size w _ := (Below.refl _ w).alloc (Nat.le_refl _) (.cells #[.int .i64 p, .int .i64 u, .int .i64 d] 31)
  go_enter Tryd.func31, Tryd.ntmps31
  go_wp2_with fail
  refine (GI.out _).mono ?_
  rintro e w1 ⟨rfl, hb1⟩
  have hA1 := hA.below hb1 (by simp)
  have hlt := hA1.lt
  obtain ⟨k0, k1, k2⟩ := hA1.cells
  have hB1 := hB.trans (hb1.mono hB.size)
  obtain ⟨hg0, hg1⟩ := HE.out.below hb1 (Nat.le_refl _)
  clear hb1 hB HE GI hA hA1
  have HB1 : Hid _ := hB1
  clear hB1
  cases G
  · have hK : K = false := by rw [Bool.eq_false_iff]; intro e; have := HG.out.2 (HI.out.1 e).1; cases this
    subst hK
    obtain ⟨f1, f2⟩ := HF.out rfl
    have HR : Hid (0 = L ∧ .iface 111 (.pointer (some a)) = F) := ⟨f1, f2⟩
    clear HF HY HN HI HG HM TI f1 f2
    go_wp2_with fail
    go_quiet (fail)
    all_goals (go_wp2; go_ret2; exact ⟨retIVc HR.out.1 HR.out.2, below_drewN HB1.out _⟩)
  · have hGC := HG.out.1 rfl
    by_cases hn : 0 ≤ n ∧ n ≤ 1000000
    · have hT : BK.okT n = true := BK.okT_iff.2 hn
      rw [hT] at TI
      have hK : K = true := HI.out.2 ⟨hGC, hn⟩
      subst hK
      obtain ⟨m1, m2, p1, p2, u1, u2⟩ := HM.out hGC
      obtain ⟨-, g1, g2⟩ := hGC
      simp only at m1 m2 p1 p2 u1 u2 g1 g2
      have HD : Hid (BK.duN ⟨p, u, d⟩ n = (if d < n then n else d) + p) := rfl
      simp only at HY HN
      generalize BK.duN ⟨p, u, d⟩ n = D at *
      generalize hm : p * (u - 1) = m at *
      obtain ⟨n1, n2⟩ := hn
      clear HF HI HG HM hT hg0 hg1
      by_cases hd : d ≤ n + m
      · obtain ⟨f1, f2⟩ := HY.out trivial hd
        clear HY HN
        go_wp2_with fail
        refine (TI.out _).mono ?_
        rintro e w2 ⟨rfl, rfl⟩
        clear TI
        by_cases hz : d < n
        · have HQ : Hid (n + p = L ∧ .nilIface = F) := ⟨by rw [← f1, HD.out, if_pos hz], f2⟩
          clear HD f1 f2
          go_wp2
          go_ret2
          exact ⟨retIVc HQ.out.1 HQ.out.2, HB1.out⟩
        · have HQ : Hid (d + p = L ∧ .nilIface = F) := ⟨by rw [← f1, HD.out, if_neg hz], f2⟩
          clear HD f1 f2
          go_wp2
          go_ret2
          exact ⟨retIVc HQ.out.1 HQ.out.2, HB1.out⟩
      · obtain ⟨f1, f2⟩ := HN.out trivial (by omega)
        have HR : Hid (0 = L ∧ .iface 70 (.agg #[.int .i64 (d - n)]) = F) := ⟨f1, f2⟩
        have hd' : n + m < d := by omega
        clear HY HN HD f1 f2 hd
        go_wp2_with fail
        refine (TI.out _).mono ?_
        rintro e w2 ⟨rfl, rfl⟩
        clear TI
        go_wp2_with fail
        go_quiet (fail)
        all_goals (go_wp2; go_ret2; exact ⟨retIVc HR.out.1 HR.out.2, below_drewN HB1.out _⟩)
    · have hT : BK.okT n = false := by rw [Bool.eq_false_iff]; intro e; exact hn (BK.okT_iff.1 e)
      rw [hT] at TI
      have hK : K = false := by rw [Bool.eq_false_iff]; intro e; exact hn (HI.out.1 e).2
      subst hK
      obtain ⟨f1, f2⟩ := HF.out rfl
      have HR : Hid (0 = L ∧ .iface 111 (.pointer (some a)) = F) := ⟨f1, f2⟩
      clear HF HY HN HI HG HM f1 f2 hT hGC hn
      go_wp2_with fail
      refine (TI.out _).mono ?_
      rintro e w2 ⟨rfl, rfl⟩
      clear TI
      go_wp2_with fail
      go_quiet (fail)
      all_goals (go_wp2; go_ret2; exact ⟨retIVc HR.out.1 HR.out.2, below_drewN HB1.out _⟩)
end Go.Proofs.YteedppngiknjlaaDoor
