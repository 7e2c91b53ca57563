/- How much is in a bucket: (Bucket).levelAt, LevelAt of both. -/
import Derived.Test.YteedppngiknjlaaDoorRows
import Derived.Test.YteedppngiknjlaaDoorCBk1
import Derived.Test.YteedppngiknjlaaDoorMEr
import Derived.WalkKit
import Derived.WalkSpells
import Derived.WalkLawsBesides
import Derived.Outline
import Derived.Deep.QuietTactic
import Derived.BigQuiet
namespace Go.Proofs.YteedppngiknjlaaDoor
open Go.RowKit
/-- The fault of what is not as said. -/
def flt (ok : Bool) (a : Addr) : Value := if ok = true then .nilIface else .iface 111 (.pointer (some a))
theorem retIV13 {a b : Int} {c d : Value} (h : a = b) (h' : c = d) : Ending.returned (.tuple #[.int .i64 a, c]) = .returned (.tuple #[.int .i64 b, d]) := by rw [h, h']
set_option linter.unusedSimpArgs false in
set_option maxHeartbeats 800000 in
set_option maxRecDepth 100000 in
theorem levelAt_any (b : Bk) (n : Int) (a : Addr) (w : World) (hE : Er1 w a) :
    Calls Tryd.prog 35 #[b.v, .int .i64 n] w fun e w' => e = .returned (.tuple #[.int .i64 (BK.lev b n), flt (BK.levOk b n) a]) ∧ Below w.heap.size w w' := by
  have GI : Hid (∀ W : World, Calls Tryd.prog 12 #[b.v] W fun e w' => e = .returned (.bool (BK.goodB b)) ∧ Below W.heap.size W w') := fun W => goodBI_any b W _ rfl
  have TI : Hid (∀ W : World, Calls Tryd.prog 30 #[.int .i64 n] W fun e w' => e = .returned (.bool (BK.okT n)) ∧ W = w') := fun W => timeI_any n W
  have HE : Hid _ := hE.alloc (.cells #[.int .i64 b.p, .int .i64 b.u, .int .i64 b.l, .int .i64 b.t] 35)
  have HF : Hid (BK.levOk b n = false → (0 : Int) = BK.lev b n ∧ .iface 111 (.pointer (some a)) = flt (BK.levOk b n) a) := fun h => by simp [BK.lev, flt, h]
  have HT : Hid (BK.levOk b n = true → BK.lvl b n = BK.lev b n ∧ .nilIface = flt (BK.levOk b n) a) := fun h => by simp [BK.lev, flt, h]
  have HI : Hid (BK.levOk b n = true ↔ BK.GB b ∧ n ≤ 1000000 ∧ b.t ≤ n) := BK.levOk_iff
  have HG : Hid (BK.goodB b = true ↔ BK.GB b) := BK.goodB_iff
  have HM : Hid (∀ h : BK.GB b, b.p * b.u ≤ 1000) := fun h => (BK.mul_small h.s).2
  clear hE
  generalize flt (BK.levOk b n) a = F at *
  generalize BK.lev b n = L at *
  generalize BK.levOk b n = K at *
  generalize BK.goodB b = G at *
  obtain ⟨p, u, l, t⟩ := b
  have hB : Below w.heap.size w _ := (Below.refl _ w).alloc (Nat.le_refl _) (.cells #[.int .i64 p, .int .i64 u, .int .i64 l, .int .i64 t] 35)
  go_enter Tryd.func35, Tryd.ntmps35
  go_wp2_with fail
  refine (GI.out _).mono ?_
  rintro e w1 ⟨rfl, hb1⟩
  have k : ∀ j, w1.cell? ⟨w.heap.size, j, none⟩ = (w.alloc (.cells #[.int .i64 p, .int .i64 u, .int .i64 l, .int .i64 t] 35)).cell? ⟨w.heap.size, j, none⟩ := fun j => hb1.cell (by simp)
  have hlt : w.heap.size < w1.heap.size := by have := hb1.size; simp only [World.alloc, Array.size_push] at this; omega
  have hB1 := hB.trans (hb1.mono hB.size)
  obtain ⟨hg0, hg1⟩ := HE.out.below hb1 (Nat.le_refl _)
  have k2 := k 2
  have k3 := k 3
  simp at k2 k3
  clear k hb1 hB HE GI
  have HB1 : Hid _ := hB1
  clear hB1
  cases G
  · have hK : K = false := by rw [Bool.eq_false_iff]; intro e; have := HG.out.2 (HI.out.1 e).1; cases this
    subst hK
    obtain ⟨f1, f2⟩ := HF.out rfl
    have HR : Hid (0 = L ∧ .iface 111 (.pointer (some a)) = F) := ⟨f1, f2⟩
    clear HF HT HI HG HM TI f1 f2
    go_wp2_with fail
    go_quiet (fail)
    all_goals (go_wp2; go_ret2; exact ⟨retIV13 HR.out.1 HR.out.2, below_drewN HB1.out _⟩)
  · have hGB := HG.out.1 rfl
    by_cases hn : 0 ≤ n ∧ n ≤ 1000000
    · have hT : BK.okT n = true := BK.okT_iff.2 hn
      rw [hT] at TI
      by_cases ht : t ≤ n
      · have hK : K = true := HI.out.2 ⟨hGB, hn.2, ht⟩
        subst hK
        obtain ⟨f1, f2⟩ := HT.out rfl
        have hm := HM.out hGB
        obtain ⟨-, g1, g2, g3, g4⟩ := hGB
        simp only at g1 g2 g3 g4 hm
        have g5 : l ≤ 1000 := by omega
        have HR : Hid ((if l - (n - t) < 0 then 0 else l - (n - t)) = L ∧ .nilIface = F) := ⟨f1, f2⟩
        obtain ⟨n1, n2⟩ := hn
        clear HF HT HI HG HM f1 f2 hm g2 hT hg0 hg1
        go_wp2_with fail
        refine (TI.out _).mono ?_
        rintro e w2 ⟨rfl, rfl⟩
        clear TI
        by_cases hz : l - (n - t) < 0
        · have hq : 0 = L := by rw [← HR.out.1, if_pos hz]
          have HQ : Hid (0 = L ∧ .nilIface = F) := ⟨hq, HR.out.2⟩
          clear HR hq
          go_wp2
          go_ret2
          exact ⟨retIV13 HQ.out.1 HQ.out.2, HB1.out⟩
        · have hq : l - (n - t) = L := by rw [← HR.out.1, if_neg hz]
          have HQ : Hid (l - (n - t) = L ∧ .nilIface = F) := ⟨hq, HR.out.2⟩
          clear HR hq
          go_wp2
          go_ret2
          exact ⟨retIV13 HQ.out.1 HQ.out.2, HB1.out⟩
      · have hK : K = false := by rw [Bool.eq_false_iff]; intro e; exact ht (HI.out.1 e).2.2
        subst hK
        obtain ⟨f1, f2⟩ := HF.out rfl
        have HR : Hid (0 = L ∧ .iface 111 (.pointer (some a)) = F) := ⟨f1, f2⟩
        have ht' : n < t := by omega
        clear HF HT HI HG HM f1 f2 hT hGB hn ht
        go_wp2_with fail
        refine (TI.out _).mono ?_
        rintro e w2 ⟨rfl, rfl⟩
        clear TI
        go_wp2_with fail
        go_quiet (fail)
        all_goals (go_wp2; go_ret2; exact ⟨retIV13 HR.out.1 HR.out.2, below_drewN HB1.out _⟩)
    · have hT : BK.okT n = false := by rw [Bool.eq_false_iff]; intro e; exact hn (BK.okT_iff.1 e)
      rw [hT] at TI
      have hK : K = false := by rw [Bool.eq_false_iff]; intro e; have := HI.out.1 e; have := hGB.t0; simp only at *; omega
      subst hK
      obtain ⟨f1, f2⟩ := HF.out rfl
      have HR : Hid (0 = L ∧ .iface 111 (.pointer (some a)) = F) := ⟨f1, f2⟩
      clear HF HT HI HG HM f1 f2 hT hGB hn
      go_wp2_with fail
      refine (TI.out _).mono ?_
      rintro e w2 ⟨rfl, rfl⟩
      clear TI
      go_wp2_with fail
      go_quiet (fail)
      all_goals (go_wp2; go_ret2; exact ⟨retIV13 HR.out.1 HR.out.2, below_drewN HB1.out _⟩)
end Go.Proofs.YteedppngiknjlaaDoor
