/- (Bucket).levelWithOne: what is in it with one more, or the fault. -/
import Derived.Test.YteedppngiknjlaaDoorRows
import Derived.Test.YteedppngiknjlaaDoorCLev
import Derived.Test.YteedppngiknjlaaDoorMBKb
import Derived.WalkKit
import Derived.WalkSpells
import Derived.WalkLawsBesides
import Derived.Outline
namespace Go.Proofs.YteedppngiknjlaaDoor
open Go.RowKit
/-- The fault of a bucket that is asked. -/
def fltB (b : Bk) (n : Int) (a : Addr) : Value := if BK.levOk b n = true then (if BK.letB b n = true then .nilIface else .iface 70 (.agg #[.int .i64 (BK.lvl b n)])) else .iface 111 (.pointer (some a))
def oneL (b : Bk) (n : Int) : Int := if BK.letB b n = true then BK.lvl b n + b.p else 0
set_option linter.unusedSimpArgs false in
set_option maxHeartbeats 1600000 in
set_option maxRecDepth 100000 in
theorem withOne_any (b : Bk) (n : Int) (a : Addr) (w : World) (hE : Er1 w a) :
    Calls Tryd.prog 33 #[b.v, .int .i64 n] w fun e w' => e = .returned (.tuple #[.int .i64 (oneL b n), fltB b n a]) ∧ Below w.heap.size w w' := by
  have LA : Hid (∀ (W : World) (_ : Er1 W a), Calls Tryd.prog 35 #[b.v, .int .i64 n] W fun e w' => e = .returned (.tuple #[.int .i64 (BK.lev b n), flt (BK.levOk b n) a]) ∧ Below W.heap.size W w') := fun W h => levelAt_any b n a W h
  have HE : Hid _ := hE.alloc (.cells #[.int .i64 b.p, .int .i64 b.u, .int .i64 b.l, .int .i64 b.t] 35)
  have HF : Hid (BK.levOk b n = false → (0 : Int) = oneL b n ∧ .iface 111 (.pointer (some a)) = fltB b n a) := fun h => by simp [oneL, fltB, BK.letB, h]
  have HY : Hid (BK.levOk b n = true → BK.lvl b n + b.p ≤ b.p * b.u → BK.lvl b n + b.p = oneL b n ∧ .nilIface = fltB b n a) := fun h h' => by simp [oneL, fltB, BK.letB, h, h']
  have HN : Hid (BK.levOk b n = true → ¬ BK.lvl b n + b.p ≤ b.p * b.u → 0 = oneL b n ∧ .iface 70 (.agg #[.int .i64 (BK.lvl b n)]) = fltB b n a) := fun h h' => by simp [oneL, fltB, BK.letB, h, h']
  have HL : Hid (BK.levOk b n = true → BK.lev b n = BK.lvl b n) := fun h => by simp [BK.lev, h]
  have HM : Hid (BK.levOk b n = true → 1 ≤ b.p ∧ b.p ≤ 50 ∧ 1 ≤ b.p * b.u ∧ b.p * b.u ≤ 1000 ∧ 0 ≤ BK.lvl b n ∧ BK.lvl b n ≤ b.p * b.u) := fun h => by
    obtain ⟨g, h1, h2⟩ := BK.levOk_iff.1 h
    obtain ⟨p1, p2, -, -⟩ := BK.okS_iff.1 g.s
    obtain ⟨m1, m2⟩ := BK.mul_small g.s
    have q0 := g.l0
    have q1 := g.l1
    refine ⟨p1, p2, m1, m2, ?_, ?_⟩ <;> (unfold BK.lvl; split <;> omega)
  clear hE
  generalize fltB b n a = F at *
  generalize oneL b n = L at *
  generalize BK.lev b n = V at *
  generalize BK.lvl b n = X at *
  generalize BK.levOk b n = K at *
  obtain ⟨p, u, l, t⟩ := b
  have hA := BK.At4.new w (.int .i64 p) (.int .i64 u) (.int .i64 l) (.int .i64 t) 35 _ rfl
  have hB : Below w.heap.size w _ := (Below.refl _ w).alloc (Nat.le_refl _) (.cells #[.int .i64 p, .int .i64 u, .int .i64 l, .int .i64 t] 35)
  go_enter Tryd.func33, Tryd.ntmps33
  go_wp2_with fail
  refine (LA.out _ HE.out).mono ?_
  rintro e w1 ⟨rfl, hb1⟩
  have hA1 := hA.below hb1 hA.lt
  have hlt := hA1.lt
  obtain ⟨k0, k1, k2, k3⟩ := hA1.cells
  have hB1 := hB.trans (hb1.mono hB.size)
  have HB1 : Hid _ := hB1
  clear hb1 hB HE LA hA hA1 hB1
  cases K
  · have HR : Hid (0 = L ∧ .iface 111 (.pointer (some a)) = F) := HF.out rfl
    rw [show flt false a = .iface 111 (.pointer (some a)) from rfl]
    clear HF HY HN HL HM
    go_wp2
    go_ret2
    exact ⟨retIV13 HR.out.1 HR.out.2, HB1.out⟩
  · obtain ⟨p1, p2, m1, m2, x1, x2⟩ := HM.out rfl
    obtain rfl := HL.out rfl
    rw [show flt true a = .nilIface from rfl]
    by_cases hx : V + p ≤ p * u
    · have HR : Hid (V + p = L ∧ .nilIface = F) := HY.out rfl hx
      clear HF HY HN HL HM
      generalize hm : p * u = m at *
      go_wp2
      go_ret2
      exact ⟨retIV13 HR.out.1 HR.out.2, HB1.out⟩
    · have HR : Hid (0 = L ∧ .iface 70 (.agg #[.int .i64 V]) = F) := HN.out rfl (by omega)
      clear HF HY HN HL HM
      generalize hm : p * u = m at *
      have hx' : m < V + p := by omega
      clear hx
      go_wp2
      go_ret2
      exact ⟨retIV13 HR.out.1 HR.out.2, HB1.out⟩
end Go.Proofs.YteedppngiknjlaaDoor
