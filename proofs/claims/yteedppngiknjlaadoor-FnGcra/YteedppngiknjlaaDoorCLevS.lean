/- LevelAt of the specification. -/
import Derived.Test.YteedppngiknjlaaDoorRows
import Derived.Test.YteedppngiknjlaaDoorCBk1
import Derived.WalkKit
import Derived.WalkSpells
import Derived.WalkLawsBesides
import Derived.Outline
namespace Go.Proofs.YteedppngiknjlaaDoor
open Go.RowKit
theorem retI13 {a b : Int} (h : a = b) : Ending.returned (.int .i64 a) = .returned (.int .i64 b) := by rw [h]
set_option maxHeartbeats 800000 in
set_option maxRecDepth 100000 in
theorem l13Level_any (b : Bk) (n : Int) (w : World) (h1 : 0 ≤ b.l) (h2 : b.l ≤ 1000) (h3 : 0 ≤ b.t) (h4 : b.t ≤ n) (h5 : n ≤ 1000000) :
    Calls Tryd.prog 53 #[b.v, .int .i64 n] w fun e w' => e = .returned (.int .i64 (BK.lvl b n)) ∧ Below w.heap.size w w' := by
  obtain ⟨p, u, l, t⟩ := b
  simp only at h1 h2 h3 h4
  have HR : Hid (BK.lvl ⟨p, u, l, t⟩ n = if l - (n - t) < 0 then 0 else l - (n - t)) := rfl
  generalize BK.lvl ⟨p, u, l, t⟩ n = L at *
  have hB : ∀ o, Below w.heap.size w (w.alloc o) := fun o => (Below.refl _ w).alloc (Nat.le_refl _) o
  by_cases hz : l - (n - t) < 0
  · have HQ : Hid (0 = L) := show 0 = L by rw [HR.out, if_pos hz]
    clear HR
    go_enter Tryd.func53, Tryd.ntmps53
    go_wp2
    go_ret
    exact ⟨retI13 HQ.out, hB _⟩
  · have HQ : Hid (l - (n - t) = L) := show l - (n - t) = L by rw [HR.out, if_neg hz]
    clear HR
    go_enter Tryd.func53, Tryd.ntmps53
    go_wp2
    go_ret
    exact ⟨retI13 HQ.out, hB _⟩
set_option maxHeartbeats 800000 in
set_option maxRecDepth 100000 in
theorem specLevel_any (b : Bk) (n : Int) (w : World) :
    Calls Tryd.prog 42 #[b.v, .int .i64 n] w fun e w' => e = .returned (.tuple #[.int .i64 (BK.lev b n), .bool (BK.levOk b n)]) ∧ Below w.heap.size w w' := by
  have GI : Hid (∀ W : World, Calls Tryd.prog 24 #[b.v] W fun e w' => e = .returned (.bool (BK.goodB b)) ∧ Below W.heap.size W w') := fun W => goodBS_any b W _ rfl
  have TI : Hid (∀ W : World, Calls Tryd.prog 38 #[.int .i64 n] W fun e w' => e = .returned (.bool (BK.okT n)) ∧ W = w') := fun W => timeS_any n W
  have LV : Hid (∀ (W : World) (_ : BK.levOk b n = true), Calls Tryd.prog 53 #[b.v, .int .i64 n] W fun e w' => e = .returned (.int .i64 (BK.lev b n)) ∧ Below W.heap.size W w') := fun W h => by
    obtain ⟨g, h1, h2⟩ := BK.levOk_iff.1 h
    have e : BK.lev b n = BK.lvl b n := by simp [BK.lev, h]
    rw [e]
    have := (BK.mul_small g.s).2
    exact l13Level_any b n W g.l0 (by have := g.l1; omega) g.t0 h2 h1
  have HF : Hid (BK.levOk b n = false → (0 : Int) = BK.lev b n) := fun h => by simp [BK.lev, h]
  have HI : Hid (BK.levOk b n = true ↔ BK.GB b ∧ n ≤ 1000000 ∧ b.t ≤ n) := BK.levOk_iff
  have HG : Hid (BK.goodB b = true ↔ BK.GB b) := BK.goodB_iff
  generalize BK.lev b n = L at *
  generalize BK.levOk b n = K at *
  generalize BK.goodB b = G at *
  obtain ⟨p, u, l, t⟩ := b
  have hB : Below w.heap.size w _ := (Below.refl _ w).alloc (Nat.le_refl _) (.cells #[.int .i64 p, .int .i64 u, .int .i64 l, .int .i64 t] 35)
  go_enter Tryd.func42, Tryd.ntmps42
  go_wp2_with fail
  refine (GI.out _).mono ?_
  rintro e w1 ⟨rfl, hb1⟩
  have k : ∀ j, w1.cell? ⟨w.heap.size, j, none⟩ = (w.alloc (.cells #[.int .i64 p, .int .i64 u, .int .i64 l, .int .i64 t] 35)).cell? ⟨w.heap.size, j, none⟩ := fun j => hb1.cell (by simp)
  have hlt : w.heap.size < w1.heap.size := by have := hb1.size; simp only [World.alloc, Array.size_push] at this; omega
  have hB1 := hB.trans (hb1.mono hB.size)
  have k0 := k 0
  have k1 := k 1
  have k2 := k 2
  have k3 := k 3
  simp at k0 k1 k2 k3
  clear k hb1 hB GI
  have HB1 : Hid _ := hB1
  clear hB1
  cases G
  · have hK : K = false := by rw [Bool.eq_false_iff]; intro e; have := HG.out.2 (HI.out.1 e).1; cases this
    subst hK
    have HR : Hid (0 = L) := HF.out rfl
    clear HF HI HG TI LV
    go_wp2
    go_ret2
    exact ⟨retIB13 HR.out rfl, HB1.out⟩
  · have hGB := HG.out.1 rfl
    by_cases hn : 0 ≤ n ∧ n ≤ 1000000
    · have hT : BK.okT n = true := BK.okT_iff.2 hn
      rw [hT] at TI
      by_cases ht : t ≤ n
      · have hK : K = true := HI.out.2 ⟨hGB, hn.2, ht⟩
        subst hK
        clear HF HI HG hT hGB hn
        go_wp2_with fail
        refine (TI.out _).mono ?_
        rintro e w2 ⟨rfl, rfl⟩
        clear TI
        go_wp2_with fail
        refine (LV.out _ (by first | rfl | trivial)).mono ?_
        rintro e w2 ⟨rfl, hb2⟩
        have hB2 := HB1.out.trans (hb2.mono HB1.out.size)
        clear LV hb2 HB1 k0 k1 k2 k3 hlt ht
        go_wp2
        go_ret2
        exact ⟨rfl, hB2⟩
      · have hK : K = false := by rw [Bool.eq_false_iff]; intro e; exact ht (HI.out.1 e).2.2
        subst hK
        have HR : Hid (0 = L) := HF.out rfl
        have ht' : n < t := by omega
        clear HF HI HG hT hGB hn ht LV
        go_wp2_with fail
        refine (TI.out _).mono ?_
        rintro e w2 ⟨rfl, rfl⟩
        clear TI
        go_wp2
        go_ret2
        exact ⟨retIB13 HR.out rfl, HB1.out⟩
    · have hT : BK.okT n = false := by rw [Bool.eq_false_iff]; intro e; exact hn (BK.okT_iff.1 e)
      rw [hT] at TI
      have hK : K = false := by rw [Bool.eq_false_iff]; intro e; have := HI.out.1 e; have := hGB.t0; simp only at *; omega
      subst hK
      have HR : Hid (0 = L) := HF.out rfl
      clear HF HI HG hT hGB hn LV
      go_wp2_with fail
      refine (TI.out _).mono ?_
      rintro e w2 ⟨rfl, rfl⟩
      clear TI
      go_wp2
      go_ret2
      exact ⟨retIB13 HR.out rfl, HB1.out⟩
end Go.Proofs.YteedppngiknjlaaDoor
