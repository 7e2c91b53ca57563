/- Times as floats: never, arrival. -/
import Derived.Test.YtjplabldiheggaaRows
import Derived.Test.YtjplabldiheggaaMF
import Derived.Test.YtjplabldiheggaaMPN
import Derived.Test.YtjplabldiheggaaMArr
import Derived.WalkKit
import Derived.WalkSpells
import Derived.WalkLawsBesides
import Derived.Outline
namespace Go.Proofs.Ytjplabldiheggaa
open Go.RowKit
theorem Try.fromBits (n : Int) (W : World) : (callFunc 81 #[.int .u64 n]).run Try.prog W = .ok (.value (.float .f64 n.toNat)) W := by
  rw [run_callFunc_extern Try.func81 (by kernel_rfl) (by kernel_rfl) (by kernel_rfl) (e := Extern.MathFloatBits.float64frombits) (by kernel_rfl)]
  rfl
set_option maxHeartbeats 400000 in
set_option maxRecDepth 100000 in
theorem never_any (w : World) : Calls Try.prog 60 #[] w fun e w' => e = .returned (.float .f64 FL.Mo.inf.b) ∧ w = w' := by
  have FB := Try.fromBits
  go_enter Try.func60, Try.ntmps60
  go_wp2
  go_ret
  exact ⟨rfl, rfl⟩
set_option maxHeartbeats 800000 in
set_option maxRecDepth 100000 in
theorem arrival_any (c : I5) (m : FL.Mo) (w : World) (hc : PN.Good c) (hm : PN.okT m) : Calls Try.prog 62 #[c.v, .float .f64 m.b] w fun e w' => e = .returned (.float .f64 (PN.arr c m).b) ∧ Below w.heap.size w w' := by
  have NV : Hid (∀ W : World, Calls Try.prog 60 #[] W fun e w' => e = .returned (.float .f64 FL.Mo.inf.b) ∧ W = w') := fun W => never_any W
  have hB : ∀ o, Below w.heap.size w (w.alloc o) := fun o => (Below.refl _ w).alloc (Nat.le_refl _) o
  have o3 : (FL.Mo.fin c.a3).ok := by have := hc.e0; have := hc.e1; show _ < _; omega
  have o2 : (FL.Mo.fin c.a2).ok := by have := hc.e0; have := hc.e1; have := hc.s0; have := hc.s1; show _ < _; omega
  have late : (m.cmp (.fin c.a3) = .gt ∨ m.cmp (.fin c.a3) = .eq) → Calls Try.prog 62 #[c.v, .float .f64 m.b] w fun e w' => e = .returned (.float .f64 FL.Mo.inf.b) ∧ Below w.heap.size w w' := by
    intro hl
    have o1 : FloatKind.f64.format.order m.b (floatOfInt .f64 c.a3) = some (m.cmp (.fin c.a3)) := FL.order_is m (.fin c.a3) (PN.okT_ok hm) o3
    obtain ⟨x0, x1, x2, x3, x4⟩ := c
    simp only at o1 hl
    clear hc o2 o3 hm
    generalize m.cmp (.fin x3) = q at *
    generalize m.b = y at *
    generalize FL.Mo.inf.b = z at *
    rcases hl with rfl | rfl
    · go_enter Try.func62, Try.ntmps62
      go_wp2_with fail
      refine (NV.out _).mono ?_
      rintro e w' ⟨rfl, rfl⟩
      go_wp2
      go_ret
      exact ⟨rfl, hB _⟩
    · go_enter Try.func62, Try.ntmps62
      go_wp2_with fail
      refine (NV.out _).mono ?_
      rintro e w' ⟨rfl, rfl⟩
      go_wp2
      go_ret
      exact ⟨rfl, hB _⟩
  cases m with
  | ago => exact absurd hm id
  | inf => exact late (.inl rfl)
  | fin n =>
    by_cases hl : c.a3 ≤ n
    · have e1 : PN.arr c (.fin n) = .inf := by simp [PN.arr, hl]
      rw [e1]
      refine late ?_
      by_cases e : n = c.a3
      · subst e; exact .inr (FL.cmp_same _)
      · exact .inl (FL.cmp_gt (by omega))
    · have e1 : PN.arr c (.fin n) = .fin (max n c.a2 + c.a4) := by simp [PN.arr, hl]
      rw [e1]
      have o1 : FloatKind.f64.format.order (floatOfInt .f64 n) (floatOfInt .f64 c.a3) = some .lt := by
        have := FL.order_is (.fin n) (.fin c.a3) (PN.okT_ok hm) o3
        have e2 := FL.cmp_lt (a := n) (b := c.a3) (by omega)
        rw [e2] at this; exact this
      have em := FL.max_fin n c.a2
      have M1 : ∀ ts t (W : World), (Builtin.max_ ts t #[.float .f64 (floatOfInt .f64 n), .float .f64 (floatOfInt .f64 c.a2)]).run Try.prog W = .ok (.float .f64 (floatOfInt .f64 (max n c.a2))) W := fun ts t W => by
        have := FL.max_run (P := Try.prog) ts t W (.fin n) (.fin c.a2) (PN.okT_ok hm) o2
        rw [em] at this; exact this
      have A1 : ∀ t (W : World), (binOp .add t (.float .f64 (floatOfInt .f64 (max n c.a2))) (.float .f64 (floatOfInt .f64 c.a4))).run Try.prog W = .ok (.float .f64 (floatOfInt .f64 (max n c.a2 + c.a4))) W := fun t W => FL.add_run t W _ _ (by simp only [PN.okT] at hm; have := hc.s0; have := hc.s1; have := hc.e1; omega) (by have := hc.d0; have := hc.d1; omega)
      show Calls _ _ #[_, .float .f64 (floatOfInt .f64 n)] _ fun e w' => e = .returned (.float .f64 (floatOfInt .f64 (max n c.a2 + c.a4))) ∧ _
      obtain ⟨x0, x1, x2, x3, x4⟩ := c
      simp only at o1 M1 A1
      clear hc o2 o3 hm late em e1 NV
      simp only at hl
      generalize max n x2 + x4 = r at *
      generalize max n x2 = s at *
      go_enter Try.func62, Try.ntmps62
      go_wp2
      go_ret
      exact ⟨rfl, hB _⟩
end Go.Proofs.Ytjplabldiheggaa
