/- Times as floats: never, longAgo, tell, arrival, departure. -/
import Derived.Test.YtobdgmopflccfaaRows
import Derived.Test.YtobdgmopflccfaaMF
import Derived.Test.YtobdgmopflccfaaMPN
import Derived.WalkKit
import Derived.WalkSpells
import Derived.WalkLawsBesides
import Derived.Outline
namespace Go.Proofs.Ytobdgmopflccfaa
open Go.RowKit
theorem Try.fromBits (n : Int) (W : World) : (callFunc 57 #[.int .u64 n]).run Try.prog W = .ok (.value (.float .f64 n.toNat)) W := by
  rw [run_callFunc_extern Try.func57 (by kernel_rfl) (by kernel_rfl) (by kernel_rfl) (e := Extern.MathFloatBits.float64frombits) (by kernel_rfl)]
  rfl
theorem Try.toBits (b : Nat) (W : World) : (callFunc 58 #[.float .f64 b]).run Try.prog W = .ok (.value (.int .u64 b)) W := by
  rw [run_callFunc_extern Try.func58 (by kernel_rfl) (by kernel_rfl) (by kernel_rfl) (e := Extern.MathFloatBits.float64bits) (by kernel_rfl)]
  rfl
set_option maxHeartbeats 400000 in
set_option maxRecDepth 100000 in
theorem never_any (w : World) : Calls Try.prog 48 #[] w fun e w' => e = .returned (.float .f64 FL.Mo.inf.b) ∧ w = w' := by
  have FB := Try.fromBits
  go_enter Try.func48, Try.ntmps48
  go_wp2
  go_ret
  exact ⟨rfl, rfl⟩
namespace PN
open FL
/-- When one is there by a contact. -/
def arr (c : I5) : Mo → Mo
  | .fin n => if c.a3 ≤ n then .inf else .fin (max n c.a2 + c.a4)
  | _ => .inf
/-- A time at which one may be somewhere. -/
def okT : Mo → Prop
  | .fin n => 0 ≤ n ∧ n ≤ 1048576
  | .inf => True
  | .ago => False
def tellN : Mo → Int
  | .fin n => n
  | _ => 0
def tellB : Mo → Bool
  | .fin _ => true
  | _ => false
theorem okT_ok {m : Mo} (h : okT m) : m.ok := by
  cases m with
  | fin n => simp only [okT] at h; show _ < _; omega
  | inf => trivial
  | ago => trivial
end PN
set_option maxHeartbeats 800000 in
set_option maxRecDepth 100000 in
theorem arrival_any (c : I5) (m : FL.Mo) (w : World) (hc : PN.Good c) (hm : PN.okT m) : Calls Try.prog 38 #[c.v, .float .f64 m.b] w fun e w' => e = .returned (.float .f64 (PN.arr c m).b) ∧ Below w.heap.size w w' := by
  have NV : Hid (∀ W : World, Calls Try.prog 48 #[] W fun e w' => e = .returned (.float .f64 FL.Mo.inf.b) ∧ W = w') := fun W => never_any W
  have hB : ∀ o, Below w.heap.size w (w.alloc o) := fun o => (Below.refl _ w).alloc (Nat.le_refl _) o
  have o3 : (FL.Mo.fin c.a3).ok := by have := hc.e0; have := hc.e1; show _ < _; omega
  have o2 : (FL.Mo.fin c.a2).ok := by have := hc.e0; have := hc.e1; have := hc.s0; have := hc.s1; show _ < _; omega
  have late : (m.cmp (.fin c.a3) = .gt ∨ m.cmp (.fin c.a3) = .eq) → Calls Try.prog 38 #[c.v, .float .f64 m.b] w fun e w' => e = .returned (.float .f64 FL.Mo.inf.b) ∧ Below w.heap.size w w' := by
    intro hl
    have o1 : FloatKind.f64.format.order m.b (floatOfInt .f64 c.a3) = some (m.cmp (.fin c.a3)) := FL.order_is m (.fin c.a3) (PN.okT_ok hm) o3
    obtain ⟨x0, x1, x2, x3, x4⟩ := c
    simp only at o1 hl
    clear hc o2 o3 hm
    generalize m.cmp (.fin x3) = q at *
    generalize m.b = y at *
    generalize FL.Mo.inf.b = z at *
    rcases hl with rfl | rfl
    · go_enter Try.func38, Try.ntmps38
      go_wp2_with fail
      refine (NV.out _).mono ?_
      rintro e w' ⟨rfl, rfl⟩
      go_wp2
      go_ret
      exact ⟨rfl, hB _⟩
    · go_enter Try.func38, Try.ntmps38
      go_wp2_with fail
      refine (NV.out _).mono ?_
      rintro e w' ⟨rfl, rfl⟩
      go_wp2
      go_ret
      exact ⟨rfl, hB _⟩
  cases m with
  | ago => exact absurd hm id
  | inf => exact late (.inl rfl)
  | fin n =>
    by_cases hl : c.a3 ≤ n
    · have e1 : PN.arr c (.fin n) = .inf := by simp [PN.arr, hl]
      rw [e1]
      refine late ?_
      by_cases e : n = c.a3
      · subst e; exact .inr (FL.cmp_same _)
      · exact .inl (FL.cmp_gt (by omega))
    · have e1 : PN.arr c (.fin n) = .fin (max n c.a2 + c.a4) := by simp [PN.arr, hl]
      rw [e1]
      have o1 : FloatKind.f64.format.order (floatOfInt .f64 n) (floatOfInt .f64 c.a3) = some .lt := by
        have := FL.order_is (.fin n) (.fin c.a3) (PN.okT_ok hm) o3
        have e2 := FL.cmp_lt (a := n) (b := c.a3) (by omega)
        rw [e2] at this; exact this
      have em := FL.max_fin n c.a2
      have M1 : ∀ ts t (W : World), (Builtin.max_ ts t #[.float .f64 (floatOfInt .f64 n), .float .f64 (floatOfInt .f64 c.a2)]).run Try.prog W = .ok (.float .f64 (floatOfInt .f64 (max n c.a2))) W := fun ts t W => by
        have := FL.max_run (P := Try.prog) ts t W (.fin n) (.fin c.a2) (PN.okT_ok hm) o2
        rw [em] at this; exact this
      have A1 : ∀ t (W : World), (binOp .add t (.float .f64 (floatOfInt .f64 (max n c.a2))) (.float .f64 (floatOfInt .f64 c.a4))).run Try.prog W = .ok (.float .f64 (floatOfInt .f64 (max n c.a2 + c.a4))) W := fun t W => FL.add_run t W _ _ (by simp only [PN.okT] at hm; have := hc.s0; have := hc.s1; have := hc.e1; omega) (by have := hc.d0; have := hc.d1; omega)
      show Calls _ _ #[_, .float .f64 (floatOfInt .f64 n)] _ fun e w' => e = .returned (.float .f64 (floatOfInt .f64 (max n c.a2 + c.a4))) ∧ _
      obtain ⟨x0, x1, x2, x3, x4⟩ := c
      simp only at o1 M1 A1
      clear hc o2 o3 hm late em e1 NV
      simp only at hl
      generalize max n x2 + x4 = r at *
      generalize max n x2 = s at *
      go_enter Try.func38, Try.ntmps38
      go_wp2
      go_ret
      exact ⟨rfl, hB _⟩
/-- math.Abs takes the sign away. -/
theorem Try.abs_run (b : Nat) (r : Nat) (hb : b < 18446744073709551616) (hr : b % 9223372036854775808 = r) (w : World) : Calls Try.prog 56 #[.float .f64 b] w fun e w' => e = .returned (.float .f64 r) ∧ w = w' := by
  have FB := Try.fromBits
  have TB := Try.toBits
  have AN := FL.and_not b hb
  rw [hr] at AN
  go_enter Try.func56, Try.ntmps56
  go_wp2
  go_ret
  exact ⟨rfl, rfl⟩
set_option maxHeartbeats 800000 in
set_option maxRecDepth 100000 in
theorem Try.isInf_run (y r : Nat) (o : Ordering) (hy : y < 18446744073709551616) (hr : y % 9223372036854775808 = r) (o1 : FloatKind.f64.format.order r 9218868437227405311 = some o) (w : World) : Calls Try.prog 50 #[.float .f64 y, .int .i64 0] w fun e w' => e = .returned (.bool (some o == some Ordering.gt)) ∧ w = w' := by
  have AB : Hid (∀ W : World, Calls Try.prog 56 #[.float .f64 y] W fun e w' => e = .returned (.float .f64 r) ∧ W = w') := fun W => Try.abs_run y r hy hr W
  clear hy hr
  go_enter Try.func50, Try.ntmps50
  go_wp2_with fail
  refine (AB.out _).mono ?_
  rintro e w' ⟨rfl, rfl⟩
  go_wp2
  go_ret
  exact ⟨rfl, rfl⟩
set_option maxHeartbeats 800000 in
set_option maxRecDepth 100000 in
theorem tell_any (m : FL.Mo) (w : World) (hm : m = .ago ∨ PN.okT m) : Calls Try.prog 29 #[.float .f64 m.b] w fun e w' => e = .returned (.tuple #[.int .i64 (PN.tellN m), .bool (PN.tellB m)]) ∧ w = w' := by
  have far : ∀ (y r : Nat), y < 18446744073709551616 → y % 9223372036854775808 = r → FloatKind.f64.format.order r 9218868437227405311 = some .gt → Calls Try.prog 29 #[.float .f64 y] w fun e w' => e = .returned (.tuple #[.int .i64 0, .bool false]) ∧ w = w' := by
    intro y r hy hr o1
    have AB : Hid (∀ W : World, Calls Try.prog 50 #[.float .f64 y, .int .i64 0] W fun e w' => e = .returned (.bool true) ∧ W = w') := fun W => Try.isInf_run y r _ hy hr o1 W
    clear hy hr o1
    go_enter Try.func29, Try.ntmps29
    go_wp2_with fail
    refine (AB.out _).mono ?_
    rintro e w' ⟨rfl, rfl⟩
    go_wp2
    go_ret2
    exact ⟨rfl, rfl⟩
  cases m with
  | inf => exact far _ 9218868437227405312 (by decide) (by decide) (by decide)
  | ago => exact far _ 9218868437227405312 (by decide) (by decide) (by decide)
  | fin n =>
    obtain ⟨h0, h1⟩ : 0 ≤ n ∧ n ≤ 1048576 := by rcases hm with h | h; cases h; exact h
    have hlt := FL.bits_lt n h0 (by omega)
    have IC := FL.int_bits n (by omega)
    have AB : Hid (∀ W : World, Calls Try.prog 50 #[.float .f64 (floatOfInt .f64 n), .int .i64 0] W fun e w' => e = .returned (.bool false) ∧ W = w') := fun W => Try.isInf_run _ _ _ (by omega) (Nat.mod_eq_of_lt hlt) (FL.most_fin n (by omega)) W
    have CV : ∀ W : World, (convert 59 3 (.float .f64 (floatOfInt .f64 n))).run Try.prog W = .ok (.int .i64 n) W := fun W => run_convert_float_int W 59 3 .f64 .i64 _ n (by rw [Try.underlying59]; rfl) Try.underlying3 IC
    show Calls _ _ #[.float .f64 (floatOfInt .f64 n)] _ fun e w' => e = .returned (.tuple #[.int .i64 n, .bool true]) ∧ _
    clear IC hlt far hm
    go_enter Try.func29, Try.ntmps29
    go_wp2_with fail
    refine (AB.out _).mono ?_
    rintro e w' ⟨rfl, rfl⟩
    go_wp2
    go_ret2
    exact ⟨rfl, rfl⟩
end Go.Proofs.Ytobdgmopflccfaa
