/- Times as floats: never, longAgo, tell, arrival, departure. -/
import Derived.Test.YtjplabldiheggaaRows
import Derived.Test.YtjplabldiheggaaMF
import Derived.Test.YtjplabldiheggaaMPN
import Derived.Test.YtjplabldiheggaaCFloatN
import Derived.WalkKit
import Derived.WalkSpells
import Derived.WalkLawsBesides
import Derived.Outline
namespace Go.Proofs.Ytjplabldiheggaa
open Go.RowKit
theorem Try.toBits (b : Nat) (W : World) : (callFunc 82 #[.float .f64 b]).run Try.prog W = .ok (.value (.int .u64 b)) W := by
  rw [run_callFunc_extern Try.func82 (by kernel_rfl) (by kernel_rfl) (by kernel_rfl) (e := Extern.MathFloatBits.float64bits) (by kernel_rfl)]
  rfl
/-- math.Abs takes the sign away. -/
theorem Try.abs_run (b : Nat) (r : Nat) (hb : b < 18446744073709551616) (hr : b % 9223372036854775808 = r) (w : World) : Calls Try.prog 76 #[.float .f64 b] w fun e w' => e = .returned (.float .f64 r) ∧ w = w' := by
  have FB := Try.fromBits
  have TB := Try.toBits
  have AN := FL.and_not b hb
  rw [hr] at AN
  go_enter Try.func76, Try.ntmps76
  go_wp2
  go_ret
  exact ⟨rfl, rfl⟩
set_option maxHeartbeats 800000 in
set_option maxRecDepth 100000 in
theorem Try.isInf_run (y r : Nat) (o : Ordering) (hy : y < 18446744073709551616) (hr : y % 9223372036854775808 = r) (o1 : FloatKind.f64.format.order r 9218868437227405311 = some o) (w : World) : Calls Try.prog 63 #[.float .f64 y, .int .i64 0] w fun e w' => e = .returned (.bool (some o == some Ordering.gt)) ∧ w = w' := by
  have AB : Hid (∀ W : World, Calls Try.prog 76 #[.float .f64 y] W fun e w' => e = .returned (.float .f64 r) ∧ W = w') := fun W => Try.abs_run y r hy hr W
  clear hy hr
  go_enter Try.func63, Try.ntmps63
  go_wp2_with fail
  refine (AB.out _).mono ?_
  rintro e w' ⟨rfl, rfl⟩
  go_wp2
  go_ret
  exact ⟨rfl, rfl⟩
set_option maxHeartbeats 800000 in
set_option maxRecDepth 100000 in
theorem tell_any (m : FL.Mo) (w : World) (hm : m = .ago ∨ PN.okT m) : Calls Try.prog 37 #[.float .f64 m.b] w fun e w' => e = .returned (.tuple #[.int .i64 (PN.tellN m), .bool (PN.tellB m)]) ∧ w = w' := by
  have far : ∀ (y r : Nat), y < 18446744073709551616 → y % 9223372036854775808 = r → FloatKind.f64.format.order r 9218868437227405311 = some .gt → Calls Try.prog 37 #[.float .f64 y] w fun e w' => e = .returned (.tuple #[.int .i64 0, .bool false]) ∧ w = w' := by
    intro y r hy hr o1
    have AB : Hid (∀ W : World, Calls Try.prog 63 #[.float .f64 y, .int .i64 0] W fun e w' => e = .returned (.bool true) ∧ W = w') := fun W => Try.isInf_run y r _ hy hr o1 W
    clear hy hr o1
    go_enter Try.func37, Try.ntmps37
    go_wp2_with fail
    refine (AB.out _).mono ?_
    rintro e w' ⟨rfl, rfl⟩
    go_wp2
    go_ret2
    exact ⟨rfl, rfl⟩
  cases m with
  | inf => exact far _ 9218868437227405312 (by decide) (by decide) (by decide)
  | ago => exact far _ 9218868437227405312 (by decide) (by decide) (by decide)
  | fin n =>
    obtain ⟨h0, h1⟩ : 0 ≤ n ∧ n ≤ 1048576 := by rcases hm with h | h; cases h; exact h
    have hlt := FL.bits_lt n h0 (by omega)
    have IC := FL.int_bits n (by omega)
    have AB : Hid (∀ W : World, Calls Try.prog 63 #[.float .f64 (floatOfInt .f64 n), .int .i64 0] W fun e w' => e = .returned (.bool false) ∧ W = w') := fun W => Try.isInf_run _ _ _ (by omega) (Nat.mod_eq_of_lt hlt) (FL.most_fin n (by omega)) W
    have CV : ∀ W : World, (convert 68 3 (.float .f64 (floatOfInt .f64 n))).run Try.prog W = .ok (.int .i64 n) W := fun W => run_convert_float_int W 68 3 .f64 .i64 _ n (by rw [Try.underlying68]; rfl) Try.underlying3 IC
    show Calls _ _ #[.float .f64 (floatOfInt .f64 n)] _ fun e w' => e = .returned (.tuple #[.int .i64 n, .bool true]) ∧ _
    clear IC hlt far hm
    go_enter Try.func37, Try.ntmps37
    go_wp2_with fail
    refine (AB.out _).mono ?_
    rintro e w' ⟨rfl, rfl⟩
    go_wp2
    go_ret2
    exact ⟨rfl, rfl⟩
end Go.Proofs.Ytjplabldiheggaa
