/- Plain facts on sums over bytes (chapter 1): the table's two turns for a byte come to the same as the eight steps of the polynomial. No program is named here. -/
import Derived.Test.YtkpkahhhmoaafabDoorM1
namespace Go.Proofs.YtkpkahhhmoaafabDoor
namespace M6
/-- The table's sixteen rows. -/
def T : List Nat := [0, 4129, 8258, 12387, 16516, 20645, 24774, 28903, 33032, 37161, 41290, 45419, 49548, 53677, 57806, 61935]
/-- One step of the polynomial. -/
def st (x : Nat) : Nat := if 65535 < x * 2 then (x * 2) ^^^ 69665 else x * 2
/-- Four steps by the table. -/
def F4 (y : Nat) : Nat := (y * 16 % 65536) ^^^ T.getD (y / 4096) 0
theorem xor_mul (a b k : Nat) : (a ^^^ b) * 2 ^ k = (a * 2 ^ k) ^^^ (b * 2 ^ k) := by
  rw [← Nat.shiftLeft_eq, ← Nat.shiftLeft_eq, ← Nat.shiftLeft_eq, Nat.shiftLeft_xor_distrib]
theorem xor_div (a b k : Nat) : (a ^^^ b) / 2 ^ k = (a / 2 ^ k) ^^^ (b / 2 ^ k) := by
  rw [← Nat.shiftRight_eq_div_pow, ← Nat.shiftRight_eq_div_pow, ← Nat.shiftRight_eq_div_pow, Nat.shiftRight_xor_distrib]
theorem xor_mod (a b k : Nat) : (a ^^^ b) % 2 ^ k = (a % 2 ^ k) ^^^ (b % 2 ^ k) := Nat.xor_mod_two_pow
theorem st_lt (x : Nat) (hx : x < 65536) : st x < 65536 := by
  unfold st
  split
  · have h1 : x * 2 / 2 ^ 16 = 1 := by omega
    have h2 : (x * 2 ^^^ 69665) / 2 ^ 16 = 0 := by rw [xor_div, h1]; decide
    omega
  · omega
theorem split (x k : Nat) : x = (x / 2 ^ k * 2 ^ k) ^^^ (x % 2 ^ k) := by
  have hp : 0 < 2 ^ k := Nat.pow_pos (by decide)
  have hd : ((x / 2 ^ k * 2 ^ k) ^^^ (x % 2 ^ k)) / 2 ^ k = x / 2 ^ k := by
    rw [xor_div, Nat.mul_div_cancel _ hp, Nat.div_eq_of_lt (Nat.mod_lt _ hp), Nat.xor_zero]
  have hm : ((x / 2 ^ k * 2 ^ k) ^^^ (x % 2 ^ k)) % 2 ^ k = x % 2 ^ k := by
    rw [xor_mod, Nat.mul_mod_left, Nat.mod_mod, Nat.zero_xor]
  have h1 := Nat.div_add_mod x (2 ^ k)
  have h2 := Nat.div_add_mod ((x / 2 ^ k * 2 ^ k) ^^^ (x % 2 ^ k)) (2 ^ k)
  rw [hd, hm] at h2
  exact h1.symm.trans h2
theorem st_form (x : Nat) (hx : x < 65536) : st x = (x * 2 % 65536) ^^^ (x / 32768 * 4129) := by
  have hl := st_lt x hx
  by_cases h : 65535 < x * 2
  · have e : st x = (x * 2) ^^^ 69665 := by unfold st; rw [if_pos h]
    have e1 : x / 32768 = 1 := by omega
    rw [← Nat.mod_eq_of_lt hl, e, show (65536 : Nat) = 2 ^ 16 from rfl, xor_mod, e1]
  · have e : st x = x * 2 := by unfold st; rw [if_neg h]
    have e1 : x / 32768 = 0 := by omega
    have e2 : x * 2 % 65536 = x * 2 := by omega
    rw [e, e1, e2, Nat.zero_mul, Nat.xor_zero]
theorem bit_mul (p q : Nat) (hp : p < 2) (hq : q < 2) : (p ^^^ q) * 4129 = (p * 4129) ^^^ (q * 4129) :=
  (by decide : ∀ p < 2, ∀ q < 2, (p ^^^ q) * 4129 = (p * 4129) ^^^ (q * 4129)) p hp q hq
theorem st_xor (x y : Nat) (hx : x < 65536) (hy : y < 65536) : st (x ^^^ y) = st x ^^^ st y := by
  have hxy : x ^^^ y < 65536 := Nat.xor_lt_two_pow (n := 16) hx hy
  rw [st_form _ hxy, st_form _ hx, st_form _ hy]
  have e1 : (x ^^^ y) * 2 % 65536 = (x * 2 % 65536) ^^^ (y * 2 % 65536) := by
    rw [show (x ^^^ y) * 2 = (x ^^^ y) * 2 ^ 1 from rfl, xor_mul, show (65536 : Nat) = 2 ^ 16 from rfl, xor_mod]
  have e2 : (x ^^^ y) / 32768 = (x / 32768) ^^^ (y / 32768) := by
    rw [show (32768 : Nat) = 2 ^ 15 from rfl, xor_div]
  rw [e1, e2, bit_mul _ _ (by omega) (by omega)]
  ac_rfl
def st4 (x : Nat) : Nat := st (st (st (st x)))
theorem st4_xor (x y : Nat) (hx : x < 65536) (hy : y < 65536) : st4 (x ^^^ y) = st4 x ^^^ st4 y := by
  unfold st4
  rw [st_xor _ _ hx hy, st_xor _ _ (st_lt _ hx) (st_lt _ hy), st_xor _ _ (st_lt _ (st_lt _ hx)) (st_lt _ (st_lt _ hy)), st_xor _ _ (st_lt _ (st_lt _ (st_lt _ hx))) (st_lt _ (st_lt _ (st_lt _ hy)))]
theorem st_low (x : Nat) (h : x < 32768) : st x = x * 2 := by unfold st; rw [if_neg (by omega)]
theorem st4_low (l : Nat) (h : l < 4096) : st4 l = l * 16 := by
  unfold st4
  rw [st_low l (by omega), st_low (l * 2) (by omega), st_low (l * 2 * 2) (by omega), st_low (l * 2 * 2 * 2) (by omega)]
  omega
theorem st4_high (h : Nat) (hh : h < 16) : st4 (h * 4096) = T.getD h 0 := (by decide +kernel : ∀ h < 16, st4 (h * 4096) = T.getD h 0) h hh
theorem four (x : Nat) (hx : x < 65536) : st (st (st (st x))) = F4 x := by
  show st4 x = F4 x
  have e := split x 12
  have h1 : st4 x = st4 (x / 2 ^ 12 * 2 ^ 12) ^^^ st4 (x % 2 ^ 12) := by
    rw [← st4_xor _ _ (by omega) (by omega), ← e]
  rw [h1, st4_low (x % 2 ^ 12) (by omega), show x / 2 ^ 12 * 2 ^ 12 = (x / 4096) * 4096 from rfl, st4_high _ (by omega)]
  unfold F4
  have e2 : x % 2 ^ 12 * 16 = x * 16 % 65536 := by omega
  rw [e2, Nat.xor_comm]
theorem T_lt : ∀ i, T.getD i 0 < 65536 := by
  intro i
  by_cases h : i < 16
  · exact (by decide +kernel : ∀ i < 16, T.getD i 0 < 65536) i h
  · have : T.length ≤ i := by simp [T]; omega
    rw [List.getD_eq_getElem?_getD, List.getElem?_eq_none this]; decide
theorem F4_lt (y : Nat) : F4 y < 65536 := by
  unfold F4; exact Nat.xor_lt_two_pow (n := 16) (Nat.mod_lt _ (by decide)) (T_lt _)
/-- The table's turn at a half byte: what impl.crcHalf reckons. -/
def half (x h : Nat) : Nat := (x * 16 % 65536) ^^^ T.getD ((x / 4096) ^^^ h) 0
theorem half_eq (x h : Nat) : half x h = F4 (x ^^^ (h * 4096)) := by
  unfold half F4
  have e1 : (x ^^^ (h * 4096)) * 16 % 65536 = x * 16 % 65536 := by
    rw [show (16 : Nat) = 2 ^ 4 from rfl, xor_mul, show (65536 : Nat) = 2 ^ 16 from rfl, xor_mod]
    have : h * 4096 * 2 ^ 4 % 2 ^ 16 = 0 := by omega
    rw [this, Nat.xor_zero]
  have e2 : (x ^^^ (h * 4096)) / 4096 = (x / 4096) ^^^ h := by
    rw [show (4096 : Nat) = 2 ^ 12 from rfl, xor_div]
    rw [Nat.mul_div_cancel _ (by decide)]
  rw [e1, e2]
theorem half_lt (x h : Nat) : half x h < 65536 := by rw [half_eq]; exact F4_lt _
theorem F4_low (y l : Nat) (hl : l < 16) : F4 (y ^^^ (l * 256)) = F4 y ^^^ (l * 4096) := by
  unfold F4
  have e1 : (y ^^^ (l * 256)) * 16 % 65536 = (y * 16 % 65536) ^^^ (l * 4096) := by
    rw [show (16 : Nat) = 2 ^ 4 from rfl, xor_mul, show (65536 : Nat) = 2 ^ 16 from rfl, xor_mod]
    have : l * 256 * 2 ^ 4 % 2 ^ 16 = l * 4096 := by omega
    rw [this]
  have e2 : (y ^^^ (l * 256)) / 4096 = y / 4096 := by
    rw [show (4096 : Nat) = 2 ^ 12 from rfl, xor_div]
    have : l * 256 / 2 ^ 12 = 0 := by omega
    rw [this, Nat.xor_zero]
  rw [e1, e2, Nat.xor_assoc, Nat.xor_comm (l * 4096), ← Nat.xor_assoc]
/-- A byte's eight steps. -/
def eight (x : Nat) : Nat := st (st (st (st (st (st (st (st x)))))))
theorem byte_split (b : Nat) : b * 256 = (b / 16 * 4096) ^^^ (b % 16 * 256) := by
  have e1 : b / 2 ^ 4 * 2 ^ 4 * 2 ^ 8 = b / 16 * 4096 := by omega
  have e2 : b % 2 ^ 4 * 2 ^ 8 = b % 16 * 256 := by rw [show (2 : Nat) ^ 4 = 16 from rfl, show (2 : Nat) ^ 8 = 256 from rfl]
  have e := split b 4
  have h := xor_mul (b / 2 ^ 4 * 2 ^ 4) (b % 2 ^ 4) 8
  rw [← e, e1, e2] at h
  exact h
theorem eight_eq (x b : Nat) (hx : x < 65536) (hb : b < 256) : eight (x ^^^ (b * 256)) = half (half x (b / 16)) (b % 16) := by
  have hlt : x ^^^ (b * 256) < 65536 := Nat.xor_lt_two_pow (n := 16) hx (by omega)
  unfold eight
  rw [four _ hlt, four _ (F4_lt _), byte_split b, ← Nat.xor_assoc, F4_low _ _ (by omega), half_eq, half_eq]
/-- The sum goes on by one byte. -/
def add (x b : Nat) : Nat := eight (x ^^^ (b * 256))
theorem add_lt (x b : Nat) (hx : x < 65536) (hb : b < 256) : add x b < 65536 := by unfold add; rw [eight_eq x b hx hb]; exact half_lt _ _
/-- The k-th step. -/
def stk (x : Nat) : Nat → Nat
  | 0 => x
  | k + 1 => st (stk x k)
theorem stk_lt (x : Nat) (hx : x < 65536) (k : Nat) : stk x k < 65536 := by
  induction k with
  | zero => exact hx
  | succ k ih => exact st_lt _ ih
theorem stk_eight (x : Nat) : stk x 8 = eight x := rfl
end M6
end Go.Proofs.YtkpkahhhmoaafabDoor
