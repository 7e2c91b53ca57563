/- Plain facts on numbers in sevens (chapter 1): no program is named here. -/
import Derived.Laws.BitsAllLaws
namespace Go.Proofs.Ytdgflhgbcfehhaa
namespace M1
theorem i64_wrap (n : Nat) (h : n < 9223372036854775808) : IntKind.i64.wrap (n : Int) = (n : Int) := by
  simp [IntKind.wrap, IntKind.bits, IntKind.signed]; omega
theorem i64_ofInt (a : Nat) (ha : a < 9223372036854775808) : (BitVec.ofInt 64 (a : Int)).toNat = a := by
  rw [BitVec.ofInt_natCast, BitVec.toNat_ofNat]; exact Nat.mod_eq_of_lt (by omega)
theorem i64_and_nat (a b : Nat) (ha : a < 9223372036854775808) (hb : b < 9223372036854775808) : bits .and .i64 (a : Int) (b : Int) = ((a &&& b : Nat) : Int) := by
  have hx : a &&& b < 2 ^ 63 := Nat.and_lt_two_pow _ (by omega)
  show IntKind.i64.wrap ((BitVec.ofInt 64 (a : Int) &&& BitVec.ofInt 64 (b : Int)).toNat : Int) = _
  rw [BitVec.toNat_and, i64_ofInt a ha, i64_ofInt b hb, i64_wrap _ (by omega)]
theorem i64_or_nat (a b : Nat) (ha : a < 9223372036854775808) (hb : b < 9223372036854775808) : bits .or .i64 (a : Int) (b : Int) = ((a ||| b : Nat) : Int) := by
  have hx : a ||| b < 2 ^ 63 := Nat.or_lt_two_pow (by omega) (by omega)
  show IntKind.i64.wrap ((BitVec.ofInt 64 (a : Int) ||| BitVec.ofInt 64 (b : Int)).toNat : Int) = _
  rw [BitVec.toNat_or, i64_ofInt a ha, i64_ofInt b hb, i64_wrap _ (by omega)]
theorem i64_xor_nat (a b : Nat) (ha : a < 9223372036854775808) (hb : b < 9223372036854775808) : bits .xor .i64 (a : Int) (b : Int) = ((a ^^^ b : Nat) : Int) := by
  have hx : a ^^^ b < 2 ^ 63 := Nat.xor_lt_two_pow (by omega) (by omega)
  show IntKind.i64.wrap ((BitVec.ofInt 64 (a : Int) ^^^ BitVec.ofInt 64 (b : Int)).toNat : Int) = _
  rw [BitVec.toNat_xor, i64_ofInt a ha, i64_ofInt b hb, i64_wrap _ (by omega)]
/-- 'n & 127' of a number that is not negative. -/
theorem and127 (n : Nat) (h : n < 9223372036854775808) : bits .and .i64 (n : Int) 127 = ((n % 128 : Nat) : Int) := by
  rw [show (127 : Int) = ((127 : Nat) : Int) from rfl, i64_and_nat n 127 h (by omega), nat_mask7]
/-- 'b | 128' of a seven. -/
theorem or128 (n : Nat) (h : n < 128) : bits .or .u8 (n : Int) 128 = ((n + 128 : Nat) : Int) := by
  rw [show (128 : Int) = ((128 : Nat) : Int) from rfl, u8_or_nat n 128 (by omega) (by omega), Nat.or_comm, nat_join 7 128 n (by decide) (by omega)]; omega
/-- The marked sevens of n, the highest first. -/
def hi7 (n : Nat) : List UInt8 := if n = 0 then [] else hi7 (n / 128) ++ [UInt8.ofNat (n % 128 + 128)]
theorem hi7_zero : hi7 0 = [] := by rw [hi7]; rfl
theorem hi7_pos (n : Nat) (h : n ≠ 0) : hi7 n = hi7 (n / 128) ++ [UInt8.ofNat (n % 128 + 128)] := by rw [hi7]; simp [h]
/-- n in sevens: the last has no mark. -/
def sdnv (n : Nat) : List UInt8 := hi7 (n / 128) ++ [UInt8.ofNat (n % 128)]
theorem hi7_len (n k : Nat) (h : n < 128 ^ k) : (hi7 n).length ≤ k := by
  induction k generalizing n with
  | zero => have : n = 0 := by simp at h; exact h
            subst this; simp [hi7_zero]
  | succ k ih =>
    by_cases h0 : n = 0
    · subst h0; simp [hi7_zero]
    · rw [hi7_pos n h0]; have := ih (n / 128) (by rw [Nat.pow_succ] at h; omega); simp; omega
theorem sdnv_len (n : Nat) (h : n ≤ 1000000000) : (sdnv n).length ≤ 5 := by
  unfold sdnv; have := hi7_len (n / 128) 4 (by omega); simp; omega
theorem hi7_step (m : Nat) (l : List UInt8) (h : 0 < m) : hi7 (m / 128) ++ (UInt8.ofNat (m % 128 + 128) :: l) = hi7 m ++ l := by
  rw [hi7_pos m (by omega)]; simp
theorem app_len {a b c : List UInt8} (h : a ++ b = c) : b.length ≤ c.length := by rw [← h]; simp
theorem bs_app (a b : List UInt8) : (⟨a.toArray⟩ : ByteArray) ++ ⟨b.toArray⟩ = ⟨(a ++ b).toArray⟩ := by
  apply ByteArray.ext; simp
theorem byte_add (m : Nat) : UInt8.ofNat m + 128 = UInt8.ofNat (m + 128) := by rw [UInt8.ofNat_add]; rfl
theorem div_cast (n k : Nat) : (n : Int) / 2 ^ k = ((n / 2 ^ k : Nat) : Int) := by
  rw [Int.natCast_ediv, Int.natCast_pow]; rfl
theorem div_succ (n j : Nat) : n / 2 ^ (7 * (j + 1)) = n / 2 ^ (7 * j) / 128 := by
  rw [Nat.div_div_eq_div_mul, show (128 : Nat) = 2 ^ 7 from rfl, ← Nat.pow_add, Nat.mul_add]
theorem div_zero (n : Nat) : n / 2 ^ (7 * 0) = n := by simp
theorem hi7_div (n j : Nat) (h : n / 2 ^ (7 * j) ≠ 0) : hi7 (n / 2 ^ (7 * (j + 1))) ++ [UInt8.ofNat (n / 2 ^ (7 * j) % 128 + 128)] = hi7 (n / 2 ^ (7 * j)) := by
  rw [hi7_pos _ h, div_succ]
theorem div_le (n k : Nat) (h : n ≤ 1000000000) : n / 2 ^ k ≤ 1000000000 := Nat.le_trans (Nat.div_le_self _ _) h
theorem byte_nat (q : Nat) (h : q < 256) : (UInt8.ofNat q).toNat = q := by rw [UInt8.toNat_ofNat']; omega
end M1
end Go.Proofs.Ytdgflhgbcfehhaa
