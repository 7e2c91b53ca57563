/- Plain facts on reading a number in sevens (chapter 1): the program's way and the specification's way come to the same. No program is named here. -/
import Derived.Test.YtdgflhgbcfehhaaM1
namespace Go.Proofs.Ytdgflhgbcfehhaa
namespace M3
/-- The k-th byte of a text. -/
def gb (s : ByteArray) (k : Nat) : Nat := if h : k < s.size then s[k].toNat else 0
theorem gb_lt (s : ByteArray) (k : Nat) : gb s k < 256 := by
  unfold gb; split
  · exact UInt8.toNat_lt _
  · omega
theorem gb_eq (s : ByteArray) (k : Nat) (h : k < s.size) : s[k].toNat = gb s k := by simp [gb, h]
abbrev R := Nat × Nat × Bool
def no : R := (0, 0, false)
/-- The program's loop. -/
def tkI (g : Nat → Nat) (len : Nat) (i n : Nat) : R :=
  if i < len then
    if 1000000000 < n * 128 + g i % 128 then no
    else if g i < 128 then (n * 128 + g i % 128, i + 1, true)
    else tkI g len (i + 1) (n * 128 + g i % 128)
  else no
termination_by len - i
/-- The specification's loop. -/
def tkS (g : Nat → Nat) (len at_ : Nat) (k n : Nat) : R :=
  if k < len ∧ k < at_ + 5 then
    if k = at_ ∧ g k = 128 then no
    else if g k < 128 then (if n * 128 + g k % 128 ≤ 1000000000 then (n * 128 + g k % 128, k + 1, true) else no)
    else tkS g len at_ (k + 1) (n * 128 + g k % 128)
  else no
termination_by len - k
theorem tkS_far (g : Nat → Nat) (len at_ : Nat) (k n : Nat) (hn : 1000000000 < n) : tkS g len at_ k n = no := by
  induction h : len - k using Nat.strongRecOn generalizing k n with
  | ind d ih =>
    rw [tkS]
    split
    · split
      · rfl
      · split
        · rw [if_neg (by omega)]
        · exact ih (len - (k + 1)) (by omega) (k + 1) _ (by omega) rfl
    · rfl
/-- From the second byte on both loops come to the same. -/
theorem tk_same (g : Nat → Nat) (len at_ : Nat) (k n : Nat) (hk : at_ < k) (hn : n ≤ 1000000000) (h5 : k ≤ at_ + 5) (hlo : 128 ^ (k - at_ - 1) ≤ n) : tkI g len k n = tkS g len at_ k n := by
  induction h : len - k using Nat.strongRecOn generalizing k n with
  | ind d ih =>
    rw [tkI, tkS]
    have hne : ¬ k = at_ := by omega
    by_cases hl : k < len
    · by_cases h6 : k < at_ + 5
      · by_cases hv : n * 128 + g k % 128 ≤ 1000000000
        · have hv' : ¬ 1000000000 < n * 128 + g k % 128 := by omega
          by_cases hb : g k < 128
          · simp only [hl, h6, hne, hb, hv, hv', if_true, if_false, and_self, false_and]
          · simp only [hl, h6, hne, hb, hv', if_true, if_false, and_self, false_and]
            refine ih (len - (k + 1)) (by omega) (k + 1) _ (by omega) hv (by omega) ?_ rfl
            have e : k + 1 - at_ - 1 = (k - at_ - 1) + 1 := by omega
            rw [e, Nat.pow_succ]; omega
        · have hv' : 1000000000 < n * 128 + g k % 128 := by omega
          by_cases hb : g k < 128
          · simp only [hl, h6, hne, hb, hv, hv', if_true, if_false, and_self, false_and]
          · simp only [hl, h6, hne, hb, hv', if_true, if_false, and_self, false_and]
            exact (tkS_far _ _ _ _ _ hv').symm
      · obtain rfl : k = at_ + 5 := by omega
        have e : at_ + 5 - at_ - 1 = 4 := by omega
        rw [e] at hlo
        have hv' : 1000000000 < n * 128 + g (at_ + 5) % 128 := by omega
        simp only [hl, h6, hv', if_true, if_false, and_false]
    · simp only [hl, if_false, false_and]
/-- Both ways come to the same. -/
theorem tk_all (g : Nat → Nat) (len at_ : Nat) (hl : at_ < len) (hg : g at_ < 256) : (if g at_ = 128 then no else tkI g len at_ 0) = tkS g len at_ at_ 0 := by
  rw [tkS, tkI]
  have h6 : at_ < at_ + 5 := by omega
  have hv : 0 * 128 + g at_ % 128 ≤ 1000000000 := by omega
  have hv' : ¬ 1000000000 < 0 * 128 + g at_ % 128 := by omega
  by_cases h128 : g at_ = 128
  · simp only [hl, h6, h128, if_true, and_self]
  · by_cases hb : g at_ < 128
    · simp only [hl, h6, h128, hb, hv, hv', if_true, if_false, and_self, and_false]
    · simp only [hl, h6, h128, hb, hv', if_true, if_false, and_self, and_false]
      refine tk_same g len at_ (at_ + 1) _ (by omega) (by omega) (by omega) ?_
      have e : at_ + 1 - at_ - 1 = 0 := by omega
      rw [e]; omega
/-- What TakeSdnv answers. -/
def takeF (s : ByteArray) (at_ : Int) : R := if s.size ≤ 400 ∧ 0 ≤ at_ ∧ at_ < s.size then tkS (gb s) s.size at_.toNat at_.toNat 0 else no
theorem or7 (n b : Nat) (hn : n ≤ 1000000000000) (hb : b < 128) : bits .or .i64 ((n : Int) * 128) (b : Int) = ((n * 128 + b : Nat) : Int) := by
  rw [show ((n : Int) * 128) = ((n * 128 : Nat) : Int) from by omega, M1.i64_or_nat (n * 128) b (by omega) (by omega), nat_join 7 (n * 128) b (by omega) (by omega)]
theorem and127b (b : Nat) (hb : b < 256) : bits .and .u8 (b : Int) 127 = ((b % 128 : Nat) : Int) := by
  rw [show (127 : Int) = ((127 : Nat) : Int) from rfl, u8_and_nat b 127 hb (by omega), nat_mask7]
theorem or7i (n b : Nat) (hn : n ≤ 1000000000000) : bits .or .i64 ((n : Int) * 128) ((b : Int) % 128) = ((n * 128 + b % 128 : Nat) : Int) := by
  rw [show ((b : Int) % 128) = ((b % 128 : Nat) : Int) from by omega]; exact or7 n (b % 128) hn (by omega)
end M3
end Go.Proofs.Ytdgflhgbcfehhaa
