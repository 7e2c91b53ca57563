/- What TakeHead answers at a place of a text: plain facts, no program is named here. -/
import Derived.Test.YtcpfbgogfhlmjaaDoorM9
import Derived.Test.YtcpfbgogfhlmjaaDoorM3
import Derived.Lib.Strings
namespace Go.Proofs.YtcpfbgogfhlmjaaDoor
namespace M10
abbrev R := Nat × Nat × Nat × Bool
def no : R := (0, 0, 0, false)
/-- The answer at a place within the text. -/
def hdR (s : ByteArray) (a : Nat) : R := match M7.hd ((M8.bl s).drop a) with
  | none => no
  | some (m, n, c) => (m, n, a + c, true)
theorem bl_at (s : ByteArray) (a : Nat) (h : a < s.size) : (M8.bl s).drop a = UInt8.ofNat (M3.gb s a) :: (M8.bl s).drop (a + 1) := by
  have hl : a < (M8.bl s).length := by rw [M8.bl_len]; exact h
  rw [List.drop_eq_getElem_cons hl]
  congr 1
  have : (M8.bl s)[a] = s[a] := by simp only [M8.bl, Array.getElem_toList]; rfl
  rw [this, ← M3.gb_eq s a h]; simp; rfl
theorem gb_u8 (s : ByteArray) (a : Nat) : (UInt8.ofNat (M3.gb s a)).toNat = M3.gb s a := by
  have := M3.gb_lt s a; simp; omega
/-- The number in the k bytes behind place a. -/
def nk (s : ByteArray) (a k : Nat) : Nat := M7.be (((M8.bl s).drop (a + 1)).take k)
theorem nk_zero (s : ByteArray) (a : Nat) : nk s a 0 = 0 := by simp [nk, M7.be]
theorem nk_succ (s : ByteArray) (a k : Nat) (h : a + 1 + k < s.size) : nk s a (k + 1) = nk s a k * 256 + M3.gb s (a + 1 + k) := by
  unfold nk
  have hl : k < ((M8.bl s).drop (a + 1)).length := by rw [List.length_drop, M8.bl_len]; omega
  rw [List.take_succ_eq_append_getElem hl, M7.be_snoc]
  congr 1
  have h1 := bl_at s (a + 1 + k) h
  have h2 : ((M8.bl s).drop (a + 1))[k] = UInt8.ofNat (M3.gb s (a + 1 + k)) := by
    have : ((M8.bl s).drop (a + 1))[k]? = some (UInt8.ofNat (M3.gb s (a + 1 + k))) := by
      rw [List.getElem?_drop, ← List.head?_drop, h1]; rfl
    rw [List.getElem?_eq_getElem hl] at this; simpa using this
  rw [h2, gb_u8]
theorem nk_lt (s : ByteArray) (a k : Nat) (h : a + k < s.size) : nk s a k < 256 ^ k := by
  induction k with
  | zero => simp [nk_zero]
  | succ k ih =>
    rw [nk_succ s a k (by omega), Nat.pow_succ]
    have := ih (by omega); have := M3.gb_lt s (a + 1 + k); omega
theorem ext_bl (s : ByteArray) (a b : Nat) : M8.bl (s.extract a b) = ((M8.bl s).drop a).take (b - a) := by
  unfold M8.bl; rw [Lib.extract_data]
theorem hdR_low {s : ByteArray} {a : Nat} (h : a < s.size) (h1 : M3.gb s a % 32 < 24) : hdR s a = (M3.gb s a / 32, M3.gb s a % 32, a + 1, true) := by
  unfold hdR; rw [bl_at s a h, M7.hd_cons, gb_u8, if_pos h1]
theorem hdR_high {s : ByteArray} {a : Nat} (h : a < s.size) (h1 : 26 < M3.gb s a % 32) : hdR s a = no := by
  unfold hdR; rw [bl_at s a h, M7.hd_cons, gb_u8, if_neg (by omega), if_pos h1]
theorem hdR_short {s : ByteArray} {a : Nat} (h : a < s.size) (h1 : ¬ M3.gb s a % 32 < 24) (h2 : ¬ 26 < M3.gb s a % 32) (h3 : s.size < a + 1 + M7.more (M3.gb s a % 32)) : hdR s a = no := by
  unfold hdR; rw [bl_at s a h, M7.hd_cons, gb_u8, if_neg h1, if_neg h2, if_pos (by rw [List.length_drop, M8.bl_len]; omega)]
theorem hdR_yes {s : ByteArray} {a : Nat} {k : Nat} (h : a < s.size) (h1 : ¬ M3.gb s a % 32 < 24) (h2 : ¬ 26 < M3.gb s a % 32) (hk : M7.more (M3.gb s a % 32) = k) (h3 : a + 1 + k ≤ s.size)
    (h4 : nk s a k ≤ 1000000000) (h5 : (⟨(M7.hb (M3.gb s a / 32) (nk s a k)).toArray⟩ : ByteArray) = s.extract a (a + 1 + k)) : hdR s a = (M3.gb s a / 32, nk s a k, a + 1 + k, true) := by
  have h6 := congrArg M8.bl h5
  rw [ext_bl, show a + 1 + k - a = 1 + k from by omega, bl_at s a h] at h6
  unfold hdR; rw [bl_at s a h, M7.hd_cons, gb_u8, hk, if_neg h1, if_neg h2, if_neg (by rw [List.length_drop, M8.bl_len]; omega)]
  rw [if_pos ⟨h4, h6⟩]
  simp only [nk, Nat.add_assoc]
theorem hdR_not {s : ByteArray} {a : Nat} {k : Nat} (h : a < s.size) (h1 : ¬ M3.gb s a % 32 < 24) (h2 : ¬ 26 < M3.gb s a % 32) (hk : M7.more (M3.gb s a % 32) = k) (h3 : a + 1 + k ≤ s.size)
    (h4 : ¬ (nk s a k ≤ 1000000000 ∧ (⟨(M7.hb (M3.gb s a / 32) (nk s a k)).toArray⟩ : ByteArray) = s.extract a (a + 1 + k))) : hdR s a = no := by
  unfold hdR; rw [bl_at s a h, M7.hd_cons, gb_u8, hk, if_neg h1, if_neg h2, if_neg (by rw [List.length_drop, M8.bl_len]; omega)]
  rw [if_neg]
  intro hc
  refine h4 ⟨hc.1, M8.bl_inj ?_⟩
  rw [ext_bl, show a + 1 + k - a = 1 + k from by omega, bl_at s a h, ← hc.2]; rfl
/-- The low head, as the specification makes it again. -/
theorem low_ext {s : ByteArray} {a : Nat} (h : a < s.size) (h1 : M3.gb s a % 32 < 24) : (⟨(M7.hb (M3.gb s a / 32) (M3.gb s a % 32)).toArray⟩ : ByteArray) = s.extract a (a + 1) := by
  apply M8.bl_inj
  rw [ext_bl, show a + 1 - a = 1 from by omega, bl_at s a h]
  have := M7.hb_low (UInt8.ofNat (M3.gb s a)) (by rw [gb_u8]; exact h1)
  rw [gb_u8] at this
  rw [this]; rfl
/-- What TakeHead answers. -/
def hdF (s : ByteArray) (x : Int) : R := if s.size ≤ 400 ∧ 0 ≤ x ∧ x < s.size then hdR s x.toNat else no
theorem hdF_no {s : ByteArray} {x : Int} (h : ¬ (s.size ≤ 400 ∧ 0 ≤ x ∧ x < s.size)) : hdF s x = no := if_neg h
theorem hdF_yes {s : ByteArray} {a : Nat} (h1 : s.size ≤ 400) (h2 : a < s.size) : hdF s (a : Int) = hdR s a := by
  unfold hdF; rw [if_pos ⟨h1, by omega, by omega⟩]; rfl
theorem or8 (n b : Nat) (hn : n ≤ 1000000000000) (hb : b < 256) : bits .or .i64 ((n : Int) * 256) (b : Int) = ((n * 256 + b : Nat) : Int) := by
  rw [show ((n : Int) * 256) = ((n * 256 : Nat) : Int) from by omega, M1.i64_or_nat (n * 256) b (by omega) (by omega), nat_join 8 (n * 256) b (by omega) (by omega)]
abbrev t4 (T : R) : Value := .tuple #[.int .i64 (T.1 : Int), .int .i64 (T.2.1 : Int), .int .i64 (T.2.2.1 : Int), .bool T.2.2.2]
theorem ret4 {a b c : Int} {d : Bool} {T : R} {m n k : Nat} (h : T = (m, n, k, d)) (ha : a = m) (hb : b = n) (hc : c = k) : Ending.returned (.tuple #[.int .i64 a, .int .i64 b, .int .i64 c, .bool d]) = .returned (t4 T) := by
  rw [h, ha, hb, hc]
end M10
end Go.Proofs.YtcpfbgogfhlmjaaDoor
