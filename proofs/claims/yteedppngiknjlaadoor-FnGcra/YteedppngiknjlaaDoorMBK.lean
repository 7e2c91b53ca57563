/- Buckets and cells: plain facts, over whatever program. -/
import Derived.WalkKit
import Derived.Below
namespace Go.Proofs.YteedppngiknjlaaDoor
structure Bk where
  p : Int
  u : Int
  l : Int
  t : Int
  deriving DecidableEq
structure Ce where
  p : Int
  u : Int
  d : Int
  deriving DecidableEq
abbrev Bk.v (b : Bk) : Value := .agg #[.int .i64 b.p, .int .i64 b.u, .int .i64 b.l, .int .i64 b.t]
abbrev Ce.v (b : Ce) : Value := .agg #[.int .i64 b.p, .int .i64 b.u, .int .i64 b.d]
theorem retB13 {a b : Bool} (h : a = b) : Ending.returned (.bool a) = .returned (.bool b) := by rw [h]
theorem retIB13 {a b : Int} {c d : Bool} (h : a = b) (h' : c = d) : Ending.returned (.tuple #[.int .i64 a, .bool c]) = .returned (.tuple #[.int .i64 b, .bool d]) := by rw [h, h']
theorem retBB13 {a b : Bk} {c d : Bool} (h : a = b) (h' : c = d) : Ending.returned (.tuple #[a.v, .bool c]) = .returned (.tuple #[b.v, .bool d]) := by rw [h, h']
theorem retCB13 {a b : Ce} {c d : Bool} (h : a = b) (h' : c = d) : Ending.returned (.tuple #[a.v, .bool c]) = .returned (.tuple #[b.v, .bool d]) := by rw [h, h']
theorem retBBB13 {a b : Bk} {c d e f : Bool} (h : a = b) (h' : c = d) (h'' : e = f) : Ending.returned (.tuple #[a.v, .bool c, .bool e]) = .returned (.tuple #[b.v, .bool d, .bool f]) := by rw [h, h', h'']
theorem retCBB13 {a b : Ce} {c d e f : Bool} (h : a = b) (h' : c = d) (h'' : e = f) : Ending.returned (.tuple #[a.v, .bool c, .bool e]) = .returned (.tuple #[b.v, .bool d, .bool f]) := by rw [h, h', h'']
namespace BK
/-- Pace and Burst that there may be. -/
def okS (p u : Int) : Bool := decide (1 ≤ p ∧ p ≤ 50 ∧ 1 ≤ u ∧ u ≤ 20)
/-- A time that may be asked. -/
def okT (n : Int) : Bool := decide (0 ≤ n ∧ n ≤ 1000000)
theorem okS_iff {p u : Int} : okS p u = true ↔ 1 ≤ p ∧ p ≤ 50 ∧ 1 ≤ u ∧ u ≤ 20 := by simp only [okS, decide_eq_true_eq]
theorem okT_iff {n : Int} : okT n = true ↔ 0 ≤ n ∧ n ≤ 1000000 := by simp only [okT, decide_eq_true_eq]
theorem okT_no {n : Int} (h : okT n = false) : ¬ (0 ≤ n ∧ n ≤ 1000000) := by simpa only [okT, decide_eq_false_iff_not] using h
/-- Pace times Burst is small. -/
theorem mul_small {p u : Int} (h : okS p u = true) : 1 ≤ p * u ∧ p * u ≤ 1000 := by
  obtain ⟨a, b, c, d⟩ := okS_iff.1 h
  constructor
  · have := Int.mul_le_mul a c (by omega) (by omega); omega
  · have := Int.mul_le_mul b d (by omega) (by omega); omega
theorem mul_less {p u : Int} (h : okS p u = true) : 0 ≤ p * (u - 1) ∧ p * (u - 1) ≤ 950 ∧ p * (u - 1) + p = p * u := by
  obtain ⟨a, b, c, d⟩ := okS_iff.1 h
  refine ⟨Int.mul_nonneg (by omega) (by omega), ?_, ?_⟩
  · have := Int.mul_le_mul b (show u - 1 ≤ 19 by omega) (by omega) (by omega); omega
  · rw [Int.mul_sub]; omega
def zB : Bk := ⟨0, 0, 0, 0⟩
def zC : Ce := ⟨0, 0, 0⟩
def newB (p u : Int) : Bk := if okS p u = true then ⟨p, u, 0, 0⟩ else zB
def newC (p u : Int) : Ce := if okS p u = true then ⟨p, u, 0⟩ else zC
def mostI (p u n : Int) : Int := if (okS p u && okT n) = true then u + n.tdiv p else 0
def goodB (b : Bk) : Bool := okS b.p b.u && decide (0 ≤ b.l ∧ b.l ≤ b.p * b.u) && okT b.t
def goodC (c : Ce) : Bool := okS c.p c.u && decide (0 ≤ c.d ∧ c.d ≤ 2000000)
/-- What a good bucket is. -/
structure GB (b : Bk) : Prop where
  s : okS b.p b.u = true
  l0 : 0 ≤ b.l
  l1 : b.l ≤ b.p * b.u
  t0 : 0 ≤ b.t
  t1 : b.t ≤ 1000000
theorem goodB_iff {b : Bk} : goodB b = true ↔ GB b := by
  simp only [goodB, Bool.and_eq_true, decide_eq_true_eq, okT_iff]
  exact ⟨fun ⟨⟨a, b, c⟩, d, e⟩ => ⟨a, b, c, d, e⟩, fun ⟨a, b, c, d, e⟩ => ⟨⟨a, b, c⟩, d, e⟩⟩
structure GC (c : Ce) : Prop where
  s : okS c.p c.u = true
  d0 : 0 ≤ c.d
  d1 : c.d ≤ 2000000
theorem goodC_iff {c : Ce} : goodC c = true ↔ GC c := by
  simp only [goodC, Bool.and_eq_true, decide_eq_true_eq]
  exact ⟨fun ⟨a, b, c⟩ => ⟨a, b, c⟩, fun ⟨a, b, c⟩ => ⟨a, b, c⟩⟩
/-- A bucket may be asked at that time. -/
def levOk (b : Bk) (n : Int) : Bool := goodB b && okT n && decide (b.t ≤ n)
theorem levOk_iff {b : Bk} {n : Int} : levOk b n = true ↔ GB b ∧ n ≤ 1000000 ∧ b.t ≤ n := by
  simp only [levOk, Bool.and_eq_true, decide_eq_true_eq, okT_iff, goodB_iff]
  exact ⟨fun ⟨⟨a, b, c⟩, d⟩ => ⟨a, c, d⟩, fun ⟨a, c, d⟩ => ⟨⟨a, by have := a.t0; omega, c⟩, d⟩⟩
def lvl (b : Bk) (n : Int) : Int := if b.l - (n - b.t) < 0 then 0 else b.l - (n - b.t)
def lev (b : Bk) (n : Int) : Int := if levOk b n = true then lvl b n else 0
def letB (b : Bk) (n : Int) : Bool := levOk b n && decide (lvl b n + b.p ≤ b.p * b.u)
def ask (b : Bk) (n : Int) : Bk := if levOk b n = true then ⟨b.p, b.u, if letB b n = true then lvl b n + b.p else lvl b n, n⟩ else zB
def dueOk (c : Ce) (n : Int) : Bool := goodC c && okT n
theorem dueOk_iff {c : Ce} {n : Int} : dueOk c n = true ↔ GC c ∧ 0 ≤ n ∧ n ≤ 1000000 := by
  simp only [dueOk, Bool.and_eq_true, okT_iff, goodC_iff]
def letC (c : Ce) (n : Int) : Bool := dueOk c n && decide (c.d ≤ n + c.p * (c.u - 1))
def duN (c : Ce) (n : Int) : Int := (if c.d < n then n else c.d) + c.p
def askC (c : Ce) (n : Int) : Ce := if letC c n = true then ⟨c.p, c.u, duN c n⟩ else if dueOk c n = true then c else zC
end BK
end Go.Proofs.YteedppngiknjlaaDoor
