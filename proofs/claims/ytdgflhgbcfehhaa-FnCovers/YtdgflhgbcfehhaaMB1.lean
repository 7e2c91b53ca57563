/- Bundles (chapter 3): plain facts, no program is named here. -/
import Derived.Test.YtdgflhgbcfehhaaOkN
import Derived.WalkKit
import Derived.Below
namespace Go.Proofs.Ytdgflhgbcfehhaa
open Go.RowKit
/-- A bundle. -/
structure Bd where
  fr : Int
  to : Int
  gr : Bool
  md : Int
  no : Int
  lf : Int
  hp : Int
  of : Int
  tl : Int
  py : ByteArray
abbrev Bd.v (b : Bd) : Value := .agg #[.int .i64 b.fr, .int .i64 b.to, .bool b.gr, .int .i64 b.md, .int .i64 b.no, .int .i64 b.lf, .int .i64 b.hp, .int .i64 b.of, .int .i64 b.tl, .string b.py]
abbrev Bd.head (b : Bd) : Value := .agg #[.int .i64 b.fr, .int .i64 b.to, .bool b.gr, .int .i64 b.md, .int .i64 b.no, .int .i64 b.lf, .int .i64 b.hp]
/-- A parcel lies as its bundle does. -/
abbrev Bd.parcel (b : Bd) : Value := b.v
/-- A bundle lies in a block. -/
def BdAt (w : World) (k : Nat) (b : Bd) : Prop := k < w.heap.size ∧ w.cell? ⟨k, 0, none⟩ = some (.int .i64 b.fr) ∧ w.cell? ⟨k, 1, none⟩ = some (.int .i64 b.to) ∧ w.cell? ⟨k, 2, none⟩ = some (.bool b.gr) ∧ w.cell? ⟨k, 3, none⟩ = some (.int .i64 b.md) ∧ w.cell? ⟨k, 4, none⟩ = some (.int .i64 b.no) ∧ w.cell? ⟨k, 5, none⟩ = some (.int .i64 b.lf) ∧ w.cell? ⟨k, 6, none⟩ = some (.int .i64 b.hp) ∧ w.cell? ⟨k, 7, none⟩ = some (.int .i64 b.of) ∧ w.cell? ⟨k, 8, none⟩ = some (.int .i64 b.tl) ∧ w.cell? ⟨k, 9, none⟩ = some (.string b.py)
theorem BdAt.below {w w' : World} {k B : Nat} {b : Bd} (h : BdAt w k b) (hb : Below B w w') (hk : k < B) : BdAt w' k b := by
  obtain ⟨h0, q0, q1, q2, q3, q4, q5, q6, q7, q8, q9⟩ := h
  exact ⟨Nat.lt_of_lt_of_le h0 hb.size, (hb.cell (p := ⟨k, 0, none⟩) hk).trans q0, (hb.cell (p := ⟨k, 1, none⟩) hk).trans q1, (hb.cell (p := ⟨k, 2, none⟩) hk).trans q2, (hb.cell (p := ⟨k, 3, none⟩) hk).trans q3, (hb.cell (p := ⟨k, 4, none⟩) hk).trans q4, (hb.cell (p := ⟨k, 5, none⟩) hk).trans q5, (hb.cell (p := ⟨k, 6, none⟩) hk).trans q6, (hb.cell (p := ⟨k, 7, none⟩) hk).trans q7, (hb.cell (p := ⟨k, 8, none⟩) hk).trans q8, (hb.cell (p := ⟨k, 9, none⟩) hk).trans q9⟩
theorem BdAt.box (w : World) (b : Bd) (t : TypeId) : BdAt (w.alloc (.cells #[.int .i64 b.fr, .int .i64 b.to, .bool b.gr, .int .i64 b.md, .int .i64 b.no, .int .i64 b.lf, .int .i64 b.hp, .int .i64 b.of, .int .i64 b.tl, .string b.py] t)) w.heap.size b := by
  refine ⟨by simp, ?_, ?_, ?_, ?_, ?_, ?_, ?_, ?_, ?_, ?_⟩ <;> simp
theorem BdAt.box' (w : World) (b : Bd) (t : TypeId) (k : Nat) (hk : k = w.heap.size) : BdAt (w.alloc (.cells #[.int .i64 b.fr, .int .i64 b.to, .bool b.gr, .int .i64 b.md, .int .i64 b.no, .int .i64 b.lf, .int .i64 b.hp, .int .i64 b.of, .int .i64 b.tl, .string b.py] t)) k b := hk ▸ BdAt.box w b t
namespace B1
def head (b : Bd) : Bool := inB b.fr 0 40 && inB b.to 0 40 && inB b.md 0 1000000 && inB b.no 0 1000 && inB b.lf 1 1000000 && inB b.hp 0 30
def placed (b : Bd) : Bool := if b.tl = 0 then decide (b.of = 0) else inB b.tl 1 60 && decide (0 < b.py.size) && inB b.of 0 (b.tl - b.py.size)
/-- A good bundle. -/
def good (b : Bd) : Bool := head b && decide (b.py.size ≤ 60) && placed b
theorem inB_yes {n lo hi : Int} (h : lo ≤ n ∧ n ≤ hi) : inB n lo hi = true := by simp [inB, h]
theorem inB_no {n lo hi : Int} (h : ¬ (lo ≤ n ∧ n ≤ hi)) : inB n lo hi = false := by simp [inB, h]
theorem inB_is {n lo hi : Int} (h : inB n lo hi = true) : lo ≤ n ∧ n ≤ hi := by simpa [inB] using h
/-- In the specification's words. -/
theorem placed_spec (b : Bd) : placed b = (inB b.tl 0 60 && inB b.of 0 b.tl && (decide (b.tl = 0) || (decide (0 < b.py.size) && decide (b.of + b.py.size ≤ b.tl)))) := by
  unfold placed inB
  by_cases h : b.tl = 0
  · rw [if_pos h, h]
    by_cases h2 : b.of = 0
    · simp [h2]
    · simp [h2]; omega
  · rw [if_neg h]
    have e : decide (b.tl = 0) = false := by simp [h]
    rw [e, Bool.eq_iff_iff]
    simp
    omega
theorem good_is {b : Bd} (h : good b = true) : (0 ≤ b.fr ∧ b.fr ≤ 40) ∧ (0 ≤ b.to ∧ b.to ≤ 40) ∧ (0 ≤ b.md ∧ b.md ≤ 1000000) ∧ (0 ≤ b.no ∧ b.no ≤ 1000) ∧ (1 ≤ b.lf ∧ b.lf ≤ 1000000) ∧ (0 ≤ b.hp ∧ b.hp ≤ 30) ∧ b.py.size ≤ 60 ∧ (0 ≤ b.tl ∧ b.tl ≤ 60) ∧ (0 ≤ b.of ∧ b.of ≤ b.tl) := by
  unfold good at h
  rw [placed_spec] at h
  simp [head, inB] at h
  omega
/-- What IsOver says. -/
def overOk (b : Bd) (n : Int) : Bool := good b && inB n 0 2000000
def over (b : Bd) (n : Int) : Bool := overOk b n && decide (b.md + b.lf < n)
/-- What HopBundle says. -/
def hopOk (b : Bd) : Bool := good b && decide (b.hp ≠ 0)
def zero : Bd := ⟨0, 0, false, 0, 0, 0, 0, 0, 0, ⟨#[]⟩⟩
def hop (b : Bd) : Bd := if hopOk b = true then { b with hp := b.hp - 1 } else zero
theorem nil_iff (s : ByteArray) : (s.toList = []) ↔ s.size = 0 := by
  rw [ByteArray.toList_eq, ← List.length_eq_zero_iff]; simp
theorem empty_iff (s : ByteArray) : s.toList.isEmpty = decide (s.size = 0) := by
  rw [Bool.eq_iff_iff, List.isEmpty_iff, nil_iff]; simp
end B1
end Go.Proofs.Ytdgflhgbcfehhaa
