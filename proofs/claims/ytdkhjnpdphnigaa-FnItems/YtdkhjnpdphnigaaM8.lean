/- Items as values and as cells (chapter 2): plain facts, no program is named here. -/
import Derived.Test.YtdkhjnpdphnigaaM7
import Derived.Test.YtdkhjnpdphnigaaM4
namespace Go.Proofs.Ytdkhjnpdphnigaa
/-- An item. -/
structure It where
  kind : Int
  num : Int
  text : ByteArray
  many : Int
abbrev It.v (x : It) : Value := .agg #[.int .i64 x.kind, .int .i64 x.num, .string x.text, .int .i64 x.many]
namespace M8
/-- A text's bytes. -/
def bl (s : ByteArray) : List UInt8 := s.data.toList
theorem bl_len (s : ByteArray) : (bl s).length = s.size := by simp [bl]
theorem bl_inj {s t : ByteArray} (h : bl s = bl t) : s = t := by
  apply ByteArray.ext; apply Array.ext'; exact h
theorem beq_yes {a b : ByteArray} (h : a = b) : (a.toList == b.toList) = true := by rw [h]; simp
theorem beq_no {a b : ByteArray} (h : ¬ a = b) : (a.toList == b.toList) = false := by
  rw [beq_eq_false_iff_ne, ByteArray.toList_eq, ByteArray.toList_eq]
  intro e
  exact h (ByteArray.ext (by rw [← Array.toList_inj]; exact e))
theorem nil_no {a : ByteArray} (h : ¬ a = ⟨#[]⟩) : (a.toList == []) = false := by
  have := beq_no h
  simpa using this
def zero : It := ⟨0, 0, ⟨#[]⟩, 0⟩
def same (x y : It) : Bool := decide (x.kind = y.kind) && decide (x.num = y.num) && decide (x.text = y.text) && decide (x.many = y.many)
theorem same_iff (x y : It) : same x y = true ↔ x = y := by
  cases x; cases y; simp [same, and_assoc]
theorem same_self (x : It) : same x x = true := (same_iff x x).2 rfl
end M8
end Go.Proofs.Ytdkhjnpdphnigaa
