/- Boxes of three and of four cells: plain facts, over whatever program. -/
import Derived.WalkKit
import Derived.Below
import Derived.Lib.Buffer
import Derived.Test.YteedppngiknjlaaDoorMBK
namespace Go.Proofs.YteedppngiknjlaaDoor
open Go.RowKit
namespace BK
/-- A box of three cells. -/
structure At3 (w : World) (k : Nat) (a b c : Value) (t : TypeId) : Prop where
  is : w.heap[k]? = some (.cells #[a, b, c] t)
structure At4 (w : World) (k : Nat) (a b c d : Value) (t : TypeId) : Prop where
  is : w.heap[k]? = some (.cells #[a, b, c, d] t)
theorem At3.new (w : World) (a b c : Value) (t : TypeId) (k : Nat) (hk : k = w.heap.size) : At3 (w.alloc (.cells #[a, b, c] t)) k a b c t := ⟨by rw [hk]; exact heap_alloc_new w _⟩
theorem At4.new (w : World) (a b c d : Value) (t : TypeId) (k : Nat) (hk : k = w.heap.size) : At4 (w.alloc (.cells #[a, b, c, d] t)) k a b c d t := ⟨by rw [hk]; exact heap_alloc_new w _⟩
theorem At3.lt {w : World} {k : Nat} {a b c : Value} {t : TypeId} (h : At3 w k a b c t) : k < w.heap.size := (Array.getElem?_eq_some_iff.1 h.is).1
theorem At4.lt {w : World} {k : Nat} {a b c d : Value} {t : TypeId} (h : At4 w k a b c d t) : k < w.heap.size := (Array.getElem?_eq_some_iff.1 h.is).1
theorem At3.below {w w' : World} {k n : Nat} {a b c : Value} {t : TypeId} (h : At3 w k a b c t) (hb : Below n w w') (hk : k < n) : At3 w' k a b c t := ⟨(hb.block k hk).trans h.is⟩
theorem At4.below {w w' : World} {k n : Nat} {a b c d : Value} {t : TypeId} (h : At4 w k a b c d t) (hb : Below n w w') (hk : k < n) : At4 w' k a b c d t := ⟨(hb.block k hk).trans h.is⟩
theorem At3.alloc {w : World} {k : Nat} {a b c : Value} {t : TypeId} (h : At3 w k a b c t) (o : Obj) : At3 (w.alloc o) k a b c t := h.below ((Below.refl _ w).alloc (Nat.le_refl _) o) h.lt
theorem At4.alloc {w : World} {k : Nat} {a b c d : Value} {t : TypeId} (h : At4 w k a b c d t) (o : Obj) : At4 (w.alloc o) k a b c d t := h.below ((Below.refl _ w).alloc (Nat.le_refl _) o) h.lt
theorem At3.cells {w : World} {k : Nat} {a b c : Value} {t : TypeId} (h : At3 w k a b c t) : w.cell? ⟨k, 0, none⟩ = some a ∧ w.cell? ⟨k, 1, none⟩ = some b ∧ w.cell? ⟨k, 2, none⟩ = some c := by
  refine ⟨?_, ?_, ?_⟩ <;> (rw [Lib.cell_of_heap h.is]; rfl)
theorem At4.cells {w : World} {k : Nat} {a b c d : Value} {t : TypeId} (h : At4 w k a b c d t) : w.cell? ⟨k, 0, none⟩ = some a ∧ w.cell? ⟨k, 1, none⟩ = some b ∧ w.cell? ⟨k, 2, none⟩ = some c ∧ w.cell? ⟨k, 3, none⟩ = some d := by
  refine ⟨?_, ?_, ?_, ?_⟩ <;> (rw [Lib.cell_of_heap h.is]; rfl)
theorem At3.free {w : World} {k : Nat} {a b c : Value} {t : TypeId} (h : At3 w k a b c t) (j : Nat) : w.frozen? ⟨k, j, none⟩ = false := by unfold World.frozen?; rw [h.is]; simp
theorem At4.free {w : World} {k : Nat} {a b c d : Value} {t : TypeId} (h : At4 w k a b c d t) (j : Nat) : w.frozen? ⟨k, j, none⟩ = false := by unfold World.frozen?; rw [h.is]; simp
end BK
end Go.Proofs.YteedppngiknjlaaDoor
