/- A box of several cells: plain facts, over whatever program. -/
import Derived.Test.YtfkmnmiolnijaaaMCur
import Derived.Below
import Derived.Lib.Buffer
namespace Go.Proofs.Ytfkmnmiolnijaaa
open Go.RowKit
/-- A box of several cells. -/
structure BxN (w : World) (k : Nat) (vs : List Value) (t : TypeId) : Prop where
  is : w.heap[k]? = some (.cells vs.toArray t (0, 0))
namespace BxN
theorem new (w : World) (vs : List Value) (t : TypeId) {k : Nat} (hk : k = w.heap.size) : BxN (w.alloc (.cells vs.toArray t)) k vs t := ⟨by rw [hk]; exact heap_alloc_new w _⟩
variable {w w' : World} {k : Nat} {vs : List Value} {t : TypeId}
theorem lt (h : BxN w k vs t) : k < w.heap.size := (Array.getElem?_eq_some_iff.1 h.is).1
theorem below {n : Nat} (h : BxN w k vs t) (hb : Below n w w') (hk : k < n) : BxN w' k vs t := ⟨(hb.block k hk).trans h.is⟩
theorem only {p : Nat} (h : BxN w k vs t) (ho : MC.Only p w w') (hk : k ≠ p) : BxN w' k vs t := ⟨(ho.block k h.lt hk).trans h.is⟩
theorem alloc (h : BxN w k vs t) (o : Obj) : BxN (w.alloc o) k vs t := h.below ((Below.refl _ w).alloc (Nat.le_refl _) o) h.lt
theorem cell (h : BxN w k vs t) (i : Nat) {u : Value} (hu : vs[i]? = some u) : w.cell? ⟨k, i, none⟩ = some u := by
  have hl : i < vs.length := (List.getElem?_eq_some_iff.1 hu).1
  simp [World.cell?, h.is, hu]
theorem free (h : BxN w k vs t) (j : Nat) : w.frozen? ⟨k, j, none⟩ = false := by unfold World.frozen?; rw [h.is]; simp
theorem set (h : BxN w k vs t) (i : Nat) (x : Value) : BxN (w.setCell ⟨k, i, none⟩ x) k (vs.set i x) t := by
  obtain ⟨hlt, hk⟩ := Array.getElem?_eq_some_iff.1 h.is
  refine ⟨?_⟩
  show (w.heap.modify k _)[k]? = _
  rw [Array.getElem?_eq_getElem (by rw [Array.size_modify]; exact hlt), Array.getElem_modify_self, hk]
  simp
theorem setO (h : BxN w k vs t) {p i : Nat} (x : Value) (hp : k ≠ p) : BxN (w.setCell ⟨p, i, none⟩ x) k vs t := h.only ((MC.Only.refl p w).setCell i x) hp
end BxN
end Go.Proofs.Ytfkmnmiolnijaaa
