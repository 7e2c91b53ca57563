/- Boxes beside a cursor: plain facts, over whatever program. -/
import Derived.Test.YteedppngiknjlaaDoorMBT
import Derived.Test.YteedppngiknjlaaDoorMCur
namespace Go.Proofs.YteedppngiknjlaaDoor
open Go.RowKit
namespace BK
theorem At3.only {w w' : World} {k p : Nat} {a b c : Value} {t : TypeId} (h : At3 w k a b c t) (ho : MC.Only p w w') (hp : k ≠ p) : At3 w' k a b c t := ⟨(ho.block k h.lt hp).trans h.is⟩
theorem At3.put {w : World} {k : Nat} {a b c : Value} {t : TypeId} (h : At3 w k a b c t) (a' b' c' : Value) : At3 (((w.setCell ⟨k, 0, none⟩ a').setCell ⟨k, 1, none⟩ b').setCell ⟨k, 2, none⟩ c') k a' b' c' t := by
  have h0 := set_at (j := 0) (v := a') h.is
  have h1 := set_at (j := 1) (v := b') h0
  have h2 := set_at (j := 2) (v := c') h1
  exact ⟨h2⟩
theorem At3.put2 {w : World} {k : Nat} {a b c : Value} {t : TypeId} (h : At3 w k a b c t) (c' : Value) : At3 (w.setCell ⟨k, 2, none⟩ c') k a b c' t := ⟨set_at (j := 2) (v := c') h.is⟩
theorem set_block (w : World) (g j k : Nat) (v : Value) (h : k ≠ g) : (w.setCell ⟨g, j, none⟩ v).heap[k]? = w.heap[k]? := by
  unfold World.setCell
  simp only [Array.getElem?_modify]
  rw [if_neg (by simpa using Ne.symm h)]
theorem At3.far {w : World} {k g j : Nat} {a b c v : Value} {t : TypeId} (h : At3 w k a b c t) (hg : k ≠ g) : At3 (w.setCell ⟨g, j, none⟩ v) k a b c t := ⟨(set_block w g j k v hg).trans h.is⟩
theorem only_set {p g j : Nat} {a w : World} {v : Value} (h : MC.Only p a w) (hg : a.heap.size ≤ g) : MC.Only p a (w.setCell ⟨g, j, none⟩ v) :=
  ⟨h.os, h.tape, h.output, by have := h.size; simpa using this, fun k hk hp => (set_block w g j k v (by omega)).trans (h.block k hk hp)⟩
theorem cur_set {w : World} {p cap M g j : Nat} {a : Option Addr} {zs : List Int} {v : Value} (h : MC.Cur w p a zs cap M) (hg : p < g) : MC.Cur (w.setCell ⟨g, j, none⟩ v) p a zs cap M :=
  h.same (by simp) (fun k hk => set_block w g j k v (by omega))
end BK
end Go.Proofs.YteedppngiknjlaaDoor
