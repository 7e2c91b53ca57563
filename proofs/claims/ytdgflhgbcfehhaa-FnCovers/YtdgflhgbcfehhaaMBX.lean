/- A bundle in a box of its own, which a function fills field by field: plain facts. -/
import Derived.Test.YtdgflhgbcfehhaaMP1
import Derived.WalkKit
import Derived.Lib.Buffer
import Derived.Test.YtdgflhgbcfehhaaMCur
import Derived.Below
import Derived.OwnWalk
import Derived.Laws.OwnMore
namespace Go.Proofs.Ytdgflhgbcfehhaa
namespace BX
open Go.RowKit
abbrev cs (b : Bd) : List Value := b.cs
theorem set_at {w : World} {k j : Nat} {cs : Array Value} {t : TypeId} {v : Value} (h : w.heap[k]? = some (.cells cs t)) : (w.setCell ⟨k, j, none⟩ v).heap[k]? = some (.cells (cs.setIfInBounds j v) t) := by
  have hk : k < w.heap.size := (Array.getElem?_eq_some_iff.1 h).1
  unfold World.setCell
  simp only [Array.getElem?_modify, if_true, h]
  rfl
/-- The bundle b lies in block k. -/
structure Box (w : World) (k T : Nat) (b : Bd) : Prop where
  is : w.heap[k]? = some (.cells (cs b).toArray T)
theorem Box.new (w : World) (T : Nat) (b : Bd) (k : Nat) (hk : k = w.heap.size) : Box (w.alloc (.cells (cs b).toArray T)) k T b := ⟨by rw [hk]; exact heap_alloc_new w _⟩
theorem Box.lt {w : World} {k T : Nat} {b : Bd} (h : Box w k T b) : k < w.heap.size := (Array.getElem?_eq_some_iff.1 h.is).1
theorem Box.only {w w' : World} {k T p : Nat} {b : Bd} (h : Box w k T b) (ho : MC.Only p w w') (hp : k ≠ p) : Box w' k T b := ⟨(ho.block k h.lt hp).trans h.is⟩
theorem Box.below {w w' : World} {k T B : Nat} {b : Bd} (h : Box w k T b) (hb : Below B w w') (hp : k < B) : Box w' k T b := ⟨(hb.block k hp).trans h.is⟩
theorem Box.alloc {w : World} {k T : Nat} {b : Bd} (h : Box w k T b) (o : Obj) : Box (w.alloc o) k T b := h.below ((Below.refl _ w).alloc (Nat.le_refl _) o) h.lt
theorem Box.cells {w : World} {k T : Nat} {b : Bd} (h : Box w k T b) (j : Nat) : w.cell? ⟨k, j, none⟩ = (cs b).toArray[j]? := Lib.cell_of_heap h.is j
theorem Box.free {w : World} {k T : Nat} {b : Bd} (h : Box w k T b) (j : Nat) : w.frozen? ⟨k, j, none⟩ = false := by unfold World.frozen?; rw [h.is]; simp
theorem Box.set {w : World} {k T j : Nat} {b b' : Bd} {v : Value} (h : Box w k T b) (he : (cs b).set j v = cs b') : Box (w.setCell ⟨k, j, none⟩ v) k T b' := ⟨by rw [set_at (j := j) (v := v) h.is, List.setIfInBounds_toArray, he]⟩
theorem set_block (w : World) (g j k : Nat) (v : Value) (h : k ≠ g) : (w.setCell ⟨g, j, none⟩ v).heap[k]? = w.heap[k]? := by
  unfold World.setCell
  simp only [Array.getElem?_modify]
  rw [if_neg (by simpa using Ne.symm h)]
theorem only_set {p g j : Nat} {a w : World} {v : Value} (h : MC.Only p a w) (hg : a.heap.size ≤ g) : MC.Only p a (w.setCell ⟨g, j, none⟩ v) :=
  ⟨h.os, h.tape, h.output, by have := h.size; simpa using this, fun k hk hp => (set_block w g j k v (by omega)).trans (h.block k hk hp)⟩
theorem cur_set {w : World} {p cap M g j : Nat} {a : Option Addr} {zs : List Int} {v : Value} (h : MC.Cur w p a zs cap M) (hg : p < g) : MC.Cur (w.setCell ⟨g, j, none⟩ v) p a zs cap M :=
  h.same (by simp) (fun k hk => set_block w g j k v (by omega))
theorem Box.far {w : World} {k T g j : Nat} {b : Bd} {v : Value} (h : Box w k T b) (hg : k ≠ g) : Box (w.setCell ⟨g, j, none⟩ v) k T b := ⟨(set_block w g j k v hg).trans h.is⟩
theorem Box.put {w : World} {k T : Nat} {b : Bd} (h : Box w k T b) (b' : Bd) : Box ((((((((((w.setCell ⟨k, 0, none⟩ (.int .i64 b'.fr)).setCell ⟨k, 1, none⟩ (.int .i64 b'.to)).setCell ⟨k, 2, none⟩ (.bool b'.gr)).setCell ⟨k, 3, none⟩ (.int .i64 b'.md)).setCell ⟨k, 4, none⟩ (.int .i64 b'.no)).setCell ⟨k, 5, none⟩ (.int .i64 b'.lf)).setCell ⟨k, 6, none⟩ (.int .i64 b'.hp)).setCell ⟨k, 7, none⟩ (.int .i64 b'.of)).setCell ⟨k, 8, none⟩ (.int .i64 b'.tl)).setCell ⟨k, 9, none⟩ (.string b'.py)) k T b' := ((((((((((h.set (j := 0) (v := .int .i64 b'.fr) (b' := { b with fr := b'.fr }) rfl).set (j := 1) (v := .int .i64 b'.to) (b' := { b with fr := b'.fr, to := b'.to }) rfl).set (j := 2) (v := .bool b'.gr) (b' := { b with fr := b'.fr, to := b'.to, gr := b'.gr }) rfl).set (j := 3) (v := .int .i64 b'.md) (b' := { b with fr := b'.fr, to := b'.to, gr := b'.gr, md := b'.md }) rfl).set (j := 4) (v := .int .i64 b'.no) (b' := { b with fr := b'.fr, to := b'.to, gr := b'.gr, md := b'.md, no := b'.no }) rfl).set (j := 5) (v := .int .i64 b'.lf) (b' := { b with fr := b'.fr, to := b'.to, gr := b'.gr, md := b'.md, no := b'.no, lf := b'.lf }) rfl).set (j := 6) (v := .int .i64 b'.hp) (b' := { b with fr := b'.fr, to := b'.to, gr := b'.gr, md := b'.md, no := b'.no, lf := b'.lf, hp := b'.hp }) rfl).set (j := 7) (v := .int .i64 b'.of) (b' := { b with fr := b'.fr, to := b'.to, gr := b'.gr, md := b'.md, no := b'.no, lf := b'.lf, hp := b'.hp, of := b'.of }) rfl).set (j := 8) (v := .int .i64 b'.tl) (b' := { b with fr := b'.fr, to := b'.to, gr := b'.gr, md := b'.md, no := b'.no, lf := b'.lf, hp := b'.hp, of := b'.of, tl := b'.tl }) rfl).set (j := 9) (v := .string b'.py) (b' := b') rfl)
theorem new_ints (w : World) (xs : List Int) (t : TypeId) : M4.IntsAt (w.alloc (.cells (M4.iv xs).toArray t)) (some ⟨w.heap.size, 0, none⟩) xs := by
  refine .inr ⟨w.heap.size, 0, rfl, by simp, fun j hj => ?_⟩
  rw [Nat.zero_add, World.cell?_alloc_at _ _ _ _ (by rfl)]
  simp [M4.iv, hj]
end BX
end Go.Proofs.Ytdgflhgbcfehhaa
