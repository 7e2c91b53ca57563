/- Both errors of chapter 13 as they lie in memory: plain facts, over whatever program. -/
import Derived.Test.YteedppngiknjlaaDoorMEr
namespace Go.Proofs.YteedppngiknjlaaDoor
open Go.RowKit
/-- Both variables hold pointers, and these are two. -/
structure Er2 (W : World) (a b : Addr) : Prop where
  e1 : Er1 W a
  g : W.cell? ⟨1, 0, none⟩ = some (.iface 111 (.pointer (some b)))
  lt : 1 < W.heap.size
  ne : b ≠ a
  la : a.block < W.heap.size
  lb : b.block < W.heap.size
  ha : ∃ ca ta, W.heap[a.block]? = some (.cells ca ta (0, 0))
  hb : ∃ cb tb, W.heap[b.block]? = some (.cells cb tb (0, 0))
theorem Er2.below {W W' : World} {a b : Addr} {n : Nat} (h : Er2 W a b) (hb : Below n W W') (hn : W.heap.size ≤ n) : Er2 W' a b := by
  obtain ⟨e1, g, lt, ne, la, lb, ⟨ca, ta, ha⟩, cb, tb, hb'⟩ := h
  refine ⟨e1.below hb hn, (hb.cell (p := ⟨1, 0, none⟩) (Nat.lt_of_lt_of_le lt hn)).trans g, Nat.lt_of_lt_of_le lt hb.size, ne, Nat.lt_of_lt_of_le la hb.size, Nat.lt_of_lt_of_le lb hb.size, ⟨ca, ta, ?_⟩, cb, tb, ?_⟩
  · rw [hb.block a.block (by omega)]; exact ha
  · rw [hb.block b.block (by omega)]; exact hb'
theorem Er2.alloc {W : World} {a b : Addr} (h : Er2 W a b) (o : Obj) : Er2 (W.alloc o) a b :=
  h.below ((Below.refl _ W).alloc (Nat.le_refl _) o) (Nat.le_refl _)
end Go.Proofs.YteedppngiknjlaaDoor
