/- The two errors of chapter 13 as they lie in memory: plain facts, over whatever program. -/
import Derived.WalkKit
import Derived.Below
namespace Go.Proofs.YteedppngiknjlaaDoor
open Go.RowKit
/-- The first error's variable holds a pointer. -/
structure Er1 (W : World) (a : Addr) : Prop where
  g : W.cell? ⟨0, 0, none⟩ = some (.iface 111 (.pointer (some a)))
  lt : 0 < W.heap.size
theorem Er1.below {W W' : World} {a : Addr} {n : Nat} (h : Er1 W a) (hb : Below n W W') (hn : W.heap.size ≤ n) : Er1 W' a :=
  ⟨(hb.cell (p := ⟨0, 0, none⟩) (Nat.lt_of_lt_of_le h.lt hn)).trans h.g, Nat.lt_of_lt_of_le h.lt hb.size⟩
theorem Er1.alloc {W : World} {a : Addr} (h : Er1 W a) (o : Obj) : Er1 (W.alloc o) a :=
  h.below ((Below.refl _ W).alloc (Nat.le_refl _) o) (Nat.le_refl _)
end Go.Proofs.YteedppngiknjlaaDoor
