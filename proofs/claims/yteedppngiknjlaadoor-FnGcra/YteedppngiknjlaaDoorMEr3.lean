/- Both errors of chapter 13 and errors.errorType as they lie in memory: plain facts, over whatever program. -/
import Derived.Test.YteedppngiknjlaaDoorMEr2
namespace Go.Proofs.YteedppngiknjlaaDoor
open Go.RowKit
structure Er3 (W : World) (a b : Addr) : Prop where
  e2 : Er2 W a b
  g : W.cell? ⟨2, 0, none⟩ = some (.iface 95 (.agg #[.pointer (some ⟨3, 65, none⟩)]))
  lt : 2 < W.heap.size
theorem Er3.below {W W' : World} {a b : Addr} {n : Nat} (h : Er3 W a b) (hb : Below n W W') (hn : W.heap.size ≤ n) : Er3 W' a b :=
  ⟨h.e2.below hb hn, (hb.cell (p := ⟨2, 0, none⟩) (Nat.lt_of_lt_of_le h.lt hn)).trans h.g, Nat.lt_of_lt_of_le h.lt hb.size⟩
theorem Er3.alloc {W : World} {a b : Addr} (h : Er3 W a b) (o : Obj) : Er3 (W.alloc o) a b :=
  h.below ((Below.refl _ W).alloc (Nat.le_refl _) o) (Nat.le_refl _)
end Go.Proofs.YteedppngiknjlaaDoor
