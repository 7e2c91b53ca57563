/- A new cursor, over whatever program. -/
import Derived.Test.YtdgflhgbcfehhaaMCur
namespace Go.Proofs.Ytdgflhgbcfehhaa
open Go.RowKit
/-- A new cursor. -/
theorem cur_new {w : World} {T : TypeId} {a : Option Addr} {zs : List Int} {cap : Nat} (h : MC.BytesAt w w.heap.size a zs) : MC.Cur (w.alloc (.cells #[.slice a zs.length cap, .int .i64 0, .int .u64 0] T)) w.heap.size a zs cap 0 := by
  have hc : ∀ j, (w.alloc (.cells #[.slice a zs.length cap, .int .i64 0, .int .u64 0] T)).cell? ⟨w.heap.size, j, none⟩ = (#[.slice a zs.length cap, .int .i64 0, .int .u64 0] : Array Value)[j]? := fun j => World.cell?_alloc_at _ _ _ _ (by rfl)
  refine ⟨by simp, hc 0, ⟨0, hc 1, by omega⟩, ⟨0, hc 2, by omega⟩, World.frozen?_alloc_at _ _ _ _ (by rfl), World.frozen?_alloc_at _ _ _ _ (by rfl), ?_⟩
  exact h.only (q := w.heap.size) (MC.Only.of_below ((Below.refl _ _).alloc (Nat.le_refl _) _)) (Nat.le_refl _) (Nat.le_refl _)
theorem new_below {p : Nat} {w w' : World} {o : Obj} (hp : p = w.heap.size) (h : MC.Only p (w.alloc o) w') : Below w.heap.size w w' :=
  ((Below.refl _ _).alloc (Nat.le_refl _) o).trans (h.below (by omega) (by simp))
theorem MC.BytesAt.up {w : World} {p q : Nat} {a : Option Addr} {zs : List Int} (h : MC.BytesAt w p a zs) (hp : p ≤ q) : MC.BytesAt w q a zs := by
  refine ⟨h.1, ?_⟩
  rcases h.2 with rfl | ⟨b, off, rfl, hlt, hc⟩
  · exact .inl rfl
  · exact .inr ⟨b, off, rfl, by omega, hc⟩
end Go.Proofs.Ytdgflhgbcfehhaa
