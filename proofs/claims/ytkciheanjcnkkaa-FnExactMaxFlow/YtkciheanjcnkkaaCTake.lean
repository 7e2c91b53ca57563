/- The queue of the program: take. -/
import Derived.Test.YtkciheanjcnkkaaRows
import Derived.Test.YtkciheanjcnkkaaCQueue
import Derived.WalkKit
import Derived.WalkSpells
import Derived.WalkLawsBesides
import Derived.Outline
namespace Go.Proofs.Ytkciheanjcnkkaa
open Go.RowKit
namespace FL
theorem Qu.taken {W : World} {bx base cap cap' : Nat} {y : Int} {ys : List Int} {a a' : Option Addr} (h : QuA W bx base (y :: ys) a cap) (hc : cap' + 1 = cap) (ha : cap' = 0 ∨ ∃ g off, a = some ⟨g, off, none⟩ ∧ a' = some ⟨g, off + 1, none⟩) (v : Value) (hv : v = .slice a' ys.length cap') : Qu (W.setCell ⟨bx, 0, none⟩ v) bx base ys ∧ Kp bx base W (W.setCell ⟨bx, 0, none⟩ v) := by
  subst hv
  have hle := h.le
  simp only [List.length_cons] at hle
  constructor
  · refine ⟨a', cap', by rw [set_block _ h.box]; simp, by omega, ?_⟩
    rcases ha with h0 | ⟨g, off, rfl, rfl⟩
    · exact .inl h0
    · rcases h.row with h0 | ⟨g', off', cur, h1, h2, h3, h4, h5⟩
      · omega
      · cases h1
        have hgx : g ≠ bx := by
          intro e; subst e
          have h6 := h.box; rw [h3] at h6
          simp only [Option.some.injEq, Obj.cells.injEq] at h6
          exact absurd h6.2.1 (by decide)
        refine .inr ⟨g, off + 1, cur, rfl, h2, by rw [Below.heap_setCell _ _ _ _ hgx]; exact h3, by omega, fun j hj => ?_⟩
        have := h5 (j + 1) (by simp; omega)
        rw [show off + 1 + j = off + (j + 1) from by omega, this]; simp
  · exact ⟨rfl, rfl, rfl, by rw [set_size]; exact Nat.le_refl _, fun k _ hkb _ => Below.heap_setCell _ _ _ _ hkb⟩
end FL
set_option linter.unusedSimpArgs false in
set_option maxHeartbeats 1600000 in
set_option maxRecDepth 100000 in
theorem takeNil_any (bx base : Nat) (w : World) (hq : FL.Qu w bx base []) :
    Calls Try.prog 57 #[.pointer (some ⟨bx, 0, none⟩)] w fun e w' => e = .returned (.tuple #[.int .i64 0, .bool false]) ∧ w = w' := by
  obtain ⟨a, cap, Q⟩ := hq.is
  have c0 : w.cell? ⟨bx, 0, none⟩ = some (.slice a 0 cap) := by rw [FL.cell_block Q.box]; rfl
  have l0 : bx < w.heap.size := FL.lt_of_block Q.box
  clear hq Q
  go_enter Try.func57, Try.ntmps57
  go_wp2
  go_ret2
  exact ⟨rfl, rfl⟩
set_option linter.unusedSimpArgs false in
set_option maxHeartbeats 1600000 in
set_option maxRecDepth 100000 in
theorem takeCons_any (bx base : Nat) (y : Int) (ys : List Int) (w : World) (hq : FL.Qu w bx base (y :: ys)) (hl : ys.length ≤ 1000) :
    Calls Try.prog 57 #[.pointer (some ⟨bx, 0, none⟩)] w fun e w' => e = .returned (.tuple #[.int .i64 y, .bool true]) ∧ FL.Qu w' bx base ys ∧ FL.Kp bx base w w' := by
  obtain ⟨a, cap, Q⟩ := hq.is
  have hle := Q.le
  simp only [List.length_cons] at hle
  obtain ⟨cap', rfl⟩ : ∃ c, cap = c + 1 := ⟨cap - 1, by omega⟩
  obtain ⟨g, off, cur, ha, g1, g2, g3, g4⟩ : ∃ g off cur, a = some ⟨g, off, none⟩ ∧ base ≤ g ∧ w.heap[g]? = some (.cells cur 3 (0, 0)) ∧ off + (cap' + 1) ≤ cur.size ∧ ∀ j, j < (y :: ys).length → cur[off + j]? = some (.int .i64 ((y :: ys).getD j 0)) := by
    rcases Q.row with h | h
    · omega
    · exact h
  subst ha
  have c0 : w.cell? ⟨bx, 0, none⟩ = some (.slice (some ⟨g, off, none⟩) (ys.length + 1) (cap' + 1)) := by rw [FL.cell_block Q.box]; rfl
  have z0 : w.frozen? ⟨bx, 0, none⟩ = false := FL.free_block Q.box
  have l0 : bx < w.heap.size := FL.lt_of_block Q.box
  have lg : g < w.heap.size := FL.lt_of_block g2
  have cy : w.cell? ⟨g, off, none⟩ = some (.int .i64 y) := by rw [FL.cell_block g2]; have := g4 0 (by simp); simpa using this
  have HQ : Hid _ := Q
  generalize hyl : ys.length = n at *
  have HYL : Hid (ys.length = n) := hyl
  clear hq Q hyl g4 g2 g3
  by_cases hc : cap' = 0
  · have FIN : Hid _ := FL.Qu.taken HQ.out rfl (a' := some ⟨g, off, none⟩) (.inl hc) (.slice (some ⟨g, off, none⟩) n 0) (by rw [HYL.out, hc])
    subst hc
    obtain rfl : n = 0 := by omega
    clear HQ
    go_enter Try.func57, Try.ntmps57
    go_wp2
    go_ret2
    exact ⟨rfl, FIN.out⟩
  · have FIN : Hid _ := FL.Qu.taken HQ.out rfl (a' := some ⟨g, off + 1, none⟩) (.inr ⟨g, off, rfl, rfl⟩) (.slice (some ⟨g, off + 1, none⟩) n cap') (by rw [HYL.out])
    clear HQ
    go_enter Try.func57, Try.ntmps57
    go_wp2
    go_ret2
    exact ⟨rfl, FIN.out⟩
end Go.Proofs.Ytkciheanjcnkkaa
