/- impl.parcel's bundle: the bundle again, its payload a copy. -/
import Derived.Test.YtdgflhgbcfehhaaRows
import Derived.Test.YtdgflhgbcfehhaaMB1
import Derived.Test.YtdgflhgbcfehhaaCClone
import Derived.WalkKit
import Derived.WalkSpells
import Derived.WalkLawsBesides
import Derived.Outline
import Derived.Deep.QuietTactic
import Derived.BigQuiet
import Derived.Deep.RegionHeld3
namespace Go.Proofs.Ytdgflhgbcfehhaa
open Go.RowKit
set_option maxHeartbeats 3200000 in
set_option maxRecDepth 100000 in
theorem parcelBundle_any (b : Bd) (w : World) (hs : b.py.size ≤ 1048576) : Calls Try.prog 35 #[b.v] w fun e w' => e = .returned b.v ∧ Below w.heap.size w w' := by
  have CL : Hid _ := fun W => clone_any b.py W hs
  obtain ⟨fr, to, gr, md, no, lf, hp, of, tl, py⟩ := b
  simp only at CL
  clear hs
  go_enter Try.func35, Try.ntmps35
  go_wp2
  go_region_held3 (fun w' => w'.cell? ⟨w.heap.size, 0, none⟩ = some (.int .i64 fr) ∧ w'.cell? ⟨w.heap.size, 1, none⟩ = some (.int .i64 to) ∧ w'.cell? ⟨w.heap.size, 2, none⟩ = some (.bool gr) ∧ w'.cell? ⟨w.heap.size, 3, none⟩ = some (.int .i64 md) ∧ w'.cell? ⟨w.heap.size, 4, none⟩ = some (.int .i64 no) ∧ w'.cell? ⟨w.heap.size, 5, none⟩ = some (.int .i64 lf) ∧ w'.cell? ⟨w.heap.size, 6, none⟩ = some (.int .i64 hp) ∧ w'.cell? ⟨w.heap.size, 7, none⟩ = some (.int .i64 of) ∧ w'.cell? ⟨w.heap.size, 8, none⟩ = some (.int .i64 tl) ∧ w'.cell? ⟨w.heap.size, 9, none⟩ = some (.string py)) (go_keep) (first | (go_at_call 60; refine Calls.mono (CL.out _) ?_; rintro e w2 ⟨rfl, hb2⟩; have p0 : w2.cell? ⟨w.heap.size, 0, none⟩ = some (.int .i64 fr) := (hb2.cell (by simp; omega)).trans (by simp); have p1 : w2.cell? ⟨w.heap.size, 1, none⟩ = some (.int .i64 to) := (hb2.cell (by simp; omega)).trans (by simp); have p2 : w2.cell? ⟨w.heap.size, 2, none⟩ = some (.bool gr) := (hb2.cell (by simp; omega)).trans (by simp); have p3 : w2.cell? ⟨w.heap.size, 3, none⟩ = some (.int .i64 md) := (hb2.cell (by simp; omega)).trans (by simp); have p4 : w2.cell? ⟨w.heap.size, 4, none⟩ = some (.int .i64 no) := (hb2.cell (by simp; omega)).trans (by simp); have p5 : w2.cell? ⟨w.heap.size, 5, none⟩ = some (.int .i64 lf) := (hb2.cell (by simp; omega)).trans (by simp); have p6 : w2.cell? ⟨w.heap.size, 6, none⟩ = some (.int .i64 hp) := (hb2.cell (by simp; omega)).trans (by simp); have p7 : w2.cell? ⟨w.heap.size, 7, none⟩ = some (.int .i64 of) := (hb2.cell (by simp; omega)).trans (by simp); have p8 : w2.cell? ⟨w.heap.size, 8, none⟩ = some (.int .i64 tl) := (hb2.cell (by simp; omega)).trans (by simp); have p9 : w2.cell? ⟨w.heap.size, 9, none⟩ = some (.string py) := (hb2.cell (by simp; omega)).trans (by simp); have d0 : w2.cell? ⟨w.heap.size + 1, 0, none⟩ = some (.int .i64 0) := (hb2.cell (by simp)).trans (by simp); have d1 : w2.cell? ⟨w.heap.size + 1, 1, none⟩ = some (.int .i64 0) := (hb2.cell (by simp)).trans (by simp); have d2 : w2.cell? ⟨w.heap.size + 1, 2, none⟩ = some (.bool false) := (hb2.cell (by simp)).trans (by simp); have d3 : w2.cell? ⟨w.heap.size + 1, 3, none⟩ = some (.int .i64 0) := (hb2.cell (by simp)).trans (by simp); have d4 : w2.cell? ⟨w.heap.size + 1, 4, none⟩ = some (.int .i64 0) := (hb2.cell (by simp)).trans (by simp); have d5 : w2.cell? ⟨w.heap.size + 1, 5, none⟩ = some (.int .i64 0) := (hb2.cell (by simp)).trans (by simp); have d6 : w2.cell? ⟨w.heap.size + 1, 6, none⟩ = some (.int .i64 0) := (hb2.cell (by simp)).trans (by simp); have d7 : w2.cell? ⟨w.heap.size + 1, 7, none⟩ = some (.int .i64 0) := (hb2.cell (by simp)).trans (by simp); have d8 : w2.cell? ⟨w.heap.size + 1, 8, none⟩ = some (.int .i64 0) := (hb2.cell (by simp)).trans (by simp); have d9 : w2.cell? ⟨w.heap.size + 1, 9, none⟩ = some (.string ⟨#[]⟩) := (hb2.cell (by simp)).trans (by simp); have f0 : w2.frozen? ⟨w.heap.size + 1, 0, none⟩ = false := (hb2.frozen (by simp)).trans (by simp); have f1 : w2.frozen? ⟨w.heap.size + 1, 1, none⟩ = false := (hb2.frozen (by simp)).trans (by simp); have f2 : w2.frozen? ⟨w.heap.size + 1, 2, none⟩ = false := (hb2.frozen (by simp)).trans (by simp); have f3 : w2.frozen? ⟨w.heap.size + 1, 3, none⟩ = false := (hb2.frozen (by simp)).trans (by simp); have f4 : w2.frozen? ⟨w.heap.size + 1, 4, none⟩ = false := (hb2.frozen (by simp)).trans (by simp); have f5 : w2.frozen? ⟨w.heap.size + 1, 5, none⟩ = false := (hb2.frozen (by simp)).trans (by simp); have f6 : w2.frozen? ⟨w.heap.size + 1, 6, none⟩ = false := (hb2.frozen (by simp)).trans (by simp); have f7 : w2.frozen? ⟨w.heap.size + 1, 7, none⟩ = false := (hb2.frozen (by simp)).trans (by simp); have f8 : w2.frozen? ⟨w.heap.size + 1, 8, none⟩ = false := (hb2.frozen (by simp)).trans (by simp); have f9 : w2.frozen? ⟨w.heap.size + 1, 9, none⟩ = false := (hb2.frozen (by simp)).trans (by simp)))
  have hB2 : Below w.heap.size w w2 := ((((Below.refl _ w).alloc (Nat.le_refl _) _).alloc (by simp) _).drew).trans (hb2.mono (by simp; omega))
  rename_i hh
  clear hh hb2 p0 p1 p2 p3 p4 p5 p6 p7 p8 p9 CL
  go_wp2
  exact bodyPost_ret (v := Bd.v ⟨fr, to, gr, md, no, lf, hp, of, tl, py⟩) (by simp [results, Try.results35, go_sem, d0, d1, d2, d3, d4, d5, d6, d7, d8, d9]) rfl ⟨rfl, (((((((((hB2.setCell (by simp) _).setCell (by simp) _).setCell (by simp) _).setCell (by simp) _).setCell (by simp) _).setCell (by simp) _).setCell (by simp) _).setCell (by simp) _).setCell (by simp) _).setCell (by simp) _⟩
end Go.Proofs.Ytdgflhgbcfehhaa
