/- impl.parcel's items: the items of a bundle, in a row of their own. -/
import Derived.Test.YtkpkahhhmoaafabDoorRows
import Derived.Test.YtkpkahhhmoaafabDoorMB2
import Derived.Test.YtkpkahhhmoaafabDoorCInfoItem
import Derived.Laws.MakeOwn
import Derived.Lib.Buffer
import Derived.WalkKit
import Derived.WalkSpells
import Derived.WalkLawsBesides
import Derived.Outline
namespace Go.Proofs.YtkpkahhhmoaafabDoor
open Go.RowKit
theorem items_block {w : World} {g t : Nat} {xs : List It} {cs : Array Value} {fz : Nat × Nat} (h : w.heap[g]? = some (.cells cs t fz)) (hc : cs.toList = M11.flat xs) : M11.ItemsAt w (some ⟨g, 0, none⟩) xs := by
  have hlt : g < w.heap.size := (Array.getElem?_eq_some_iff.1 h).1
  have cell : ∀ j i, j < xs.length → i < 4 → w.cell? ⟨g, 0 + j * 4 + i, none⟩ = (M11.at_ xs j).cs[i]? := fun j i hj hi => by
    rw [Lib.cell_of_heap h, ← M11.flat_get xs j i hj hi, ← hc, Nat.zero_add, Nat.mul_comm]; simp
  exact .inr ⟨g, 0, rfl, hlt, fun j hj => ⟨cell j 0 hj (by omega), cell j 1 hj (by omega), cell j 2 hj (by omega), cell j 3 hj (by omega)⟩⟩
theorem items_flat (fr to : Int) (gr : Bool) (md no lf hp of tl : Int) (py : ByteArray) (gx : Int) (hg : B2.gn ⟨fr, to, gr, md, no, lf, hp, of, tl, py⟩ = gx) : M11.flat (B2.items ⟨fr, to, gr, md, no, lf, hp, of, tl, py⟩) = [.int .i64 4, .int .i64 0, .string ⟨#[]⟩, .int .i64 10, .int .i64 1, .int .i64 fr, .string ⟨#[]⟩, .int .i64 0, .int .i64 1, .int .i64 to, .string ⟨#[]⟩, .int .i64 0, .int .i64 1, .int .i64 gx, .string ⟨#[]⟩, .int .i64 0, .int .i64 1, .int .i64 md, .string ⟨#[]⟩, .int .i64 0, .int .i64 1, .int .i64 no, .string ⟨#[]⟩, .int .i64 0, .int .i64 1, .int .i64 lf, .string ⟨#[]⟩, .int .i64 0, .int .i64 1, .int .i64 hp, .string ⟨#[]⟩, .int .i64 0, .int .i64 1, .int .i64 of, .string ⟨#[]⟩, .int .i64 0, .int .i64 1, .int .i64 tl, .string ⟨#[]⟩, .int .i64 0, .int .i64 2, .int .i64 0, .string py, .int .i64 0] := by
  rw [← hg]; rfl
theorem madeItems : madeCells (Value.agg #[.int .i64 0, .int .i64 0, .string ⟨#[]⟩, .int .i64 0]).cells (11 * 4) = #[.int .i64 0, .int .i64 0, .string ⟨#[]⟩, .int .i64 0, .int .i64 0, .int .i64 0, .string ⟨#[]⟩, .int .i64 0, .int .i64 0, .int .i64 0, .string ⟨#[]⟩, .int .i64 0, .int .i64 0, .int .i64 0, .string ⟨#[]⟩, .int .i64 0, .int .i64 0, .int .i64 0, .string ⟨#[]⟩, .int .i64 0, .int .i64 0, .int .i64 0, .string ⟨#[]⟩, .int .i64 0, .int .i64 0, .int .i64 0, .string ⟨#[]⟩, .int .i64 0, .int .i64 0, .int .i64 0, .string ⟨#[]⟩, .int .i64 0, .int .i64 0, .int .i64 0, .string ⟨#[]⟩, .int .i64 0, .int .i64 0, .int .i64 0, .string ⟨#[]⟩, .int .i64 0, .int .i64 0, .int .i64 0, .string ⟨#[]⟩, .int .i64 0] := by kernel_rfl
set_option maxHeartbeats 6400000 in
set_option maxRecDepth 100000 in
theorem implItems_any (b : Bd) (w : World) :
    Calls Tryd.prog 23 #[b.v] w fun e w' => ∃ g, e = .returned (.slice (some ⟨g, 0, none⟩) 11 11) ∧ M11.ItemsAt w' (some ⟨g, 0, none⟩) (B2.items b) ∧ Below w.heap.size w w' := by
  obtain ⟨i0, hi, hz0, hz1, hz2⟩ := info_parts Tryd.infoItem
  have mk : ∀ W : World, (Instr.makeSlice 46 (.int .i64 11) (.int .i64 11)).run Tryd.prog W = .ok (.slice (some ⟨W.heap.size, 0, none⟩) 11 11) (W.alloc (.cells #[.int .i64 0, .int .i64 0, .string ⟨#[]⟩, .int .i64 0, .int .i64 0, .int .i64 0, .string ⟨#[]⟩, .int .i64 0, .int .i64 0, .int .i64 0, .string ⟨#[]⟩, .int .i64 0, .int .i64 0, .int .i64 0, .string ⟨#[]⟩, .int .i64 0, .int .i64 0, .int .i64 0, .string ⟨#[]⟩, .int .i64 0, .int .i64 0, .int .i64 0, .string ⟨#[]⟩, .int .i64 0, .int .i64 0, .int .i64 0, .string ⟨#[]⟩, .int .i64 0, .int .i64 0, .int .i64 0, .string ⟨#[]⟩, .int .i64 0, .int .i64 0, .int .i64 0, .string ⟨#[]⟩, .int .i64 0, .int .i64 0, .int .i64 0, .string ⟨#[]⟩, .int .i64 0, .int .i64 0, .int .i64 0, .string ⟨#[]⟩, .int .i64 0] 52)) := fun W => by
    have := run_make (P := Tryd.prog) W 46 52 i0 _ Tryd.underlying46 hi hz0 .i64 .i64 11 11 (by omega) (by omega) (by rw [hz2]; omega) (by omega)
    rw [hz1, show (11 : Int).toNat = 11 from rfl, madeItems] at this
    exact this
  clear hi hz0 hz1 hz2
  obtain ⟨fr, to, gr, md, no, lf, hp, of, tl, py⟩ := b
  cases gr
  · have HF : Hid _ := items_flat fr to false md no lf hp of tl py 0 rfl
    go_enter Tryd.func23, Tryd.ntmps23
    go_wp2
    refine wp_loop_rounds 10 ?_
    rw [rounds_succ]
    go_wp2
    rw [rounds_succ]
    go_wp2
    rw [rounds_succ]
    go_wp2
    rw [rounds_succ]
    go_wp2
    rw [rounds_succ]
    go_wp2
    rw [rounds_succ]
    go_wp2
    rw [rounds_succ]
    go_wp2
    rw [rounds_succ]
    go_wp2
    rw [rounds_succ]
    go_wp2
    rw [rounds_succ]
    go_wp2
    go_ret
    refine ⟨_, rfl, items_block (t := 52) (fz := (0, 0)) (cs := #[.int .i64 4, .int .i64 0, .string ⟨#[]⟩, .int .i64 10, .int .i64 1, .int .i64 fr, .string ⟨#[]⟩, .int .i64 0, .int .i64 1, .int .i64 to, .string ⟨#[]⟩, .int .i64 0, .int .i64 1, .int .i64 0, .string ⟨#[]⟩, .int .i64 0, .int .i64 1, .int .i64 md, .string ⟨#[]⟩, .int .i64 0, .int .i64 1, .int .i64 no, .string ⟨#[]⟩, .int .i64 0, .int .i64 1, .int .i64 lf, .string ⟨#[]⟩, .int .i64 0, .int .i64 1, .int .i64 hp, .string ⟨#[]⟩, .int .i64 0, .int .i64 1, .int .i64 of, .string ⟨#[]⟩, .int .i64 0, .int .i64 1, .int .i64 tl, .string ⟨#[]⟩, .int .i64 0, .int .i64 2, .int .i64 0, .string py, .int .i64 0]) ?_ (by rw [HF.out]), (((Below.refl _ w).alloc (Nat.le_refl _) _).alloc (by simp) _).alloc (by simp; omega) _⟩
    rw [Below.heap_alloc _ _ _ (by simp)]
    exact (congrArg (fun k => (_ : Array Obj)[k]?) (show w.heap.size + 1 = _ from by simp)).trans (heap_alloc_new _ _)
  · have HF : Hid _ := items_flat fr to true md no lf hp of tl py 1 rfl
    go_enter Tryd.func23, Tryd.ntmps23
    go_wp2
    refine wp_loop_rounds 10 ?_
    rw [rounds_succ]
    go_wp2
    rw [rounds_succ]
    go_wp2
    rw [rounds_succ]
    go_wp2
    rw [rounds_succ]
    go_wp2
    rw [rounds_succ]
    go_wp2
    rw [rounds_succ]
    go_wp2
    rw [rounds_succ]
    go_wp2
    rw [rounds_succ]
    go_wp2
    rw [rounds_succ]
    go_wp2
    rw [rounds_succ]
    go_wp2
    go_ret
    refine ⟨_, rfl, items_block (t := 52) (fz := (0, 0)) (cs := #[.int .i64 4, .int .i64 0, .string ⟨#[]⟩, .int .i64 10, .int .i64 1, .int .i64 fr, .string ⟨#[]⟩, .int .i64 0, .int .i64 1, .int .i64 to, .string ⟨#[]⟩, .int .i64 0, .int .i64 1, .int .i64 1, .string ⟨#[]⟩, .int .i64 0, .int .i64 1, .int .i64 md, .string ⟨#[]⟩, .int .i64 0, .int .i64 1, .int .i64 no, .string ⟨#[]⟩, .int .i64 0, .int .i64 1, .int .i64 lf, .string ⟨#[]⟩, .int .i64 0, .int .i64 1, .int .i64 hp, .string ⟨#[]⟩, .int .i64 0, .int .i64 1, .int .i64 of, .string ⟨#[]⟩, .int .i64 0, .int .i64 1, .int .i64 tl, .string ⟨#[]⟩, .int .i64 0, .int .i64 2, .int .i64 0, .string py, .int .i64 0]) ?_ (by rw [HF.out]), (((Below.refl _ w).alloc (Nat.le_refl _) _).alloc (by simp) _).alloc (by simp; omega) _⟩
    rw [Below.heap_alloc _ _ _ (by simp)]
    exact (congrArg (fun k => (_ : Array Obj)[k]?) (show w.heap.size + 1 = _ from by simp)).trans (heap_alloc_new _ _)
end Go.Proofs.YtkpkahhhmoaafabDoor
