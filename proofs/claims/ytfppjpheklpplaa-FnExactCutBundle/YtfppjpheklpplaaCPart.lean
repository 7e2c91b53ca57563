/- The program's part of a parcel. -/
import Derived.Test.YtfppjpheklpplaaRows
import Derived.Test.YtfppjpheklpplaaMCB
import Derived.WalkKit
import Derived.WalkSpells
import Derived.WalkLawsBesides
import Derived.Outline
namespace Go.Proofs.Ytfppjpheklpplaa
open Go.RowKit
theorem Try.infoParcelP : (Try.prog.info? 72).map (fun i => (i.zero, i.size)) = some (some (.agg (Bd.cs B1.zero).toArray), 10) := by kernel_rfl
theorem Try.sizeParcelP : (Try.prog.info? 72).map (·.size) = some 10 := by kernel_rfl
set_option linter.unusedSimpArgs false in
set_option maxHeartbeats 800000 in
set_option maxRecDepth 100000 in
theorem partP_any (b : Bd) (x y : Nat) (w : World) (hxy : x ≤ y) (hy : y ≤ b.py.size) (hs : b.py.size ≤ 1048576) (ho : 0 ≤ b.of ∧ b.of ≤ 60) :
    Calls Try.prog 40 #[.agg b.cs.toArray, .int .i64 (x : Int), .int .i64 (y : Int)] w fun e w' => e = .returned (.agg (CB.prt b x y).cs.toArray) ∧ Below w.heap.size w w' := by
  have r0 := (MA.Rg.new w b.cs 72).alloc (.cells (Bd.cs B1.zero).toArray 72)
  have r1 := MA.Rg.new' (w.alloc (.cells b.cs.toArray 72)) (Bd.cs B1.zero) 72 (w.heap.size + 1) (by simp)
  have hb : Below w.heap.size w ((w.alloc (.cells b.cs.toArray 72)).alloc (.cells (Bd.cs B1.zero).toArray 72)) := ((Below.refl _ w).alloc (Nat.le_refl _) _).alloc (by simp) _
  have HR : Hid _ := And.intro r0 (And.intro r1 hb)
  clear r0 r1 hb
  have HP0 : Hid (∀ W : World, MA.Rg W w.heap.size 0 b.cs ∧ MA.Rg W (w.heap.size + 1) 0 (Bd.cs B1.zero) ∧ Below w.heap.size w W → MA.Rg ((W.setCell ⟨w.heap.size, 7, none⟩ (.int .i64 (b.of + (x : Int)))).setCell ⟨w.heap.size, 9, none⟩ (.string (b.py.extract x y))) w.heap.size 0 (CB.prt b x y).cs ∧ MA.Rg ((W.setCell ⟨w.heap.size, 7, none⟩ (.int .i64 (b.of + (x : Int)))).setCell ⟨w.heap.size, 9, none⟩ (.string (b.py.extract x y))) (w.heap.size + 1) 0 (Bd.cs B1.zero) ∧ Below w.heap.size w ((W.setCell ⟨w.heap.size, 7, none⟩ (.int .i64 (b.of + (x : Int)))).setCell ⟨w.heap.size, 9, none⟩ (.string (b.py.extract x y)))) := fun W h => by
    obtain ⟨g0, g1, g2⟩ := h
    have q := CB.put1 (CB.put1 g0 (j := 7) (by simp [Bd.cs]) (.int .i64 (b.of + (x : Int)))) (j := 9) (by simp [Bd.cs]) (.string (b.py.extract x y))
    rw [CB.prt_cs] at q
    exact ⟨q, CB.off1 (CB.off1 g1 (by omega) _) (by omega) _, (g2.setCell (p := ⟨w.heap.size, 7, none⟩) (by simp) _).setCell (p := ⟨w.heap.size, 9, none⟩) (by simp) _⟩
  go_enter Try.func40, Try.ntmps40
  go_wp2_with (first
    | (refine MA.alloc_z rfl 72 rfl _ _ Try.infoParcelP ?_; simp only [MA.sz_alloc]; generalize World.alloc _ _ = W at *; have c7 := CB.c_of HR.out.1 (j := 7) rfl; have f7 := CB.f_of HR.out.1 (j := 7) (by simp [Bd.cs]); have c9 := CB.c_of HR.out.1 (j := 9) rfl; have f9 := CB.f_of HR.out.1 (j := 9) (by simp [Bd.cs]); have HP : Hid _ := HP0.out W HR.out)
    | (refine MA.load_r rfl 72 _ rfl rfl (cs := (CB.prt b x y).cs) ?_ Try.underlying72 rfl Try.sizeParcelP rfl ?_; exact HP.out.1.rng)
    | (refine MA.store_m rfl 72 _ _ rfl rfl rfl (vs := (CB.prt b x y).cs) (cs := Bd.cs B1.zero) ?_ Try.sizeParcelP rfl rfl (MA.cs_one _) ?_; exact HP.out.2.1))
  exact bodyPost_ret (MA.ret_cell rfl rfl (MA.load_rg (HP.out.2.1.put (vs := (CB.prt b x y).cs) rfl) Try.underlying72 rfl Try.sizeParcelP rfl)) rfl ⟨rfl, MA.below_cells (by omega) _ _ _ HP.out.2.2⟩
end Go.Proofs.Ytfppjpheklpplaa
