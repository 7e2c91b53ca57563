/- The program's GoodPile, at any pile. -/
import Derived.Test.YthpmlefaloiapaaRows
import Derived.Test.YthpmlefaloiapaaCStackOf
import Derived.WalkKit
import Derived.WalkSpells
import Derived.WalkLawsBesides
import Derived.Outline
namespace Go.Proofs.Ythpmlefaloiapaa
open Go.RowKit
theorem upOk_good (xs : List Bd) : upOk xs = PL.good xs := PL.good_same xs
set_option linter.unusedSimpArgs false in
set_option maxHeartbeats 400000 in
set_option maxRecDepth 100000 in
theorem implGoodPile_any (a : Option Addr) (cap : Nat) (xs : List Bd) (w : World) (hn : xs.length ≤ 1048576) (ht : Hid (∀ k, k < xs.length → (MP.at_ xs k).py.size ≤ 1048576)) (hin : MP.BsAt w a xs) :
    Calls Try.prog 18 #[.agg #[.slice a xs.length cap]] w fun e w' => e = .returned (.bool (PL.good xs)) ∧ Below w.heap.size w w' := by
  have SO : Hid _ := fun W h => stackOf_any a cap xs W hn ht h
  have hB : Below w.heap.size w (w.alloc (.cells #[.slice a xs.length cap] 39)) := (Below.refl _ w).alloc (Nat.le_refl _) _
  have HI : Hid (MP.BsAt (w.alloc (.cells #[.slice a xs.length cap] 39)) a xs) := hin.below hB
  go_enter Try.func18, Try.ntmps18
  go_wp2_with fail
  refine (SO.out _ HI.out).mono ?_
  rintro e w2 ⟨g, rfl, _, hb2⟩
  have hB2 := hB.trans (hb2.mono hB.size)
  clear SO HI hb2 hB
  obtain ⟨L, hL⟩ : ∃ L, upV xs (.slice (some ⟨g, 0, none⟩) xs.length xs.length) = L := ⟨_, rfl⟩
  have HL1 : Hid (L.length = 121) := by rw [← hL]; exact upV_len _ _ _ _
  have HL2 : Hid (∀ v ∈ L, v.oneCell' = true) := by rw [← hL]; exact upV_one _ _ _ _
  rw [hL]
  clear hL
  have RN : Hid _ := MA.Rg.new w2 (stF (.slice none 0 0) PL.blank) 76
  go_wp2_with (first
    | (refine MA.alloc_z rfl 76 rfl _ _ Try.infoStack' ?_; simp only [MA.sz_alloc])
    | (refine MA.store_m rfl 76 _ _ rfl rfl rfl (cs := stF (.slice none 0 0) PL.blank) ?_ Try.sizeStack Z_len HL1.out HL2.out ?_; exact RN.out; clear RN; have HB : Hid _ := MA.below_cells (b := w2.heap.size) hB2.size L 0 _ (hB2.alloc hB2.size (.cells (stF (.slice none 0 0) PL.blank).toArray 76)); generalize World.setCells _ _ _ _ = W3 at *))
  go_ret
  exact ⟨by rw [upOk_good]; rfl, HB.out⟩
end Go.Proofs.Ythpmlefaloiapaa
