/- The program's Covered, at any pile. -/
import Derived.Test.YthpmlefaloiapaaRows
import Derived.Test.YthpmlefaloiapaaCStackOf
import Derived.Test.YthpmlefaloiapaaCCovS
import Derived.WalkKit
import Derived.WalkSpells
import Derived.WalkLawsBesides
import Derived.Outline
namespace Go.Proofs.Ythpmlefaloiapaa
open Go.RowKit
theorem upOk_good' (xs : List Bd) : upOk xs = PL.good xs := PL.good_same xs
theorem upV_good {xs : List Bd} (v : Value) (h : PL.good xs = true) : upV xs v = stF v (PL.sh xs xs.length) := by
  unfold upV; rw [upOk_good', h]; rfl
theorem st_parts {W : World} {k : Nat} {v : Value} {s : PL.Sh} (h : MA.Rg W k 0 (stF v s)) : MA.Rg W k 1 (MA.tF s.th) ∧ MA.Rg W k 61 (MA.yF s.by_) ∧ MA.Rg W k 0 [v] := by
  have h1 := MA.Rg.app (xs := [v]) h
  have h2 := h1.2.sheet
  exact ⟨h2.1, h2.2, h1.1⟩
set_option linter.unusedSimpArgs false in
set_option maxHeartbeats 400000 in
set_option maxRecDepth 100000 in
theorem implCovered_any (a : Option Addr) (cap : Nat) (xs : List Bd) (w : World) (hn : xs.length ≤ 1048576) (ht : Hid (∀ k, k < xs.length → (MP.at_ xs k).py.size ≤ 1048576)) (hin : MP.BsAt w a xs) :
    Calls Try.prog 25 #[.agg #[.slice a xs.length cap]] w fun e w' => ∃ a1 c1, e = .returned (.tuple #[.slice a1 (covL xs).length c1, .bool (PL.good xs)]) ∧ w'.ownsRow w.heap.size 3 1 (.slice a1 (covL xs).length c1) (covL xs).length (M4.iv (covL xs)) ∧ Below w.heap.size w w' := by
  have SO : Hid _ := fun W h => stackOf_any a cap xs W hn ht h
  have hB : Below w.heap.size w (w.alloc (.cells #[.slice a xs.length cap] 39)) := (Below.refl _ w).alloc (Nat.le_refl _) _
  have HI : Hid (MP.BsAt (w.alloc (.cells #[.slice a xs.length cap] 39)) a xs) := hin.below hB
  go_enter Try.func25, Try.ntmps25
  go_wp2_with fail
  refine (SO.out _ HI.out).mono ?_
  rintro e w2 ⟨g, rfl, _, hb2⟩
  have hB2 := hB.trans (hb2.mono hB.size)
  clear SO HI hb2 hB
  rw [upOk_good']
  obtain ⟨L, hL⟩ : ∃ L, upV xs (.slice (some ⟨g, 0, none⟩) xs.length xs.length) = L := ⟨_, rfl⟩
  have HL : Hid _ := hL
  have HL1 : Hid (L.length = 121) := by rw [← hL]; exact upV_len _ _ _ _
  have HL2 : Hid (∀ v ∈ L, v.oneCell' = true) := by rw [← hL]; exact upV_one _ _ _ _
  rw [hL]
  clear hL
  have RN : Hid _ := MA.Rg.new w2 (stF (.slice none 0 0) PL.blank) 76
  have RP : Hid (MA.Rg (World.setCells (w2.alloc (.cells (stF (.slice none 0 0) PL.blank).toArray 76)) w2.heap.size 0 L) w2.heap.size 0 L) := RN.out.put (by rw [Z_len]; exact HL1.out)
  have HB : Hid (Below w.heap.size w (World.setCells (w2.alloc (.cells (stF (.slice none 0 0) PL.blank).toArray 76)) w2.heap.size 0 L)) := MA.below_cells (b := w2.heap.size) hB2.size L 0 _ (hB2.alloc hB2.size _)
  cases hg : PL.good xs with
  | false =>
    have hC : Hid _ := covL_no hg
    have HG : Hid _ := hg
    clear hg
    go_wp2_with (first
      | (refine MA.alloc_z rfl 76 rfl _ _ Try.infoStack' ?_; simp only [MA.sz_alloc])
      | (refine MA.store_m rfl 76 _ _ rfl rfl rfl (cs := stF (.slice none 0 0) PL.blank) ?_ Try.sizeStack Z_len HL1.out HL2.out ?_; exact RN.out; clear RN; generalize World.setCells _ _ _ _ = W3 at *))
    go_ret2
    exact ⟨none, 0, by rw [hC.out, HG.out]; rfl, by rw [hC.out]; exact World.ownsRow_nil _ _ _ _, HB.out⟩
  | true =>
    have hC : Hid _ := covL_yes hg
    have HG : Hid _ := hg
    have RT : Hid (MA.Rg (World.setCells (w2.alloc (.cells (stF (.slice none 0 0) PL.blank).toArray 76)) w2.heap.size 0 L) w2.heap.size 1 (MA.tF (PL.sh xs xs.length).th)) := by
      have := RP.out
      rw [← HL.out, upV_good _ hg] at this
      rw [← HL.out, upV_good _ hg]
      exact (st_parts this).1
    have PLC : Hid _ := fun W => places_any (PL.sh xs xs.length).th W
    clear hg RP HL
    go_wp2_with (first
      | (refine MA.alloc_z rfl 76 rfl _ _ Try.infoStack' ?_; simp only [MA.sz_alloc])
      | (refine MA.store_m rfl 76 _ _ rfl rfl rfl (cs := stF (.slice none 0 0) PL.blank) ?_ Try.sizeStack Z_len HL1.out HL2.out ?_; exact RN.out; clear RN; generalize World.setCells _ _ _ _ = W3 at *)
      | (refine MA.load_m rfl 70 _ rfl rfl (cs := MA.tF (PL.sh xs xs.length).th) ?_ Try.underlying70 rfl Try.sizeMarks (MA.tF_len _) ?_; exact RT.out))
    refine (PLC.out _).mono ?_
    rintro e w4 ⟨a1, c1, rfl, ho, hb4⟩
    have HO : Hid _ := ho
    have hB4 := HB.out.trans (hb4.mono HB.out.size)
    have hsz := HB.out.size
    clear PLC ho hb4
    go_wp2
    go_ret2
    have HO' := HO.out
    rw [← hC.out] at HO'
    exact ⟨a1, c1, by rw [hC.out, HG.out]; rfl, MA.own_base HO' hsz, hB4⟩
end Go.Proofs.Ythpmlefaloiapaa
