/- The law FnExactWholeOf answers true at every pile. -/
import Derived.Test.YthpmlefaloiapaaRows
import Derived.Test.YthpmlefaloiapaaCWholeJ
import Derived.Test.YthpmlefaloiapaaCEqPile
import Derived.WalkKit
import Derived.WalkSpells
import Derived.WalkLawsBesides
import Derived.Outline
namespace Go.Proofs.Ythpmlefaloiapaa
open Go.RowKit
set_option linter.unusedSimpArgs false in
set_option maxHeartbeats 800000 in
set_option maxRecDepth 100000 in
theorem lawWhole_any (a : Option Addr) (cap : Nat) (xs : List Bd) (w : World) (hn : xs.length ≤ maxLen) (ht : Hid (∀ k, k < xs.length → (MP.at_ xs k).py.size ≤ maxLen)) (hin : MP.BsAt w a xs) :
    Calls Try.prog 7 #[.agg #[.slice a xs.length cap]] w fun e w' => e = .returned (.bool true) ∧ Below w.heap.size w w' := by
  have SZ : Hid _ := fun W h => szPile_any a cap xs W hn ht h
  have hB : Below w.heap.size w (w.alloc (.cells #[.slice a xs.length cap] 35)) := (Below.refl _ w).alloc (Nat.le_refl _) _
  have HI : Hid (MP.BsAt (w.alloc (.cells #[.slice a xs.length cap] 35)) a xs) := hin.below hB
  have hw0 : w.heap.size < (w.alloc (.cells #[.slice a xs.length cap] 35)).heap.size := by simp
  have c0 : (w.alloc (.cells #[.slice a xs.length cap] 35)).cell? ⟨w.heap.size, 0, none⟩ = some (.slice a xs.length cap) := by simp
  clear hin ht hn
  go_enter Try.func7, Try.ntmps7
  go_wp2_with fail
  refine (SZ.out _ HI.out).mono ?_
  rintro e w1 ⟨r, rfl, hr, hb1⟩
  have hB1 := hB.trans (hb1.mono hB.size)
  have hR1 := HI.out.below hb1
  have c1 : w1.cell? ⟨w.heap.size, 0, none⟩ = some (.slice a xs.length cap) := (hb1.cell (p := ⟨w.heap.size, 0, none⟩) hw0).trans c0
  have hw1 : w.heap.size < w1.heap.size := Nat.lt_of_lt_of_le hw0 hb1.size
  clear SZ HI hb1 hB c0 hw0
  by_cases h0 : r < 0
  · clear hr
    go_wp2
    go_ret
    exact ⟨rfl, hB1⟩
  · obtain ⟨-, -, hn, ht⟩ : 0 ≤ r ∧ r ≤ 1048576 ∧ xs.length ≤ 1048576 ∧ Hid (∀ k, k < xs.length → (MP.at_ xs k).py.size ≤ 1048576) := by rcases hr with hr | hr; exact absurd hr h0; exact hr
    have TP : Hid _ := fun W h => toPile_any a cap xs W hn h
    have SG : Hid _ := fun g W h => specWhole_any (some ⟨g, 0, none⟩) xs.length xs W hn ht h (Nat.le_refl _)
    have IG : Hid _ := fun g W h => implWhole_any (some ⟨g, 0, none⟩) xs.length xs W hn ht h
    clear ht hr
    have HR1 : Hid _ := hR1
    go_wp2_with fail
    refine (TP.out _ hR1).mono ?_
    rintro e w2 ⟨g, rfl, ho, hb2⟩
    have hB2 := hB1.trans (hb2.mono hB1.size)
    have hR2 := hR1.below hb2
    have hX2 : MP.BsAt w2 (some ⟨g, 0, none⟩) xs := MP.BsAt.of_own ho
    have c2 : w2.cell? ⟨w.heap.size, 0, none⟩ = some (.slice a xs.length cap) := (hb2.cell (p := ⟨w.heap.size, 0, none⟩) hw1).trans c1
    have hw2 : w.heap.size < w2.heap.size := Nat.lt_of_lt_of_le hw1 hb2.size
    clear hb2 hB1 hR1 c1 hw1 ho HR1
    go_wp2_with fail
    refine (SG.out g _ hX2).mono ?_
    rintro e w3 ⟨rfl, hb3⟩
    have hB3 := hB2.trans (hb3.mono hB2.size)
    have hR3 := hR2.below hb3
    have c3 : w3.cell? ⟨w.heap.size, 0, none⟩ = some (.slice a xs.length cap) := (hb3.cell (p := ⟨w.heap.size, 0, none⟩) hw2).trans c2
    have hw3 : w.heap.size < w3.heap.size := Nat.lt_of_lt_of_le hw2 hb3.size
    clear hb3 hB2 hR2 c2 hw2 SG hX2
    generalize wholeOk xs = R at *
    generalize wholeB xs = O at *
    have HX4 : Hid _ := new_bw w3 O 28
    have HRN : Hid _ := MA.Rg.new w3 (Bd.cs B1.zero) 28
    go_wp2_with (first
      | (refine MA.alloc_z rfl 28 rfl _ _ Try.infoBundle ?_; simp only [MA.sz_alloc])
      | (refine MA.store_m rfl 28 _ _ rfl rfl rfl (vs := O.cs) (cs := Bd.cs B1.zero) ?_ Try.sizeBundle rfl rfl (MA.cs_one _) ?_; exact HRN.out; clear HRN; generalize World.setCells _ _ _ _ = W4 at *; replace hB3 := hB3.trans (HX4.out.1.mono hB3.size); replace hR3 := hR3.below HX4.out.1; replace c3 : W4.cell? ⟨w.heap.size, 0, none⟩ = some (.slice a xs.length cap) := (HX4.out.1.cell (p := ⟨w.heap.size, 0, none⟩) hw3).trans c3; have hw4 : w.heap.size < W4.heap.size := Nat.lt_of_lt_of_le hw3 HX4.out.1.size; have HO4 : Hid _ := HX4.out.2; clear HX4))
    generalize w3.heap.size = q3 at *
    refine (TP.out _ hR3).mono ?_
    rintro e w5 ⟨g2, rfl, ho, hb5⟩
    have hB5 := hB3.trans (hb5.mono hB3.size)
    have hR5 := hR3.below hb5
    have hX5 : MP.BsAt w5 (some ⟨g2, 0, none⟩) xs := MP.BsAt.of_own ho
    have c5 : w5.cell? ⟨w.heap.size, 0, none⟩ = some (.slice a xs.length cap) := (hb5.cell (p := ⟨w.heap.size, 0, none⟩) hw4).trans c3
    have hw5 : w.heap.size < w5.heap.size := Nat.lt_of_lt_of_le hw4 hb5.size
    replace HO4 : Hid _ := HO4.out.below hb5 HO4.out.lt
    clear hb5 hB3 hR3 c3 hw3 hw4 ho
    have hal : Below w5.heap.size w5 (w5.alloc (.cells #[.slice (some ⟨g2, 0, none⟩) xs.length xs.length] 39)) := (Below.refl _ w5).alloc (Nat.le_refl _) _
    have HXa : Hid _ := hX5.below hal
    have HAL : Hid _ := hal
    have cx0 : (w5.alloc (.cells #[.slice (some ⟨g2, 0, none⟩) xs.length xs.length] 39)).cell? ⟨w5.heap.size, 0, none⟩ = some (.slice (some ⟨g2, 0, none⟩) xs.length xs.length) := by simp
    have CX0 : Hid _ := cx0
    clear hal cx0 hX5
    go_wp2_with fail
    refine (IG.out g2 _ HXa.out).mono ?_
    rintro e w6 ⟨rfl, hb6⟩
    have hB6 := (hB5.trans (HAL.out.mono hB5.size)).trans (hb6.mono (Nat.le_trans hB5.size HAL.out.size))
    have hR6 := (hR5.below HAL.out).below hb6
    have hX6 : MP.BsAt w6 (some ⟨g2, 0, none⟩) xs := MP.BsAt.below HXa.out hb6
    have ca : w6.cell? ⟨w.heap.size, 0, none⟩ = some (.slice a xs.length cap) := (hb6.cell (p := ⟨w.heap.size, 0, none⟩) (by simp; omega)).trans ((HAL.out.cell (p := ⟨w.heap.size, 0, none⟩) hw5).trans c5)
    have cx : w6.cell? ⟨w5.heap.size, 0, none⟩ = some (.slice (some ⟨g2, 0, none⟩) xs.length xs.length) := (hb6.cell (p := ⟨w5.heap.size, 0, none⟩) (by simp)).trans CX0.out
    have hq : w5.heap.size < w6.heap.size := by have := hb6.size; simp at this; omega
    have hwl : w.heap.size < w6.heap.size := by omega
    have EQ : Hid _ := fun g3 W h1 h2 => eqPile_self (some ⟨g2, 0, none⟩) (some ⟨g3, 0, none⟩) xs.length xs.length xs W hn h1 h2
    have HO6 : Hid _ := (HO4.out.below HAL.out HO4.out.lt).below hb6 (Nat.lt_of_lt_of_le HO4.out.lt HAL.out.size)
    clear hb6 hB5 hR5 c5 HXa HAL CX0 IG HO4
    have HX7 : Hid _ := new_bw w6 O 28
    have HRN : Hid _ := MA.Rg.new w6 (Bd.cs B1.zero) 28
    have EB : Hid (∀ W : World, Calls Try.prog 31 #[.agg O.cs.toArray, .agg O.cs.toArray] W fun e w' => e = .returned (.bool true) ∧ Below W.heap.size W w') := fun W => eqBundle_self O W
    go_wp2_with (first
      | (refine MA.load_r rfl 28 _ rfl rfl (cs := O.cs) ?_ Try.underlying28 rfl Try.sizeBundle rfl ?_; first | exact G7.out | exact G4.out)
      | (refine MA.alloc_z rfl 28 rfl _ _ Try.infoBundle ?_; simp only [MA.sz_alloc])
      | (refine MA.store_m rfl 28 _ _ rfl rfl rfl (vs := O.cs) (cs := Bd.cs B1.zero) ?_ Try.sizeBundle rfl rfl (MA.cs_one _) ?_; exact HRN.out; clear HRN; generalize World.setCells _ _ _ _ = W7 at *; have G7 : Hid _ := HX7.out.2.rng; have G4 : Hid _ := (HO6.out.below HX7.out.1 HO6.out.lt).rng))
    refine (EB.out _).mono ?_
    rintro e w7' ⟨rfl, hb7'⟩
    have hAA : Below w6.heap.size w6 w7' := HX7.out.1.trans (hb7'.mono HX7.out.1.size)
    replace hB6 := hB6.trans (hAA.mono hB6.size)
    replace hR6 := hR6.below hAA
    replace hX6 := MP.BsAt.below hX6 hAA
    replace ca : w7'.cell? ⟨w.heap.size, 0, none⟩ = some (.slice a xs.length cap) := (hAA.cell (p := ⟨w.heap.size, 0, none⟩) hwl).trans ca
    replace cx : w7'.cell? ⟨w5.heap.size, 0, none⟩ = some (.slice (some ⟨g2, 0, none⟩) xs.length xs.length) := (hAA.cell (p := ⟨w5.heap.size, 0, none⟩) hq).trans cx
    replace hq : w5.heap.size < w7'.heap.size := Nat.lt_of_lt_of_le hq hAA.size
    replace hwl : w.heap.size < w7'.heap.size := Nat.lt_of_lt_of_le hwl hAA.size
    clear hAA hb7' HX7 HO6 G7 G4 EB
    go_wp2
    refine MR.frame fun A hA => ?_
    have hsz : A.tmps.size = 41 := by rw [hA]; rfl
    have e1 : A.eval (.tmp 1) = .pointer (some ⟨w.heap.size, 0, none⟩) := by rw [hA]; rfl
    have f1 := MR.read (t := 1) (by rw [hsz]; decide) e1
    have e6 : A.eval (.tmp 6) = .pointer (some ⟨w5.heap.size, 0, none⟩) := by rw [hA]; rfl
    have f6 := MR.read (t := 6) (by rw [hsz]; decide) e6
    have HA : Hid (A = _) := hA
    clear hA
    have hS : (fun w' : World => Below w7'.heap.size w7' w') (World.drew _) := ((Below.refl _ w7').drew)
    refine wp_region_held (S := fun w' : World => Below w7'.heap.size w7' w') (by kernel_rfl) ?_
    change wpAnyH _ _ _ _ _ _ _ _ (World.drew _)
    refine MR.takeH (i := 0) (some 36) (.agg #[.slice (some ⟨g2, 0, none⟩) xs.length xs.length]) rfl rfl (by kernel_rfl) (by kernel_rfl) (by kernel_rfl) (fun _ _ _ h => h) hS (MR.free rfl) (fun wq hw => by simp [execOp, MR.ev, MR.size, hsz, e1, f1, e6, f6, (hw.cell (p := ⟨w5.heap.size, 0, none⟩) hq).trans cx, go_sem]) ?_
    refine MR.takeH (i := 1) (some 37) (.agg #[.slice a xs.length cap]) rfl rfl (by kernel_rfl) (by kernel_rfl) (by kernel_rfl) (fun _ _ _ h => h) hS (MR.free rfl) (fun wq hw => by simp [execOp, MR.ev, MR.size, hsz, e1, f1, e6, f6, (hw.cell (p := ⟨w.heap.size, 0, none⟩) hwl).trans ca, go_sem]) ?_
    refine MR.callH (i := 2) (some 38) (17) (#[.agg #[.slice a xs.length cap]]) (by kernel_rfl) rfl rfl (MR.free rfl) (by simp [execOp, MR.ev, MR.size, hsz, e1, f1, e6, f6, go_sem]) ?_
    refine Calls.mono (TP.out _ ((hR6.below hS))) ?_
    rintro e w7 ⟨g3, rfl, ho3, hb7⟩
    have hS7 : Below w7'.heap.size w7' w7 := hS.trans (hb7.mono hS.size)
    have hx3 : MP.BsAt w7 (some ⟨g3, 0, none⟩) xs := MP.BsAt.of_own ho3
    refine ⟨_, rfl, hS7, ?_⟩
    refine MR.callH (i := 3) (some 39) (19) (#[.agg #[.slice (some ⟨g2, 0, none⟩) xs.length xs.length], .agg #[.slice (some ⟨g3, 0, none⟩) xs.length xs.length]]) (by kernel_rfl) rfl rfl (MR.free rfl) (by simp [execOp, MR.ev, MR.size, hsz, e1, f1, e6, f6, go_sem]) ?_
    refine Calls.mono (EQ.out g3 _ (hX6.below hS7) hx3) ?_
    rintro e w8 ⟨rfl, hb8⟩
    have hS8 : Below w7'.heap.size w7' w8 := hS7.trans (hb8.mono hS7.size)
    refine ⟨_, rfl, hS8, ?_⟩
    refine MR.takeH (i := 4) (some 40) (.bool false) rfl rfl (by kernel_rfl) (by kernel_rfl) (by kernel_rfl) (fun _ _ _ h => h) hS8 (MR.free rfl) (fun wq hw => by simp [execOp, MR.ev, MR.size, hsz, e1, f1, e6, f6, go_sem]) ?_
    refine wpAnyH_done (by kernel_rfl) ?_ _
    have hB8 : Below w.heap.size w w8 := hB6.trans (hS8.mono hB6.size)
    rw [HA.out]
    clear hS hS7 hS8 hb7 hb8 HA e1 e6 f1 f6 hsz EQ TP ca cx hR6 hX6 hx3 ho3
    simp only [Act.put, List.setIfInBounds_toArray, List.set_cons_succ, List.set_cons_zero]
    go_wp2
    go_ret
    exact ⟨rfl, hB8⟩
end Go.Proofs.Ythpmlefaloiapaa
