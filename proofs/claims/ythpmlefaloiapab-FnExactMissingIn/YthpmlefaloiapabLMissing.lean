/- The law FnExactMissingIn answers true at every pile. -/
import Derived.Test.YthpmlefaloiapabRows
import Derived.Test.YthpmlefaloiapabCMissI
import Derived.Test.YthpmlefaloiapabCEqPile
import Derived.WalkKit
import Derived.WalkSpells
import Derived.WalkLawsBesides
import Derived.Outline
namespace Go.Proofs.Ythpmlefaloiapab
open Go.RowKit
set_option linter.unusedSimpArgs false in
set_option maxHeartbeats 800000 in
set_option maxRecDepth 100000 in
theorem lawMissing_any (a : Option Addr) (cap : Nat) (xs : List Bd) (w : World) (hn : xs.length ≤ maxLen) (ht : Hid (∀ k, k < xs.length → (MP.at_ xs k).py.size ≤ maxLen)) (hin : MP.BsAt w a xs) :
    Calls Try.prog 4 #[.agg #[.slice a xs.length cap]] w fun e w' => e = .returned (.bool true) ∧ Below w.heap.size w w' := by
  have SZ : Hid _ := fun W h => szPile_any a cap xs W hn ht h
  have hB : Below w.heap.size w (w.alloc (.cells #[.slice a xs.length cap] 33)) := (Below.refl _ w).alloc (Nat.le_refl _) _
  have HI : Hid (MP.BsAt (w.alloc (.cells #[.slice a xs.length cap] 33)) a xs) := hin.below hB
  have hw0 : w.heap.size < (w.alloc (.cells #[.slice a xs.length cap] 33)).heap.size := by simp
  have c0 : (w.alloc (.cells #[.slice a xs.length cap] 33)).cell? ⟨w.heap.size, 0, none⟩ = some (.slice a xs.length cap) := by simp
  clear hin ht hn
  go_enter Try.func4, Try.ntmps4
  go_wp2_with fail
  refine (SZ.out _ HI.out).mono ?_
  rintro e w1 ⟨r, rfl, hr, hb1⟩
  have hB1 := hB.trans (hb1.mono hB.size)
  have hR1 := HI.out.below hb1
  have c1 : w1.cell? ⟨w.heap.size, 0, none⟩ = some (.slice a xs.length cap) := (hb1.cell (p := ⟨w.heap.size, 0, none⟩) hw0).trans c0
  have hw1 : w.heap.size < w1.heap.size := Nat.lt_of_lt_of_le hw0 hb1.size
  clear SZ HI hb1 hB c0 hw0
  by_cases h0 : r < 0
  · clear hr
    go_wp2
    go_ret
    exact ⟨rfl, hB1⟩
  · obtain ⟨-, -, hn, ht⟩ : 0 ≤ r ∧ r ≤ 1048576 ∧ xs.length ≤ 1048576 ∧ Hid (∀ k, k < xs.length → (MP.at_ xs k).py.size ≤ 1048576) := by rcases hr with hr | hr; exact absurd hr h0; exact hr
    have TP : Hid _ := fun W h => toPile_any a cap xs W hn h
    have SG : Hid _ := fun g W h => specMissing_any (some ⟨g, 0, none⟩) xs.length xs W hn ht h (Nat.le_refl _)
    have IG : Hid _ := fun g W h => implMissing_any (some ⟨g, 0, none⟩) xs.length xs W hn ht h
    clear ht hr
    have HR1 : Hid _ := hR1
    go_wp2_with fail
    refine (TP.out _ hR1).mono ?_
    rintro e w2 ⟨g, rfl, ho, hb2⟩
    have hB2 := hB1.trans (hb2.mono hB1.size)
    have hR2 := hR1.below hb2
    have hX2 : MP.BsAt w2 (some ⟨g, 0, none⟩) xs := MP.BsAt.of_own ho
    have c2 : w2.cell? ⟨w.heap.size, 0, none⟩ = some (.slice a xs.length cap) := (hb2.cell (p := ⟨w.heap.size, 0, none⟩) hw1).trans c1
    have hw2 : w.heap.size < w2.heap.size := Nat.lt_of_lt_of_le hw1 hb2.size
    clear hb2 hB1 hR1 c1 hw1 ho HR1
    go_wp2_with fail
    refine (SG.out g _ hX2).mono ?_
    rintro e w3 ⟨rfl, hb3⟩
    have hB3 := hB2.trans (hb3.mono hB2.size)
    have hR3 := hR2.below hb3
    have c3 : w3.cell? ⟨w.heap.size, 0, none⟩ = some (.slice a xs.length cap) := (hb3.cell (p := ⟨w.heap.size, 0, none⟩) hw2).trans c2
    have hw3 : w.heap.size < w3.heap.size := Nat.lt_of_lt_of_le hw2 hb3.size
    clear hb3 hB2 hR2 c2 hw2 SG hX2
    generalize PL.good xs = R at *
    generalize missN xs = M at *
    go_wp2_with fail
    refine (TP.out _ hR3).mono ?_
    rintro e w5 ⟨g2, rfl, ho, hb5⟩
    have hB5 := hB3.trans (hb5.mono hB3.size)
    have hR5 := hR3.below hb5
    have hX5 : MP.BsAt w5 (some ⟨g2, 0, none⟩) xs := MP.BsAt.of_own ho
    have c5 : w5.cell? ⟨w.heap.size, 0, none⟩ = some (.slice a xs.length cap) := (hb5.cell (p := ⟨w.heap.size, 0, none⟩) hw3).trans c3
    have hw5 : w.heap.size < w5.heap.size := Nat.lt_of_lt_of_le hw3 hb5.size
    clear hb5 hB3 hR3 c3 hw3 ho
    have hal : Below w5.heap.size w5 (w5.alloc (.cells #[.slice (some ⟨g2, 0, none⟩) xs.length xs.length] 39)) := (Below.refl _ w5).alloc (Nat.le_refl _) _
    have HXa : Hid _ := hX5.below hal
    have HAL : Hid _ := hal
    have cx0 : (w5.alloc (.cells #[.slice (some ⟨g2, 0, none⟩) xs.length xs.length] 39)).cell? ⟨w5.heap.size, 0, none⟩ = some (.slice (some ⟨g2, 0, none⟩) xs.length xs.length) := by simp
    have CX0 : Hid _ := cx0
    clear hal cx0 hX5
    go_wp2_with fail
    refine (IG.out g2 _ HXa.out).mono ?_
    rintro e w6 ⟨rfl, hb6⟩
    have hB6 := (hB5.trans (HAL.out.mono hB5.size)).trans (hb6.mono (Nat.le_trans hB5.size HAL.out.size))
    have hR6 := (hR5.below HAL.out).below hb6
    have hX6 : MP.BsAt w6 (some ⟨g2, 0, none⟩) xs := MP.BsAt.below HXa.out hb6
    have ca : w6.cell? ⟨w.heap.size, 0, none⟩ = some (.slice a xs.length cap) := (hb6.cell (p := ⟨w.heap.size, 0, none⟩) (by simp; omega)).trans ((HAL.out.cell (p := ⟨w.heap.size, 0, none⟩) hw5).trans c5)
    have cx : w6.cell? ⟨w5.heap.size, 0, none⟩ = some (.slice (some ⟨g2, 0, none⟩) xs.length xs.length) := (hb6.cell (p := ⟨w5.heap.size, 0, none⟩) (by simp)).trans CX0.out
    have hq : w5.heap.size < w6.heap.size := by have := hb6.size; simp at this; omega
    have hwl : w.heap.size < w6.heap.size := by omega
    have EQ : Hid _ := fun g3 W h1 h2 => eqPile_self (some ⟨g2, 0, none⟩) (some ⟨g3, 0, none⟩) xs.length xs.length xs W hn h1 h2
    clear hb6 hB5 hR5 c5 HXa HAL CX0 IG
    go_wp2
    refine MR.frame fun A hA => ?_
    have hsz : A.tmps.size = 40 := by rw [hA]; rfl
    have e1 : A.eval (.tmp 1) = .pointer (some ⟨w.heap.size, 0, none⟩) := by rw [hA]; rfl
    have f1 := MR.read (t := 1) (by rw [hsz]; decide) e1
    have e6 : A.eval (.tmp 6) = .pointer (some ⟨w5.heap.size, 0, none⟩) := by rw [hA]; rfl
    have f6 := MR.read (t := 6) (by rw [hsz]; decide) e6
    have HA : Hid (A = _) := hA
    clear hA
    have hS : (fun w' : World => Below w6.heap.size w6 w') (World.drew _) := ((Below.refl _ w6).drew)
    refine wp_region_held (S := fun w' : World => Below w6.heap.size w6 w') (by kernel_rfl) ?_
    change wpAnyH _ _ _ _ _ _ _ _ (World.drew _)
    refine MR.takeH (i := 0) (some 35) (.agg #[.slice (some ⟨g2, 0, none⟩) xs.length xs.length]) rfl rfl (by kernel_rfl) (by kernel_rfl) (by kernel_rfl) (fun _ _ _ h => h) hS (MR.free rfl) (fun wq hw => by simp [execOp, MR.ev, MR.size, hsz, e1, f1, e6, f6, (hw.cell (p := ⟨w5.heap.size, 0, none⟩) hq).trans cx, go_sem]) ?_
    refine MR.takeH (i := 1) (some 36) (.agg #[.slice a xs.length cap]) rfl rfl (by kernel_rfl) (by kernel_rfl) (by kernel_rfl) (fun _ _ _ h => h) hS (MR.free rfl) (fun wq hw => by simp [execOp, MR.ev, MR.size, hsz, e1, f1, e6, f6, (hw.cell (p := ⟨w.heap.size, 0, none⟩) hwl).trans ca, go_sem]) ?_
    refine MR.callH (i := 2) (some 37) (12) (#[.agg #[.slice a xs.length cap]]) (by kernel_rfl) rfl rfl (MR.free rfl) (by simp [execOp, MR.ev, MR.size, hsz, e1, f1, e6, f6, go_sem]) ?_
    refine Calls.mono (TP.out _ ((hR6.below hS))) ?_
    rintro e w7 ⟨g3, rfl, ho3, hb7⟩
    have hS7 : Below w6.heap.size w6 w7 := hS.trans (hb7.mono hS.size)
    have hx3 : MP.BsAt w7 (some ⟨g3, 0, none⟩) xs := MP.BsAt.of_own ho3
    refine ⟨_, rfl, hS7, ?_⟩
    refine MR.callH (i := 3) (some 38) (14) (#[.agg #[.slice (some ⟨g2, 0, none⟩) xs.length xs.length], .agg #[.slice (some ⟨g3, 0, none⟩) xs.length xs.length]]) (by kernel_rfl) rfl rfl (MR.free rfl) (by simp [execOp, MR.ev, MR.size, hsz, e1, f1, e6, f6, go_sem]) ?_
    refine Calls.mono (EQ.out g3 _ (hX6.below hS7) hx3) ?_
    rintro e w8 ⟨rfl, hb8⟩
    have hS8 : Below w6.heap.size w6 w8 := hS7.trans (hb8.mono hS7.size)
    refine ⟨_, rfl, hS8, ?_⟩
    refine MR.takeH (i := 4) (some 39) (.bool false) rfl rfl (by kernel_rfl) (by kernel_rfl) (by kernel_rfl) (fun _ _ _ h => h) hS8 (MR.free rfl) (fun wq hw => by simp [execOp, MR.ev, MR.size, hsz, e1, f1, e6, f6, go_sem]) ?_
    refine wpAnyH_done (by kernel_rfl) ?_ _
    have hB8 : Below w.heap.size w w8 := hB6.trans (hS8.mono hB6.size)
    rw [HA.out]
    clear hS hS7 hS8 hb7 hb8 HA e1 e6 f1 f6 hsz EQ TP ca cx hR6 hX6 hx3 ho3
    simp only [Act.put, List.setIfInBounds_toArray, List.set_cons_succ, List.set_cons_zero]
    go_wp2
    go_ret
    exact ⟨rfl, hB8⟩
end Go.Proofs.Ythpmlefaloiapab
