/- The law FnExactCovered answers true at every pile. -/
import Derived.Test.YthpmlefaloiapaaRows
import Derived.Test.YthpmlefaloiapaaCCovI
import Derived.Test.YthpmlefaloiapaaCEqPile
import Derived.Test.YthpmlefaloiapaaCMarkPile
import Derived.Test.YthpmlefaloiapaaCEqIntS
import Derived.Test.YthpmlefaloiapaaCMarkIntS
import Derived.WalkKit
import Derived.WalkSpells
import Derived.WalkLawsBesides
import Derived.Outline
namespace Go.Proofs.Ythpmlefaloiapaa
open Go.RowKit
set_option linter.unusedSimpArgs false in
set_option maxHeartbeats 1600000 in
set_option maxRecDepth 100000 in
theorem lawCovered_any (a : Option Addr) (cap : Nat) (xs : List Bd) (w : World) (hn : xs.length ≤ maxLen) (ht : Hid (∀ k, k < xs.length → (MP.at_ xs k).py.size ≤ maxLen)) (hin : MP.BsAt w a xs) :
    Calls Try.prog 6 #[.agg #[.slice a xs.length cap]] w fun e w' => e = .returned (.bool true) ∧ Below w.heap.size w w' := by
  have SZ : Hid _ := fun W h => szPile_any a cap xs W hn ht h
  have hB : Below w.heap.size w (w.alloc (.cells #[.slice a xs.length cap] 35)) := (Below.refl _ w).alloc (Nat.le_refl _) _
  have HI : Hid (MP.BsAt (w.alloc (.cells #[.slice a xs.length cap] 35)) a xs) := hin.below hB
  have hw0 : w.heap.size < (w.alloc (.cells #[.slice a xs.length cap] 35)).heap.size := by simp
  have c0 : (w.alloc (.cells #[.slice a xs.length cap] 35)).cell? ⟨w.heap.size, 0, none⟩ = some (.slice a xs.length cap) := by simp
  have hcl := covL_len xs
  have HIN : Hid (MP.BsAt w a xs) := hin
  clear hin ht hn
  go_enter Try.func6, Try.ntmps6
  go_wp2_with fail
  refine (SZ.out _ HI.out).mono ?_
  rintro e w1 ⟨r, rfl, hr, hb1⟩
  have hB1 := hB.trans (hb1.mono hB.size)
  have hR1 := HI.out.below hb1
  have c1 : w1.cell? ⟨w.heap.size, 0, none⟩ = some (.slice a xs.length cap) := (hb1.cell (p := ⟨w.heap.size, 0, none⟩) hw0).trans c0
  have hw1 : w.heap.size < w1.heap.size := Nat.lt_of_lt_of_le hw0 hb1.size
  clear SZ HI hb1 hB c0 hw0
  by_cases h0 : r < 0
  · clear hr
    go_wp2
    go_ret
    exact ⟨rfl, hB1⟩
  · obtain ⟨-, -, hn, ht⟩ : 0 ≤ r ∧ r ≤ 1048576 ∧ xs.length ≤ 1048576 ∧ Hid (∀ k, k < xs.length → (MP.at_ xs k).py.size ≤ 1048576) := by rcases hr with hr | hr; exact absurd hr h0; exact hr
    have TP : Hid _ := fun W h => toPile_any a cap xs W hn h
    have SG : Hid _ := fun g W h => specCovered_any (some ⟨g, 0, none⟩) xs.length xs W hn ht h (Nat.le_refl _)
    have IG : Hid _ := fun g W h => implCovered_any (some ⟨g, 0, none⟩) xs.length xs W hn ht h
    clear ht hr
    generalize PL.good xs = R at *
    generalize covL xs = L at *
    go_wp2_with fail
    refine (TP.out _ hR1).mono ?_
    rintro e w2 ⟨g, rfl, ho, hb2⟩
    have hB2 := hB1.trans (hb2.mono hB1.size)
    have hR2 := hR1.below hb2
    have hX2 : MP.BsAt w2 (some ⟨g, 0, none⟩) xs := MP.BsAt.of_own ho
    have c2 : w2.cell? ⟨w.heap.size, 0, none⟩ = some (.slice a xs.length cap) := (hb2.cell (p := ⟨w.heap.size, 0, none⟩) hw1).trans c1
    have hw2 : w.heap.size < w2.heap.size := Nat.lt_of_lt_of_le hw1 hb2.size
    clear hb2 hB1 hR1 c1 hw1 ho
    go_wp2_with fail
    refine (SG.out g _ hX2).mono ?_
    rintro e w3 ⟨a1, k1, rfl, own1, hb3⟩
    have hB3 := hB2.trans (hb3.mono hB2.size)
    have hR3 := hR2.below hb3
    have c3 : w3.cell? ⟨w.heap.size, 0, none⟩ = some (.slice a xs.length cap) := (hb3.cell (p := ⟨w.heap.size, 0, none⟩) hw2).trans c2
    have hw3 : w.heap.size < w3.heap.size := Nat.lt_of_lt_of_le hw2 hb3.size
    have in1 : Hid (M4.IntsAt w3 a1 L) := M5.own_ints own1
    have C3 : Hid _ := c3
    clear hb3 hB2 hR2 c2 hw2 SG hX2 own1
    go_wp2_with fail
    refine (TP.out _ hR3).mono ?_
    rintro e w5 ⟨g2, rfl, ho, hb5⟩
    have hR5 := hR3.below hb5
    have hX5 : MP.BsAt w5 (some ⟨g2, 0, none⟩) xs := MP.BsAt.of_own ho
    have hG : w3.heap.size ≤ g2 ∧ g2 < w5.heap.size := ho.lt g2 rfl
    have HRG : Hid (MA.Rg w5 g2 0 (MP.flat xs)) := MA.Rg.of_own ho
    have c5 : w5.cell? ⟨w.heap.size, 0, none⟩ = some (.slice a xs.length cap) := (hb5.cell (p := ⟨w.heap.size, 0, none⟩) hw3).trans c3
    have hw5 : w.heap.size < w5.heap.size := Nat.lt_of_lt_of_le hw3 hb5.size
    have hC5 : Below w3.heap.size w3 w5 := hb5
    clear hb5 hR3 c3 ho
    have hal : Below w5.heap.size w5 (w5.alloc (.cells #[.slice (some ⟨g2, 0, none⟩) xs.length xs.length] 39)) := (Below.refl _ w5).alloc (Nat.le_refl _) _
    have HXa : Hid _ := hX5.below hal
    have HAL : Hid _ := hal
    have cx0 : (w5.alloc (.cells #[.slice (some ⟨g2, 0, none⟩) xs.length xs.length] 39)).cell? ⟨w5.heap.size, 0, none⟩ = some (.slice (some ⟨g2, 0, none⟩) xs.length xs.length) := by simp
    have CX0 : Hid _ := cx0
    clear hal cx0 hX5
    go_wp2_with fail
    refine (IG.out g2 _ HXa.out).mono ?_
    rintro e w6 ⟨a2, k2, rfl, own2, hb6⟩
    have hA6 : Below w5.heap.size w5 w6 := HAL.out.trans (hb6.mono HAL.out.size)
    have hC6 : Below w3.heap.size w3 w6 := hC5.trans (hA6.mono (by omega))
    have hR6' := hR5.below hA6
    have hX6' : MP.BsAt w6 (some ⟨g2, 0, none⟩) xs := MP.BsAt.below HXa.out hb6
    have ca6 : w6.cell? ⟨w.heap.size, 0, none⟩ = some (.slice a xs.length cap) := (hA6.cell (p := ⟨w.heap.size, 0, none⟩) hw5).trans c5
    have cx6 : w6.cell? ⟨w5.heap.size, 0, none⟩ = some (.slice (some ⟨g2, 0, none⟩) xs.length xs.length) := (hb6.cell (p := ⟨w5.heap.size, 0, none⟩) (by simp)).trans CX0.out
    have hq6 : w5.heap.size < w6.heap.size := by have := hb6.size; simp at this; omega
    have own2' : Hid (w6.ownsRow (w5.heap.size + 1) 3 1 (.slice a2 L.length k2) L.length (M4.iv L)) := by have := own2; show w6.ownsRow _ _ _ _ _ _; simpa using this
    have HRG6 : Hid (MA.Rg w6 g2 0 (MP.flat xs)) := HRG.out.below hA6 hG.2
    clear hb6 hR5 c5 HXa HAL CX0 own2 HRG hA6 hC5
    have in2 := M5.own_ints own2'.out
    go_wp2_with fail
    refine (eqIntS_any _ _ _ _ L L _ (by omega) (by omega) in2 (M4.IntsAt.below in1.out hC6)).mono ?_
    rintro e w7 ⟨rfl, hb7⟩
    have hC7 : Below w3.heap.size w3 w7 := hC6.trans (hb7.mono hC6.size)
    have hR6 := hR6'.below hb7
    have hX6 := hX6'.below hb7
    have ca : w7.cell? ⟨w.heap.size, 0, none⟩ = some (.slice a xs.length cap) := (hb7.cell (p := ⟨w.heap.size, 0, none⟩) (by show w.heap.size < _; omega)).trans ca6
    have cx : w7.cell? ⟨w5.heap.size, 0, none⟩ = some (.slice (some ⟨g2, 0, none⟩) xs.length xs.length) := (hb7.cell (p := ⟨w5.heap.size, 0, none⟩) hq6).trans cx6
    have hq : w5.heap.size < w7.heap.size := Nat.lt_of_lt_of_le hq6 hb7.size
    have hwl : w.heap.size < w7.heap.size := by omega
    replace own2' : Hid (w7.ownsRow (w5.heap.size + 1) 3 1 (.slice a2 L.length k2) L.length (M4.iv L)) := M5.own_below own2'.out hb7
    replace HRG6 : Hid (MA.Rg w7 g2 0 (MP.flat xs)) := HRG6.out.below hb7 HRG6.out.lt
    have EQ : Hid _ := fun g3 W h1 h2 => eqPile_self (some ⟨g2, 0, none⟩) (some ⟨g3, 0, none⟩) xs.length xs.length xs W hn h1 h2
    clear hb7 in2 hC6 hR6' hX6' ca6 cx6
    simp only [decide_true]
    go_wp2
    refine MR.frame fun A hA => ?_
    have hsz : A.tmps.size = 96 := by rw [hA]; rfl
    have e1 : A.eval (.tmp 1) = .pointer (some ⟨w.heap.size, 0, none⟩) := by rw [hA]; rfl
    have f1 := MR.read (t := 1) (by rw [hsz]; decide) e1
    have e6 : A.eval (.tmp 6) = .pointer (some ⟨w5.heap.size, 0, none⟩) := by rw [hA]; rfl
    have f6 := MR.read (t := 6) (by rw [hsz]; decide) e6
    have HA : Hid (A = _) := hA
    clear hA
    have hS : (fun w' : World => Below w7.heap.size w7 w') (World.drew _) := ((Below.refl _ w7).drew)
    refine wp_region_held (S := fun w' : World => Below w7.heap.size w7 w') (by kernel_rfl) ?_
    change wpAnyH _ _ _ _ _ _ _ _ (World.drew _)
    refine MR.takeH (i := 0) (some 41) (.agg #[.slice (some ⟨g2, 0, none⟩) xs.length xs.length]) rfl rfl (by kernel_rfl) (by kernel_rfl) (by kernel_rfl) (fun _ _ _ h => h) hS (MR.free rfl) (fun wq hw => by simp [execOp, MR.ev, MR.size, hsz, e1, f1, e6, f6, (hw.cell (p := ⟨w5.heap.size, 0, none⟩) hq).trans cx, go_sem]) ?_
    refine MR.takeH (i := 1) (some 42) (.agg #[.slice a xs.length cap]) rfl rfl (by kernel_rfl) (by kernel_rfl) (by kernel_rfl) (fun _ _ _ h => h) hS (MR.free rfl) (fun wq hw => by simp [execOp, MR.ev, MR.size, hsz, e1, f1, e6, f6, (hw.cell (p := ⟨w.heap.size, 0, none⟩) hwl).trans ca, go_sem]) ?_
    refine MR.callH (i := 2) (some 43) (17) (#[.agg #[.slice a xs.length cap]]) (by kernel_rfl) rfl rfl (MR.free rfl) (by simp [execOp, MR.ev, MR.size, hsz, e1, f1, e6, f6, go_sem]) ?_
    refine Calls.mono (TP.out _ ((hR6.below hS))) ?_
    rintro e w8 ⟨g3, rfl, ho3, hb8⟩
    have hS8 : Below w7.heap.size w7 w8 := hS.trans (hb8.mono hS.size)
    have hx3 : MP.BsAt w8 (some ⟨g3, 0, none⟩) xs := MP.BsAt.of_own ho3
    refine ⟨_, rfl, hS8, ?_⟩
    refine MR.callH (i := 3) (some 44) (19) (#[.agg #[.slice (some ⟨g2, 0, none⟩) xs.length xs.length], .agg #[.slice (some ⟨g3, 0, none⟩) xs.length xs.length]]) (by kernel_rfl) rfl rfl (MR.free rfl) (by simp [execOp, MR.ev, MR.size, hsz, e1, f1, e6, f6, go_sem]) ?_
    refine Calls.mono (EQ.out g3 _ (hX6.below hS8) hx3) ?_
    rintro e w9 ⟨rfl, hb9⟩
    have hS9 : Below w7.heap.size w7 w9 := hS8.trans (hb9.mono hS8.size)
    refine ⟨_, rfl, hS9, ?_⟩
    refine MR.takeH (i := 4) (some 45) (.bool false) rfl rfl (by kernel_rfl) (by kernel_rfl) (by kernel_rfl) (fun _ _ _ h => h) hS9 (MR.free rfl) (fun wq hw => by simp [execOp, MR.ev, MR.size, hsz, e1, f1, e6, f6, go_sem]) ?_
    refine wpAnyH_done (by kernel_rfl) ?_ _
    rw [HA.out]
    have hC9 : Below w3.heap.size w3 w9 := hC7.trans (hS9.mono hC7.size)
    have cx9 : w9.cell? ⟨w5.heap.size, 0, none⟩ = some (.slice (some ⟨g2, 0, none⟩) xs.length xs.length) := (hS9.cell (p := ⟨w5.heap.size, 0, none⟩) hq).trans cx
    have ca9 : w9.cell? ⟨w.heap.size, 0, none⟩ = some (.slice a xs.length cap) := (hS9.cell (p := ⟨w.heap.size, 0, none⟩) hwl).trans ca
    have hR9 := hR6.below hS9
    replace own2' : Hid (w9.ownsRow (w5.heap.size + 1) 3 1 (.slice a2 L.length k2) L.length (M4.iv L)) := M5.own_below own2'.out hS9
    replace HRG6 : Hid (MA.Rg w9 g2 0 (MP.flat xs)) := HRG6.out.below hS9 HRG6.out.lt
    have hq9 : w5.heap.size < w9.heap.size := Nat.lt_of_lt_of_le hq hS9.size
    clear hS hS8 hS9 hb8 hb9 HA e1 e6 f1 f6 hsz EQ ca cx hR6 hX6 hx3 ho3 hC7 hq
    simp only [Act.put, List.setIfInBounds_toArray, List.set_cons_succ, List.set_cons_zero]
    go_wp2_with fail
    refine (markPile_only g2 xs.length 1 (MP.flat xs) _ hn (by omega) (MP.flat_len xs) HRG6.out).mono ?_
    rintro e wA ⟨rfl, hO⟩
    have hCA : Below w3.heap.size w3 wA := hC9.trans (hO.below hG.1 hC9.size)
    have ownA := MC.own_only own2'.out hO (by omega)
    have hszB : w5.heap.size + 1 ≤ wA.heap.size := Nat.le_trans hq9 hO.size
    have in2A := M5.own_ints ownA
    clear hO hC9 HRG6 own2' hR9 cx9 ca9 hq9 hwl
    go_wp2_with fail
    refine (eqIntS_any _ _ _ _ L L _ (by omega) (by omega) in2A (M4.IntsAt.below in1.out hCA)).mono ?_
    rintro e wB ⟨rfl, hbB⟩
    have hCB : Below w3.heap.size w3 wB := hCA.trans (hbB.mono hCA.size)
    have ownB : Hid _ := M5.own_below ownA hbB
    have hsB : w5.heap.size + 1 ≤ wB.heap.size := by
      have h1 := hbB.size
      exact Nat.le_trans hszB h1
    clear hbB hCA ownA in2A
    simp only [decide_true]
    go_wp2_with fail
    refine (markIntS_any (w5.heap.size + 1) _ L 1 _ (by omega) (by omega) (by omega) hsB ownB.out).mono ?_
    rintro e wC ⟨rfl, ownC, hbC⟩
    have hCC : Below w3.heap.size w3 wC := hCB.trans (hbC.mono (by omega))
    have inC := M5.own_ints ownC
    have HINC : Hid _ := inC
    clear ownC ownB hCB hbC hsB
    go_wp2_with fail
    refine (heldIntS_any _ _ L.length 1 _ (by omega) (by omega) (by omega) inC).mono ?_
    rintro e w' ⟨rfl, rfl⟩
    have hBC : Below w.heap.size w wC := hB3.trans (hCC.mono hB3.size)
    have hRC := HIN.out.below hBC
    have caC : wC.cell? ⟨w.heap.size, 0, none⟩ = some (.slice a xs.length cap) := (hCC.cell (p := ⟨w.heap.size, 0, none⟩) hw3).trans C3.out
    clear inC
    go_wp2_with fail
    refine (TP.out _ hRC).mono ?_
    rintro e wD ⟨g4, rfl, ho4, hbD⟩
    have hX4 : MP.BsAt wD (some ⟨g4, 0, none⟩) xs := MP.BsAt.of_own ho4
    have hCD : Below w3.heap.size w3 wD := hCC.trans (hbD.mono hCC.size)
    replace HINC : Hid (M4.IntsAt wD a2 (M5.marks 1 L.length)) := M4.IntsAt.below HINC.out hbD
    clear hbD ho4 hCC hBC hRC caC TP
    go_wp2_with fail
    refine (IG.out g4 _ hX4).mono ?_
    rintro e wE ⟨a3, k3, rfl, own3, hbE⟩
    have hCE : Below w3.heap.size w3 wE := hCD.trans (hbE.mono hCD.size)
    have in3 := M5.own_ints own3
    replace HINC : Hid (M4.IntsAt wE a2 (M5.marks 1 L.length)) := M4.IntsAt.below HINC.out hbE
    clear hbE own3 hCD hX4 IG
    go_wp2_with fail
    refine (eqIntS_any _ _ _ _ L L _ (by omega) (by omega) in3 (M4.IntsAt.below in1.out hCE)).mono ?_
    rintro e wF ⟨rfl, hbF⟩
    have hCF : Below w3.heap.size w3 wF := hCE.trans (hbF.mono hCE.size)
    have inF := M4.IntsAt.below HINC.out hbF
    clear hbF in3 hCE HINC
    simp only [decide_true]
    go_wp2_with fail
    refine (heldIntS_any _ _ L.length 1 _ (by omega) (by omega) (by omega) inF).mono ?_
    rintro e w' ⟨rfl, rfl⟩
    have hBF : Below w.heap.size w wF := hB3.trans (hCF.mono hB3.size)
    clear inF hCF
    go_wp2
    go_ret
    exact ⟨rfl, hBF⟩
end Go.Proofs.Ythpmlefaloiapaa
