/- The law FnExactNewCustody answers true at every argument. -/
import Derived.Test.YtonablbjikegmaaRows
import Derived.Test.YtonablbjikegmaaCKzN
import Derived.Test.YtonablbjikegmaaCKzC
import Derived.Test.YtonablbjikegmaaCToIntO
import Derived.Test.YtonablbjikegmaaCEqIntS
import Derived.Test.YtonablbjikegmaaCMarkIntO
import Derived.Test.YtonablbjikegmaaCMarkIntS
import Derived.WalkKit
import Derived.WalkSpells
import Derived.WalkLawsBesides
import Derived.Outline
namespace Go.Proofs.Ytonablbjikegmaa
open Go.RowKit
theorem CU.tree_nil : TR.tree [] = false := by decide
theorem CU.tree_short {xs : List Int} (h : TR.tree xs = true) : 1 ≤ xs.length ∧ xs.length ≤ 8 := ((TR.tree_iff xs).1 h).1
set_option linter.unusedSimpArgs false in
set_option maxHeartbeats 3200000 in
set_option maxRecDepth 100000 in
theorem lawNewCus_yes (a0 : Option Addr) (cap0 : Nat) (xs : List Int) (w : World) (hz : xs.length ≤ 1048576) (hi0 : M4.IntsAt w a0 xs) (ht : TR.tree xs = true) :
    Calls Try.prog 3 #[.slice a0 xs.length cap0] w fun e w' => e = .returned (.bool true) ∧ Below w.heap.size w w' := by
  have H0 : Hid (M4.IntsAt w a0 xs) := hi0
  clear hi0
  have TP : Hid _ := fun W h => toIntS_own a0 cap0 xs W hz h
  have EQ0 : Hid _ := fun g g2 W h1 h2 => eqIntS_any (some ⟨g, 0, none⟩) (some ⟨g2, 0, none⟩) xs.length xs.length xs xs W (by omega) (by omega) h1 h2
  have SG : Hid _ := fun (g : Nat) (W : World) (h : M4.IntsAt W (some ⟨g, 0, none⟩) xs) => newCusS_yes g xs.length xs W hz h ht
  have IG : Hid _ := fun (g : Nat) (W : World) (h : M4.IntsAt W (some ⟨g, 0, none⟩) xs) => newCusI_yes g xs.length xs W hz h ht
  have hn := (CU.tree_short ht).2
  clear ht
  have B : Below w.heap.size w w := Below.refl _ _
  go_enter Try.func3, Try.ntmps3
  go_wp2_with fail
  refine (TP.out _ (M4.IntsAt.below H0.out B)).mono ?_
  rintro e w1 ⟨gs, rfl, ho, hb⟩
  have hgs := ho.lt gs rfl
  have rs : Hid (World.ownsRow w1 w.heap.size 3 1 (.slice (some ⟨gs, 0, none⟩) xs.length xs.length) xs.length (M4.iv xs)) := ho
  clear ho
  replace B := B.trans (hb.mono B.size)
  have hsw1 := hb.size
  clear hb
  go_wp2_with fail
  refine (SG.out gs _ (M4.IntsAt.of_own rs.out)).mono ?_
  rintro e w2 ⟨guS, cuS, gkS, rfl, hnw, hb⟩
  have ltS := hnw.lt
  have nS : Hid (CU.Nw w2 w1.heap.size guS cuS gkS xs) := hnw
  clear hnw
  unfold CU.val
  replace rs : Hid (World.ownsRow w2 w.heap.size 3 1 (.slice (some ⟨gs, 0, none⟩) xs.length xs.length) xs.length (M4.iv xs)) := M5.own_below rs.out hb
  replace B := B.trans (hb.mono B.size)
  have hsw2 := hb.size
  clear hb
  clear rs
  go_wp2_with fail
  have hb : Below w2.heap.size w2 (w2.alloc (.cells #[.slice (some ⟨guS, 0, none⟩) xs.length cuS, .slice (some ⟨gkS, 0, none⟩) xs.length xs.length, .slice none 0 0, .slice none 0 0] 26)) := (Below.refl _ _).alloc (Nat.le_refl _) _
  have bS := MA.Rg.new w2 [.slice (some ⟨guS, 0, none⟩) xs.length cuS, .slice (some ⟨gkS, 0, none⟩) xs.length xs.length, .slice none 0 0, .slice none 0 0] 26
  obtain ⟨pS, hpS⟩ : ∃ p, w2.heap.size = p := ⟨_, rfl⟩
  have hloS : w.heap.size ≤ pS := by have := B.size; omega
  rw [hpS] at bS ⊢
  change MA.Rg (w2.alloc (.cells #[.slice (some ⟨guS, 0, none⟩) xs.length cuS, .slice (some ⟨gkS, 0, none⟩) xs.length xs.length, .slice none 0 0, .slice none 0 0] 26)) pS 0 [.slice (some ⟨guS, 0, none⟩) xs.length cuS, .slice (some ⟨gkS, 0, none⟩) xs.length xs.length, .slice none 0 0, .slice none 0 0] at bS
  generalize w2.alloc (.cells #[.slice (some ⟨guS, 0, none⟩) xs.length cuS, .slice (some ⟨gkS, 0, none⟩) xs.length xs.length, .slice none 0 0, .slice none 0 0] 26) = w3 at *
  have hqS := bS.1
  replace nS : Hid (CU.Nw w3 w1.heap.size guS cuS gkS xs) := CU.Nw.below nS.out hb
  replace B := B.trans (hb.mono B.size)
  have hsw3 := hb.size
  clear hb
  go_wp2_with fail
  refine (TP.out _ (M4.IntsAt.below H0.out B)).mono ?_
  rintro e w4 ⟨gx, rfl, ho, hb⟩
  have hgx := ho.lt gx rfl
  have rx : Hid (World.ownsRow w4 w3.heap.size 3 1 (.slice (some ⟨gx, 0, none⟩) xs.length xs.length) xs.length (M4.iv xs)) := ho
  clear ho
  replace bS : MA.Rg w4 (pS) 0 [.slice (some ⟨guS, 0, none⟩) xs.length cuS, .slice (some ⟨gkS, 0, none⟩) xs.length xs.length, .slice none 0 0, .slice none 0 0] := bS.below hb bS.1
  replace nS : Hid (CU.Nw w4 w1.heap.size guS cuS gkS xs) := CU.Nw.below nS.out hb
  replace B := B.trans (hb.mono B.size)
  have hsw4 := hb.size
  clear hb
  go_wp2_with fail
  refine (IG.out gx _ (M4.IntsAt.of_own rx.out)).mono ?_
  rintro e w5 ⟨guG, cuG, gkG, rfl, hnw, hb⟩
  have ltG := hnw.lt
  have nG : Hid (CU.Nw w5 w4.heap.size guG cuG gkG xs) := hnw
  clear hnw
  unfold CU.val
  replace bS : MA.Rg w5 (pS) 0 [.slice (some ⟨guS, 0, none⟩) xs.length cuS, .slice (some ⟨gkS, 0, none⟩) xs.length xs.length, .slice none 0 0, .slice none 0 0] := bS.below hb bS.1
  replace nS : Hid (CU.Nw w5 w1.heap.size guS cuS gkS xs) := CU.Nw.below nS.out hb
  replace rx : Hid (World.ownsRow w5 w3.heap.size 3 1 (.slice (some ⟨gx, 0, none⟩) xs.length xs.length) xs.length (M4.iv xs)) := M5.own_below rx.out hb
  replace B := B.trans (hb.mono B.size)
  have hsw5 := hb.size
  clear hb
  have cS0 : w5.cell? ⟨pS, 0, none⟩ = some (.slice (some ⟨guS, 0, none⟩) xs.length cuS) := by have := bS.cell (j := 0) rfl; rwa [Nat.zero_add] at this
  have cS1 : w5.cell? ⟨pS, 1, none⟩ = some (.slice (some ⟨gkS, 0, none⟩) xs.length xs.length) := by have := bS.cell (j := 1) rfl; rwa [Nat.zero_add] at this
  have cS2 : w5.cell? ⟨pS, 2, none⟩ = some (.slice none 0 0) := by have := bS.cell (j := 2) rfl; rwa [Nat.zero_add] at this
  have cS3 : w5.cell? ⟨pS, 3, none⟩ = some (.slice none 0 0) := by have := bS.cell (j := 3) rfl; rwa [Nat.zero_add] at this
  have lS := bS.1
  go_wp2_with fail
  clear cS0 cS1 cS2 cS3 lS
  have hb : Below w5.heap.size w5 (w5.alloc (.cells #[.slice (some ⟨guG, 0, none⟩) xs.length cuG, .slice (some ⟨gkG, 0, none⟩) xs.length xs.length, .slice none 0 0, .slice none 0 0] 26)) := (Below.refl _ _).alloc (Nat.le_refl _) _
  have bG := MA.Rg.new w5 [.slice (some ⟨guG, 0, none⟩) xs.length cuG, .slice (some ⟨gkG, 0, none⟩) xs.length xs.length, .slice none 0 0, .slice none 0 0] 26
  obtain ⟨pG, hpG⟩ : ∃ p, w5.heap.size = p := ⟨_, rfl⟩
  have hloG : w.heap.size ≤ pG := by have := B.size; omega
  rw [hpG] at bG ⊢
  change MA.Rg (w5.alloc (.cells #[.slice (some ⟨guG, 0, none⟩) xs.length cuG, .slice (some ⟨gkG, 0, none⟩) xs.length xs.length, .slice none 0 0, .slice none 0 0] 26)) pG 0 [.slice (some ⟨guG, 0, none⟩) xs.length cuG, .slice (some ⟨gkG, 0, none⟩) xs.length xs.length, .slice none 0 0, .slice none 0 0] at bG
  generalize w5.alloc (.cells #[.slice (some ⟨guG, 0, none⟩) xs.length cuG, .slice (some ⟨gkG, 0, none⟩) xs.length xs.length, .slice none 0 0, .slice none 0 0] 26) = w6 at *
  have hqG := bG.1
  replace bS : MA.Rg w6 (pS) 0 [.slice (some ⟨guS, 0, none⟩) xs.length cuS, .slice (some ⟨gkS, 0, none⟩) xs.length xs.length, .slice none 0 0, .slice none 0 0] := bS.below hb bS.1
  replace nS : Hid (CU.Nw w6 w1.heap.size guS cuS gkS xs) := CU.Nw.below nS.out hb
  replace rx : Hid (World.ownsRow w6 w3.heap.size 3 1 (.slice (some ⟨gx, 0, none⟩) xs.length xs.length) xs.length (M4.iv xs)) := M5.own_below rx.out hb
  replace nG : Hid (CU.Nw w6 w4.heap.size guG cuG gkG xs) := CU.Nw.below nG.out hb
  replace B := B.trans (hb.mono B.size)
  have hsw6 := hb.size
  clear hb
  have cG0 : w6.cell? ⟨pG, 0, none⟩ = some (.slice (some ⟨guG, 0, none⟩) xs.length cuG) := by have := bG.cell (j := 0) rfl; rwa [Nat.zero_add] at this
  have cG1 : w6.cell? ⟨pG, 1, none⟩ = some (.slice (some ⟨gkG, 0, none⟩) xs.length xs.length) := by have := bG.cell (j := 1) rfl; rwa [Nat.zero_add] at this
  have cG2 : w6.cell? ⟨pG, 2, none⟩ = some (.slice none 0 0) := by have := bG.cell (j := 2) rfl; rwa [Nat.zero_add] at this
  have cG3 : w6.cell? ⟨pG, 3, none⟩ = some (.slice none 0 0) := by have := bG.cell (j := 3) rfl; rwa [Nat.zero_add] at this
  have lG := bG.1
  have cS0 : w6.cell? ⟨pS, 0, none⟩ = some (.slice (some ⟨guS, 0, none⟩) xs.length cuS) := by have := bS.cell (j := 0) rfl; rwa [Nat.zero_add] at this
  have cS1 : w6.cell? ⟨pS, 1, none⟩ = some (.slice (some ⟨gkS, 0, none⟩) xs.length xs.length) := by have := bS.cell (j := 1) rfl; rwa [Nat.zero_add] at this
  have cS2 : w6.cell? ⟨pS, 2, none⟩ = some (.slice none 0 0) := by have := bS.cell (j := 2) rfl; rwa [Nat.zero_add] at this
  have cS3 : w6.cell? ⟨pS, 3, none⟩ = some (.slice none 0 0) := by have := bS.cell (j := 3) rfl; rwa [Nat.zero_add] at this
  have lS := bS.1
  go_wp2_with fail
  refine (eqCustody_new guG cuG gkG guS cuS gkS _ _ xs _ hn nG.out nS.out).mono ?_
  rintro e w7 ⟨rfl, hb⟩
  clear cG0 cG1 cG2 cG3 lG
  clear cS0 cS1 cS2 cS3 lS
  replace bS : MA.Rg w7 (pS) 0 [.slice (some ⟨guS, 0, none⟩) xs.length cuS, .slice (some ⟨gkS, 0, none⟩) xs.length xs.length, .slice none 0 0, .slice none 0 0] := bS.below hb bS.1
  replace bG : MA.Rg w7 (pG) 0 [.slice (some ⟨guG, 0, none⟩) xs.length cuG, .slice (some ⟨gkG, 0, none⟩) xs.length xs.length, .slice none 0 0, .slice none 0 0] := bG.below hb bG.1
  replace nS : Hid (CU.Nw w7 w1.heap.size guS cuS gkS xs) := CU.Nw.below nS.out hb
  replace rx : Hid (World.ownsRow w7 w3.heap.size 3 1 (.slice (some ⟨gx, 0, none⟩) xs.length xs.length) xs.length (M4.iv xs)) := M5.own_below rx.out hb
  replace nG : Hid (CU.Nw w7 w4.heap.size guG cuG gkG xs) := CU.Nw.below nG.out hb
  replace B := B.trans (hb.mono B.size)
  have hsw7 := hb.size
  clear hb
  go_wp2_with fail
  refine (TP.out _ (M4.IntsAt.below H0.out B)).mono ?_
  rintro e w8 ⟨gq, rfl, ho, hb⟩
  have hgq := ho.lt gq rfl
  have rq : Hid (World.ownsRow w8 w7.heap.size 3 1 (.slice (some ⟨gq, 0, none⟩) xs.length xs.length) xs.length (M4.iv xs)) := ho
  clear ho
  replace bS : MA.Rg w8 (pS) 0 [.slice (some ⟨guS, 0, none⟩) xs.length cuS, .slice (some ⟨gkS, 0, none⟩) xs.length xs.length, .slice none 0 0, .slice none 0 0] := bS.below hb bS.1
  replace bG : MA.Rg w8 (pG) 0 [.slice (some ⟨guG, 0, none⟩) xs.length cuG, .slice (some ⟨gkG, 0, none⟩) xs.length xs.length, .slice none 0 0, .slice none 0 0] := bG.below hb bG.1
  replace nS : Hid (CU.Nw w8 w1.heap.size guS cuS gkS xs) := CU.Nw.below nS.out hb
  replace rx : Hid (World.ownsRow w8 w3.heap.size 3 1 (.slice (some ⟨gx, 0, none⟩) xs.length xs.length) xs.length (M4.iv xs)) := M5.own_below rx.out hb
  replace nG : Hid (CU.Nw w8 w4.heap.size guG cuG gkG xs) := CU.Nw.below nG.out hb
  replace B := B.trans (hb.mono B.size)
  have hsw8 := hb.size
  clear hb
  go_wp2_with fail
  refine (EQ0.out gx gq _ (M4.IntsAt.of_own rx.out) (M4.IntsAt.of_own rq.out)).mono ?_
  rintro e w9 ⟨rfl, hb⟩
  replace bS : MA.Rg w9 (pS) 0 [.slice (some ⟨guS, 0, none⟩) xs.length cuS, .slice (some ⟨gkS, 0, none⟩) xs.length xs.length, .slice none 0 0, .slice none 0 0] := bS.below hb bS.1
  replace bG : MA.Rg w9 (pG) 0 [.slice (some ⟨guG, 0, none⟩) xs.length cuG, .slice (some ⟨gkG, 0, none⟩) xs.length xs.length, .slice none 0 0, .slice none 0 0] := bG.below hb bG.1
  replace nS : Hid (CU.Nw w9 w1.heap.size guS cuS gkS xs) := CU.Nw.below nS.out hb
  replace rx : Hid (World.ownsRow w9 w3.heap.size 3 1 (.slice (some ⟨gx, 0, none⟩) xs.length xs.length) xs.length (M4.iv xs)) := M5.own_below rx.out hb
  replace nG : Hid (CU.Nw w9 w4.heap.size guG cuG gkG xs) := CU.Nw.below nG.out hb
  replace rq : Hid (World.ownsRow w9 w7.heap.size 3 1 (.slice (some ⟨gq, 0, none⟩) xs.length xs.length) xs.length (M4.iv xs)) := M5.own_below rq.out hb
  replace B := B.trans (hb.mono B.size)
  have hsw9 := hb.size
  clear hb
  clear rq
  go_wp2_with fail
  refine (markIntS_only _ gx xs.length 1 _ hz (by omega) (by omega) ⟨_, rx.out⟩).mono ?_
  rintro e w10 ⟨rfl, hO⟩
  clear rx
  have hBB := B.size
  replace bS : MA.Rg w10 (pS) 0 [.slice (some ⟨guS, 0, none⟩) xs.length cuS, .slice (some ⟨gkS, 0, none⟩) xs.length xs.length, .slice none 0 0, .slice none 0 0] := RA.rg_only bS hO (by omega)
  replace bG : MA.Rg w10 (pG) 0 [.slice (some ⟨guG, 0, none⟩) xs.length cuG, .slice (some ⟨gkG, 0, none⟩) xs.length xs.length, .slice none 0 0, .slice none 0 0] := RA.rg_only bG hO (by omega)
  replace nS : Hid (CU.Nw w10 w1.heap.size guS cuS gkS xs) := CU.Nw.only nS.out hO (by omega) (by omega)
  replace nG : Hid (CU.Nw w10 w4.heap.size guG cuG gkG xs) := CU.Nw.only nG.out hO (by omega) (by omega)
  have hsw10 := hO.size
  replace B := B.trans (hO.below (by omega) B.size)
  clear hO
  have cG0 : w10.cell? ⟨pG, 0, none⟩ = some (.slice (some ⟨guG, 0, none⟩) xs.length cuG) := by have := bG.cell (j := 0) rfl; rwa [Nat.zero_add] at this
  have cG1 : w10.cell? ⟨pG, 1, none⟩ = some (.slice (some ⟨gkG, 0, none⟩) xs.length xs.length) := by have := bG.cell (j := 1) rfl; rwa [Nat.zero_add] at this
  have cG2 : w10.cell? ⟨pG, 2, none⟩ = some (.slice none 0 0) := by have := bG.cell (j := 2) rfl; rwa [Nat.zero_add] at this
  have cG3 : w10.cell? ⟨pG, 3, none⟩ = some (.slice none 0 0) := by have := bG.cell (j := 3) rfl; rwa [Nat.zero_add] at this
  have lG := bG.1
  have cS0 : w10.cell? ⟨pS, 0, none⟩ = some (.slice (some ⟨guS, 0, none⟩) xs.length cuS) := by have := bS.cell (j := 0) rfl; rwa [Nat.zero_add] at this
  have cS1 : w10.cell? ⟨pS, 1, none⟩ = some (.slice (some ⟨gkS, 0, none⟩) xs.length xs.length) := by have := bS.cell (j := 1) rfl; rwa [Nat.zero_add] at this
  have cS2 : w10.cell? ⟨pS, 2, none⟩ = some (.slice none 0 0) := by have := bS.cell (j := 2) rfl; rwa [Nat.zero_add] at this
  have cS3 : w10.cell? ⟨pS, 3, none⟩ = some (.slice none 0 0) := by have := bS.cell (j := 3) rfl; rwa [Nat.zero_add] at this
  have lS := bS.1
  go_wp2_with fail
  refine (eqCustody_new guG cuG gkG guS cuS gkS _ _ xs _ hn nG.out nS.out).mono ?_
  rintro e w11 ⟨rfl, hb⟩
  clear cG0 cG1 cG2 cG3 lG
  clear cS0 cS1 cS2 cS3 lS
  replace bS : MA.Rg w11 (pS) 0 [.slice (some ⟨guS, 0, none⟩) xs.length cuS, .slice (some ⟨gkS, 0, none⟩) xs.length xs.length, .slice none 0 0, .slice none 0 0] := bS.below hb bS.1
  replace bG : MA.Rg w11 (pG) 0 [.slice (some ⟨guG, 0, none⟩) xs.length cuG, .slice (some ⟨gkG, 0, none⟩) xs.length xs.length, .slice none 0 0, .slice none 0 0] := bG.below hb bG.1
  replace nS : Hid (CU.Nw w11 w1.heap.size guS cuS gkS xs) := CU.Nw.below nS.out hb
  replace nG : Hid (CU.Nw w11 w4.heap.size guG cuG gkG xs) := CU.Nw.below nG.out hb
  replace B := B.trans (hb.mono B.size)
  have hsw11 := hb.size
  clear hb
  have cG0 : w11.cell? ⟨pG, 0, none⟩ = some (.slice (some ⟨guG, 0, none⟩) xs.length cuG) := by have := bG.cell (j := 0) rfl; rwa [Nat.zero_add] at this
  have cG1 : w11.cell? ⟨pG, 1, none⟩ = some (.slice (some ⟨gkG, 0, none⟩) xs.length xs.length) := by have := bG.cell (j := 1) rfl; rwa [Nat.zero_add] at this
  have cG2 : w11.cell? ⟨pG, 2, none⟩ = some (.slice none 0 0) := by have := bG.cell (j := 2) rfl; rwa [Nat.zero_add] at this
  have cG3 : w11.cell? ⟨pG, 3, none⟩ = some (.slice none 0 0) := by have := bG.cell (j := 3) rfl; rwa [Nat.zero_add] at this
  have lG := bG.1
  go_wp2_with fail
  refine (markCustody_new _ guG cuG gkG xs _ hn nG.out).mono ?_
  rintro e w12 ⟨rfl, hnw, hO⟩
  clear cG0 cG1 cG2 cG3 lG
  clear nG
  have mG : Hid (CU.Nw w12 _ guG cuG gkG (M5.marks 1 xs.length)) := hnw
  clear hnw
  have hBB2 := B.size
  replace bS : MA.Rg w12 (pS) 0 [.slice (some ⟨guS, 0, none⟩) xs.length cuS, .slice (some ⟨gkS, 0, none⟩) xs.length xs.length, .slice none 0 0, .slice none 0 0] := RA.rg_only bS hO (by omega)
  replace bG : MA.Rg w12 (pG) 0 [.slice (some ⟨guG, 0, none⟩) xs.length cuG, .slice (some ⟨gkG, 0, none⟩) xs.length xs.length, .slice none 0 0, .slice none 0 0] := RA.rg_only bG hO (by omega)
  replace nS : Hid (CU.Nw w12 w1.heap.size guS cuS gkS xs) := CU.Nw.only nS.out hO (by omega) (by omega)
  have hsw12 := hO.size
  replace B := B.trans (hO.below (by omega) B.size)
  clear hO
  have cG0 : w12.cell? ⟨pG, 0, none⟩ = some (.slice (some ⟨guG, 0, none⟩) xs.length cuG) := by have := bG.cell (j := 0) rfl; rwa [Nat.zero_add] at this
  have cG1 : w12.cell? ⟨pG, 1, none⟩ = some (.slice (some ⟨gkG, 0, none⟩) xs.length xs.length) := by have := bG.cell (j := 1) rfl; rwa [Nat.zero_add] at this
  have cG2 : w12.cell? ⟨pG, 2, none⟩ = some (.slice none 0 0) := by have := bG.cell (j := 2) rfl; rwa [Nat.zero_add] at this
  have cG3 : w12.cell? ⟨pG, 3, none⟩ = some (.slice none 0 0) := by have := bG.cell (j := 3) rfl; rwa [Nat.zero_add] at this
  have lG := bG.1
  go_wp2_with fail
  refine (heldCustody_new _ guG cuG gkG xs.length _ hn mG.out).mono ?_
  rintro e w13 ⟨rfl, hb⟩
  clear cG0 cG1 cG2 cG3 lG
  replace bS : MA.Rg w13 (pS) 0 [.slice (some ⟨guS, 0, none⟩) xs.length cuS, .slice (some ⟨gkS, 0, none⟩) xs.length xs.length, .slice none 0 0, .slice none 0 0] := bS.below hb bS.1
  replace bG : MA.Rg w13 (pG) 0 [.slice (some ⟨guG, 0, none⟩) xs.length cuG, .slice (some ⟨gkG, 0, none⟩) xs.length xs.length, .slice none 0 0, .slice none 0 0] := bG.below hb bG.1
  replace nS : Hid (CU.Nw w13 w1.heap.size guS cuS gkS xs) := CU.Nw.below nS.out hb
  replace mG : Hid (CU.Nw w13 w4.heap.size guG cuG gkG (M5.marks 1 xs.length)) := CU.Nw.below mG.out hb
  replace B := B.trans (hb.mono B.size)
  have hsw13 := hb.size
  clear hb
  go_wp2_with fail
  refine (TP.out _ (M4.IntsAt.below H0.out B)).mono ?_
  rintro e w14 ⟨gh, rfl, ho, hb⟩
  have hgh := ho.lt gh rfl
  have rh : Hid (World.ownsRow w14 w13.heap.size 3 1 (.slice (some ⟨gh, 0, none⟩) xs.length xs.length) xs.length (M4.iv xs)) := ho
  clear ho
  replace bS : MA.Rg w14 (pS) 0 [.slice (some ⟨guS, 0, none⟩) xs.length cuS, .slice (some ⟨gkS, 0, none⟩) xs.length xs.length, .slice none 0 0, .slice none 0 0] := bS.below hb bS.1
  replace bG : MA.Rg w14 (pG) 0 [.slice (some ⟨guG, 0, none⟩) xs.length cuG, .slice (some ⟨gkG, 0, none⟩) xs.length xs.length, .slice none 0 0, .slice none 0 0] := bG.below hb bG.1
  replace nS : Hid (CU.Nw w14 w1.heap.size guS cuS gkS xs) := CU.Nw.below nS.out hb
  replace mG : Hid (CU.Nw w14 w4.heap.size guG cuG gkG (M5.marks 1 xs.length)) := CU.Nw.below mG.out hb
  replace B := B.trans (hb.mono B.size)
  have hsw14 := hb.size
  clear hb
  go_wp2_with fail
  refine (IG.out gh _ (M4.IntsAt.of_own rh.out)).mono ?_
  rintro e w15 ⟨guH, cuH, gkH, rfl, hnw, hb⟩
  have ltH := hnw.lt
  have nH : Hid (CU.Nw w15 w14.heap.size guH cuH gkH xs) := hnw
  clear hnw
  unfold CU.val
  replace bS : MA.Rg w15 (pS) 0 [.slice (some ⟨guS, 0, none⟩) xs.length cuS, .slice (some ⟨gkS, 0, none⟩) xs.length xs.length, .slice none 0 0, .slice none 0 0] := bS.below hb bS.1
  replace bG : MA.Rg w15 (pG) 0 [.slice (some ⟨guG, 0, none⟩) xs.length cuG, .slice (some ⟨gkG, 0, none⟩) xs.length xs.length, .slice none 0 0, .slice none 0 0] := bG.below hb bG.1
  replace nS : Hid (CU.Nw w15 w1.heap.size guS cuS gkS xs) := CU.Nw.below nS.out hb
  replace mG : Hid (CU.Nw w15 w4.heap.size guG cuG gkG (M5.marks 1 xs.length)) := CU.Nw.below mG.out hb
  replace rh : Hid (World.ownsRow w15 w13.heap.size 3 1 (.slice (some ⟨gh, 0, none⟩) xs.length xs.length) xs.length (M4.iv xs)) := M5.own_below rh.out hb
  replace B := B.trans (hb.mono B.size)
  have hsw15 := hb.size
  clear hb
  clear rh
  have cS0 : w15.cell? ⟨pS, 0, none⟩ = some (.slice (some ⟨guS, 0, none⟩) xs.length cuS) := by have := bS.cell (j := 0) rfl; rwa [Nat.zero_add] at this
  have cS1 : w15.cell? ⟨pS, 1, none⟩ = some (.slice (some ⟨gkS, 0, none⟩) xs.length xs.length) := by have := bS.cell (j := 1) rfl; rwa [Nat.zero_add] at this
  have cS2 : w15.cell? ⟨pS, 2, none⟩ = some (.slice none 0 0) := by have := bS.cell (j := 2) rfl; rwa [Nat.zero_add] at this
  have cS3 : w15.cell? ⟨pS, 3, none⟩ = some (.slice none 0 0) := by have := bS.cell (j := 3) rfl; rwa [Nat.zero_add] at this
  have lS := bS.1
  go_wp2_with fail
  clear cS0 cS1 cS2 cS3 lS
  have hb : Below w15.heap.size w15 (w15.alloc (.cells #[.slice (some ⟨guH, 0, none⟩) xs.length cuH, .slice (some ⟨gkH, 0, none⟩) xs.length xs.length, .slice none 0 0, .slice none 0 0] 26)) := (Below.refl _ _).alloc (Nat.le_refl _) _
  have bH := MA.Rg.new w15 [.slice (some ⟨guH, 0, none⟩) xs.length cuH, .slice (some ⟨gkH, 0, none⟩) xs.length xs.length, .slice none 0 0, .slice none 0 0] 26
  obtain ⟨pH, hpH⟩ : ∃ p, w15.heap.size = p := ⟨_, rfl⟩
  have hloH : w.heap.size ≤ pH := by have := B.size; omega
  rw [hpH] at bH ⊢
  change MA.Rg (w15.alloc (.cells #[.slice (some ⟨guH, 0, none⟩) xs.length cuH, .slice (some ⟨gkH, 0, none⟩) xs.length xs.length, .slice none 0 0, .slice none 0 0] 26)) pH 0 [.slice (some ⟨guH, 0, none⟩) xs.length cuH, .slice (some ⟨gkH, 0, none⟩) xs.length xs.length, .slice none 0 0, .slice none 0 0] at bH
  generalize w15.alloc (.cells #[.slice (some ⟨guH, 0, none⟩) xs.length cuH, .slice (some ⟨gkH, 0, none⟩) xs.length xs.length, .slice none 0 0, .slice none 0 0] 26) = w16 at *
  have hqH := bH.1
  replace bS : MA.Rg w16 (pS) 0 [.slice (some ⟨guS, 0, none⟩) xs.length cuS, .slice (some ⟨gkS, 0, none⟩) xs.length xs.length, .slice none 0 0, .slice none 0 0] := bS.below hb bS.1
  replace bG : MA.Rg w16 (pG) 0 [.slice (some ⟨guG, 0, none⟩) xs.length cuG, .slice (some ⟨gkG, 0, none⟩) xs.length xs.length, .slice none 0 0, .slice none 0 0] := bG.below hb bG.1
  replace nS : Hid (CU.Nw w16 w1.heap.size guS cuS gkS xs) := CU.Nw.below nS.out hb
  replace mG : Hid (CU.Nw w16 w4.heap.size guG cuG gkG (M5.marks 1 xs.length)) := CU.Nw.below mG.out hb
  replace nH : Hid (CU.Nw w16 w14.heap.size guH cuH gkH xs) := CU.Nw.below nH.out hb
  replace B := B.trans (hb.mono B.size)
  have hsw16 := hb.size
  clear hb
  have cH0 : w16.cell? ⟨pH, 0, none⟩ = some (.slice (some ⟨guH, 0, none⟩) xs.length cuH) := by have := bH.cell (j := 0) rfl; rwa [Nat.zero_add] at this
  have cH1 : w16.cell? ⟨pH, 1, none⟩ = some (.slice (some ⟨gkH, 0, none⟩) xs.length xs.length) := by have := bH.cell (j := 1) rfl; rwa [Nat.zero_add] at this
  have cH2 : w16.cell? ⟨pH, 2, none⟩ = some (.slice none 0 0) := by have := bH.cell (j := 2) rfl; rwa [Nat.zero_add] at this
  have cH3 : w16.cell? ⟨pH, 3, none⟩ = some (.slice none 0 0) := by have := bH.cell (j := 3) rfl; rwa [Nat.zero_add] at this
  have lH := bH.1
  have cS0 : w16.cell? ⟨pS, 0, none⟩ = some (.slice (some ⟨guS, 0, none⟩) xs.length cuS) := by have := bS.cell (j := 0) rfl; rwa [Nat.zero_add] at this
  have cS1 : w16.cell? ⟨pS, 1, none⟩ = some (.slice (some ⟨gkS, 0, none⟩) xs.length xs.length) := by have := bS.cell (j := 1) rfl; rwa [Nat.zero_add] at this
  have cS2 : w16.cell? ⟨pS, 2, none⟩ = some (.slice none 0 0) := by have := bS.cell (j := 2) rfl; rwa [Nat.zero_add] at this
  have cS3 : w16.cell? ⟨pS, 3, none⟩ = some (.slice none 0 0) := by have := bS.cell (j := 3) rfl; rwa [Nat.zero_add] at this
  have lS := bS.1
  go_wp2_with fail
  refine (eqCustody_new guH cuH gkH guS cuS gkS _ _ xs _ hn nH.out nS.out).mono ?_
  rintro e w17 ⟨rfl, hb⟩
  clear cH0 cH1 cH2 cH3 lH
  clear cS0 cS1 cS2 cS3 lS
  replace bS : MA.Rg w17 (pS) 0 [.slice (some ⟨guS, 0, none⟩) xs.length cuS, .slice (some ⟨gkS, 0, none⟩) xs.length xs.length, .slice none 0 0, .slice none 0 0] := bS.below hb bS.1
  replace bG : MA.Rg w17 (pG) 0 [.slice (some ⟨guG, 0, none⟩) xs.length cuG, .slice (some ⟨gkG, 0, none⟩) xs.length xs.length, .slice none 0 0, .slice none 0 0] := bG.below hb bG.1
  replace bH : MA.Rg w17 (pH) 0 [.slice (some ⟨guH, 0, none⟩) xs.length cuH, .slice (some ⟨gkH, 0, none⟩) xs.length xs.length, .slice none 0 0, .slice none 0 0] := bH.below hb bH.1
  replace nS : Hid (CU.Nw w17 w1.heap.size guS cuS gkS xs) := CU.Nw.below nS.out hb
  replace mG : Hid (CU.Nw w17 w4.heap.size guG cuG gkG (M5.marks 1 xs.length)) := CU.Nw.below mG.out hb
  replace nH : Hid (CU.Nw w17 w14.heap.size guH cuH gkH xs) := CU.Nw.below nH.out hb
  replace B := B.trans (hb.mono B.size)
  have hsw17 := hb.size
  clear hb
  have cG0 : w17.cell? ⟨pG, 0, none⟩ = some (.slice (some ⟨guG, 0, none⟩) xs.length cuG) := by have := bG.cell (j := 0) rfl; rwa [Nat.zero_add] at this
  have cG1 : w17.cell? ⟨pG, 1, none⟩ = some (.slice (some ⟨gkG, 0, none⟩) xs.length xs.length) := by have := bG.cell (j := 1) rfl; rwa [Nat.zero_add] at this
  have cG2 : w17.cell? ⟨pG, 2, none⟩ = some (.slice none 0 0) := by have := bG.cell (j := 2) rfl; rwa [Nat.zero_add] at this
  have cG3 : w17.cell? ⟨pG, 3, none⟩ = some (.slice none 0 0) := by have := bG.cell (j := 3) rfl; rwa [Nat.zero_add] at this
  have lG := bG.1
  go_wp2_with fail
  refine (heldCustody_new _ guG cuG gkG xs.length _ hn mG.out).mono ?_
  rintro e w18 ⟨rfl, hb⟩
  clear cG0 cG1 cG2 cG3 lG
  replace bS : MA.Rg w18 (pS) 0 [.slice (some ⟨guS, 0, none⟩) xs.length cuS, .slice (some ⟨gkS, 0, none⟩) xs.length xs.length, .slice none 0 0, .slice none 0 0] := bS.below hb bS.1
  replace bG : MA.Rg w18 (pG) 0 [.slice (some ⟨guG, 0, none⟩) xs.length cuG, .slice (some ⟨gkG, 0, none⟩) xs.length xs.length, .slice none 0 0, .slice none 0 0] := bG.below hb bG.1
  replace bH : MA.Rg w18 (pH) 0 [.slice (some ⟨guH, 0, none⟩) xs.length cuH, .slice (some ⟨gkH, 0, none⟩) xs.length xs.length, .slice none 0 0, .slice none 0 0] := bH.below hb bH.1
  replace nS : Hid (CU.Nw w18 w1.heap.size guS cuS gkS xs) := CU.Nw.below nS.out hb
  replace mG : Hid (CU.Nw w18 w4.heap.size guG cuG gkG (M5.marks 1 xs.length)) := CU.Nw.below mG.out hb
  replace nH : Hid (CU.Nw w18 w14.heap.size guH cuH gkH xs) := CU.Nw.below nH.out hb
  replace B := B.trans (hb.mono B.size)
  have hsw18 := hb.size
  clear hb
  have HB : Hid _ := B
  clear B bS bG bH nS mG nH
  go_wp2
  go_ret
  exact ⟨rfl, HB.out⟩
set_option linter.unusedSimpArgs false in
set_option maxHeartbeats 3200000 in
set_option maxRecDepth 100000 in
theorem lawNewCus_no (a0 : Option Addr) (cap0 : Nat) (xs : List Int) (w : World) (hz : xs.length ≤ 1048576) (hi0 : M4.IntsAt w a0 xs) (ht : TR.tree xs = false) :
    Calls Try.prog 3 #[.slice a0 xs.length cap0] w fun e w' => e = .returned (.bool true) ∧ Below w.heap.size w w' := by
  have H0 : Hid (M4.IntsAt w a0 xs) := hi0
  clear hi0
  have TP : Hid _ := fun W h => toIntS_own a0 cap0 xs W hz h
  have EQ0 : Hid _ := fun g g2 W h1 h2 => eqIntS_any (some ⟨g, 0, none⟩) (some ⟨g2, 0, none⟩) xs.length xs.length xs xs W (by omega) (by omega) h1 h2
  have SG : Hid _ := fun (g : Nat) (W : World) (h : M4.IntsAt W (some ⟨g, 0, none⟩) xs) => newCusS_no (some ⟨g, 0, none⟩) xs.length xs W hz h ht
  have IG : Hid _ := fun (g : Nat) (W : World) (h : M4.IntsAt W (some ⟨g, 0, none⟩) xs) => newCusI_no (some ⟨g, 0, none⟩) xs.length xs W hz h ht
  clear ht
  have B : Below w.heap.size w w := Below.refl _ _
  go_enter Try.func3, Try.ntmps3
  go_wp2_with fail
  refine (TP.out _ (M4.IntsAt.below H0.out B)).mono ?_
  rintro e w1 ⟨gs, rfl, ho, hb⟩
  have hgs := ho.lt gs rfl
  have rs : Hid (World.ownsRow w1 w.heap.size 3 1 (.slice (some ⟨gs, 0, none⟩) xs.length xs.length) xs.length (M4.iv xs)) := ho
  clear ho
  replace B := B.trans (hb.mono B.size)
  have hsw1 := hb.size
  clear hb
  go_wp2_with fail
  refine (SG.out gs _ (M4.IntsAt.of_own rs.out)).mono ?_
  rintro e w2 ⟨rfl, hb⟩
  replace rs : Hid (World.ownsRow w2 w.heap.size 3 1 (.slice (some ⟨gs, 0, none⟩) xs.length xs.length) xs.length (M4.iv xs)) := M5.own_below rs.out hb
  replace B := B.trans (hb.mono B.size)
  have hsw2 := hb.size
  clear hb
  clear rs
  go_wp2_with fail
  have hb : Below w2.heap.size w2 (w2.alloc (.cells #[.slice none 0 0, .slice none 0 0, .slice none 0 0, .slice none 0 0] 26)) := (Below.refl _ _).alloc (Nat.le_refl _) _
  have bS := MA.Rg.new w2 [.slice none 0 0, .slice none 0 0, .slice none 0 0, .slice none 0 0] 26
  obtain ⟨pS, hpS⟩ : ∃ p, w2.heap.size = p := ⟨_, rfl⟩
  have hloS : w.heap.size ≤ pS := by have := B.size; omega
  rw [hpS] at bS ⊢
  change MA.Rg (w2.alloc (.cells #[.slice none 0 0, .slice none 0 0, .slice none 0 0, .slice none 0 0] 26)) pS 0 [.slice none 0 0, .slice none 0 0, .slice none 0 0, .slice none 0 0] at bS
  generalize w2.alloc (.cells #[.slice none 0 0, .slice none 0 0, .slice none 0 0, .slice none 0 0] 26) = w3 at *
  have hqS := bS.1
  replace B := B.trans (hb.mono B.size)
  have hsw3 := hb.size
  clear hb
  go_wp2_with fail
  refine (TP.out _ (M4.IntsAt.below H0.out B)).mono ?_
  rintro e w4 ⟨gx, rfl, ho, hb⟩
  have hgx := ho.lt gx rfl
  have rx : Hid (World.ownsRow w4 w3.heap.size 3 1 (.slice (some ⟨gx, 0, none⟩) xs.length xs.length) xs.length (M4.iv xs)) := ho
  clear ho
  replace bS : MA.Rg w4 (pS) 0 [.slice none 0 0, .slice none 0 0, .slice none 0 0, .slice none 0 0] := bS.below hb bS.1
  replace B := B.trans (hb.mono B.size)
  have hsw4 := hb.size
  clear hb
  go_wp2_with fail
  refine (IG.out gx _ (M4.IntsAt.of_own rx.out)).mono ?_
  rintro e w5 ⟨rfl, hb⟩
  replace bS : MA.Rg w5 (pS) 0 [.slice none 0 0, .slice none 0 0, .slice none 0 0, .slice none 0 0] := bS.below hb bS.1
  replace rx : Hid (World.ownsRow w5 w3.heap.size 3 1 (.slice (some ⟨gx, 0, none⟩) xs.length xs.length) xs.length (M4.iv xs)) := M5.own_below rx.out hb
  replace B := B.trans (hb.mono B.size)
  have hsw5 := hb.size
  clear hb
  have cS0 : w5.cell? ⟨pS, 0, none⟩ = some (.slice none 0 0) := by have := bS.cell (j := 0) rfl; rwa [Nat.zero_add] at this
  have cS1 : w5.cell? ⟨pS, 1, none⟩ = some (.slice none 0 0) := by have := bS.cell (j := 1) rfl; rwa [Nat.zero_add] at this
  have cS2 : w5.cell? ⟨pS, 2, none⟩ = some (.slice none 0 0) := by have := bS.cell (j := 2) rfl; rwa [Nat.zero_add] at this
  have cS3 : w5.cell? ⟨pS, 3, none⟩ = some (.slice none 0 0) := by have := bS.cell (j := 3) rfl; rwa [Nat.zero_add] at this
  have lS := bS.1
  go_wp2_with fail
  clear cS0 cS1 cS2 cS3 lS
  have hb : Below w5.heap.size w5 (w5.alloc (.cells #[.slice none 0 0, .slice none 0 0, .slice none 0 0, .slice none 0 0] 26)) := (Below.refl _ _).alloc (Nat.le_refl _) _
  have bG := MA.Rg.new w5 [.slice none 0 0, .slice none 0 0, .slice none 0 0, .slice none 0 0] 26
  obtain ⟨pG, hpG⟩ : ∃ p, w5.heap.size = p := ⟨_, rfl⟩
  have hloG : w.heap.size ≤ pG := by have := B.size; omega
  rw [hpG] at bG ⊢
  change MA.Rg (w5.alloc (.cells #[.slice none 0 0, .slice none 0 0, .slice none 0 0, .slice none 0 0] 26)) pG 0 [.slice none 0 0, .slice none 0 0, .slice none 0 0, .slice none 0 0] at bG
  generalize w5.alloc (.cells #[.slice none 0 0, .slice none 0 0, .slice none 0 0, .slice none 0 0] 26) = w6 at *
  have hqG := bG.1
  replace bS : MA.Rg w6 (pS) 0 [.slice none 0 0, .slice none 0 0, .slice none 0 0, .slice none 0 0] := bS.below hb bS.1
  replace rx : Hid (World.ownsRow w6 w3.heap.size 3 1 (.slice (some ⟨gx, 0, none⟩) xs.length xs.length) xs.length (M4.iv xs)) := M5.own_below rx.out hb
  replace B := B.trans (hb.mono B.size)
  have hsw6 := hb.size
  clear hb
  have cG0 : w6.cell? ⟨pG, 0, none⟩ = some (.slice none 0 0) := by have := bG.cell (j := 0) rfl; rwa [Nat.zero_add] at this
  have cG1 : w6.cell? ⟨pG, 1, none⟩ = some (.slice none 0 0) := by have := bG.cell (j := 1) rfl; rwa [Nat.zero_add] at this
  have cG2 : w6.cell? ⟨pG, 2, none⟩ = some (.slice none 0 0) := by have := bG.cell (j := 2) rfl; rwa [Nat.zero_add] at this
  have cG3 : w6.cell? ⟨pG, 3, none⟩ = some (.slice none 0 0) := by have := bG.cell (j := 3) rfl; rwa [Nat.zero_add] at this
  have lG := bG.1
  have cS0 : w6.cell? ⟨pS, 0, none⟩ = some (.slice none 0 0) := by have := bS.cell (j := 0) rfl; rwa [Nat.zero_add] at this
  have cS1 : w6.cell? ⟨pS, 1, none⟩ = some (.slice none 0 0) := by have := bS.cell (j := 1) rfl; rwa [Nat.zero_add] at this
  have cS2 : w6.cell? ⟨pS, 2, none⟩ = some (.slice none 0 0) := by have := bS.cell (j := 2) rfl; rwa [Nat.zero_add] at this
  have cS3 : w6.cell? ⟨pS, 3, none⟩ = some (.slice none 0 0) := by have := bS.cell (j := 3) rfl; rwa [Nat.zero_add] at this
  have lS := bS.1
  go_wp2_with fail
  refine (eqCustody_nil _).mono ?_
  rintro e w7 ⟨rfl, hb⟩
  clear cG0 cG1 cG2 cG3 lG
  clear cS0 cS1 cS2 cS3 lS
  replace bS : MA.Rg w7 (pS) 0 [.slice none 0 0, .slice none 0 0, .slice none 0 0, .slice none 0 0] := bS.below hb bS.1
  replace bG : MA.Rg w7 (pG) 0 [.slice none 0 0, .slice none 0 0, .slice none 0 0, .slice none 0 0] := bG.below hb bG.1
  replace rx : Hid (World.ownsRow w7 w3.heap.size 3 1 (.slice (some ⟨gx, 0, none⟩) xs.length xs.length) xs.length (M4.iv xs)) := M5.own_below rx.out hb
  replace B := B.trans (hb.mono B.size)
  have hsw7 := hb.size
  clear hb
  go_wp2_with fail
  refine (TP.out _ (M4.IntsAt.below H0.out B)).mono ?_
  rintro e w8 ⟨gq, rfl, ho, hb⟩
  have hgq := ho.lt gq rfl
  have rq : Hid (World.ownsRow w8 w7.heap.size 3 1 (.slice (some ⟨gq, 0, none⟩) xs.length xs.length) xs.length (M4.iv xs)) := ho
  clear ho
  replace bS : MA.Rg w8 (pS) 0 [.slice none 0 0, .slice none 0 0, .slice none 0 0, .slice none 0 0] := bS.below hb bS.1
  replace bG : MA.Rg w8 (pG) 0 [.slice none 0 0, .slice none 0 0, .slice none 0 0, .slice none 0 0] := bG.below hb bG.1
  replace rx : Hid (World.ownsRow w8 w3.heap.size 3 1 (.slice (some ⟨gx, 0, none⟩) xs.length xs.length) xs.length (M4.iv xs)) := M5.own_below rx.out hb
  replace B := B.trans (hb.mono B.size)
  have hsw8 := hb.size
  clear hb
  go_wp2_with fail
  refine (EQ0.out gx gq _ (M4.IntsAt.of_own rx.out) (M4.IntsAt.of_own rq.out)).mono ?_
  rintro e w9 ⟨rfl, hb⟩
  replace bS : MA.Rg w9 (pS) 0 [.slice none 0 0, .slice none 0 0, .slice none 0 0, .slice none 0 0] := bS.below hb bS.1
  replace bG : MA.Rg w9 (pG) 0 [.slice none 0 0, .slice none 0 0, .slice none 0 0, .slice none 0 0] := bG.below hb bG.1
  replace rx : Hid (World.ownsRow w9 w3.heap.size 3 1 (.slice (some ⟨gx, 0, none⟩) xs.length xs.length) xs.length (M4.iv xs)) := M5.own_below rx.out hb
  replace rq : Hid (World.ownsRow w9 w7.heap.size 3 1 (.slice (some ⟨gq, 0, none⟩) xs.length xs.length) xs.length (M4.iv xs)) := M5.own_below rq.out hb
  replace B := B.trans (hb.mono B.size)
  have hsw9 := hb.size
  clear hb
  clear rq
  go_wp2_with fail
  refine (markIntS_only _ gx xs.length 1 _ hz (by omega) (by omega) ⟨_, rx.out⟩).mono ?_
  rintro e w10 ⟨rfl, hO⟩
  clear rx
  have hBB := B.size
  replace bS : MA.Rg w10 (pS) 0 [.slice none 0 0, .slice none 0 0, .slice none 0 0, .slice none 0 0] := RA.rg_only bS hO (by omega)
  replace bG : MA.Rg w10 (pG) 0 [.slice none 0 0, .slice none 0 0, .slice none 0 0, .slice none 0 0] := RA.rg_only bG hO (by omega)
  have hsw10 := hO.size
  replace B := B.trans (hO.below (by omega) B.size)
  clear hO
  have cG0 : w10.cell? ⟨pG, 0, none⟩ = some (.slice none 0 0) := by have := bG.cell (j := 0) rfl; rwa [Nat.zero_add] at this
  have cG1 : w10.cell? ⟨pG, 1, none⟩ = some (.slice none 0 0) := by have := bG.cell (j := 1) rfl; rwa [Nat.zero_add] at this
  have cG2 : w10.cell? ⟨pG, 2, none⟩ = some (.slice none 0 0) := by have := bG.cell (j := 2) rfl; rwa [Nat.zero_add] at this
  have cG3 : w10.cell? ⟨pG, 3, none⟩ = some (.slice none 0 0) := by have := bG.cell (j := 3) rfl; rwa [Nat.zero_add] at this
  have lG := bG.1
  have cS0 : w10.cell? ⟨pS, 0, none⟩ = some (.slice none 0 0) := by have := bS.cell (j := 0) rfl; rwa [Nat.zero_add] at this
  have cS1 : w10.cell? ⟨pS, 1, none⟩ = some (.slice none 0 0) := by have := bS.cell (j := 1) rfl; rwa [Nat.zero_add] at this
  have cS2 : w10.cell? ⟨pS, 2, none⟩ = some (.slice none 0 0) := by have := bS.cell (j := 2) rfl; rwa [Nat.zero_add] at this
  have cS3 : w10.cell? ⟨pS, 3, none⟩ = some (.slice none 0 0) := by have := bS.cell (j := 3) rfl; rwa [Nat.zero_add] at this
  have lS := bS.1
  go_wp2_with fail
  refine (eqCustody_nil _).mono ?_
  rintro e w11 ⟨rfl, hb⟩
  clear cG0 cG1 cG2 cG3 lG
  clear cS0 cS1 cS2 cS3 lS
  replace bS : MA.Rg w11 (pS) 0 [.slice none 0 0, .slice none 0 0, .slice none 0 0, .slice none 0 0] := bS.below hb bS.1
  replace bG : MA.Rg w11 (pG) 0 [.slice none 0 0, .slice none 0 0, .slice none 0 0, .slice none 0 0] := bG.below hb bG.1
  replace B := B.trans (hb.mono B.size)
  have hsw11 := hb.size
  clear hb
  have cG0 : w11.cell? ⟨pG, 0, none⟩ = some (.slice none 0 0) := by have := bG.cell (j := 0) rfl; rwa [Nat.zero_add] at this
  have cG1 : w11.cell? ⟨pG, 1, none⟩ = some (.slice none 0 0) := by have := bG.cell (j := 1) rfl; rwa [Nat.zero_add] at this
  have cG2 : w11.cell? ⟨pG, 2, none⟩ = some (.slice none 0 0) := by have := bG.cell (j := 2) rfl; rwa [Nat.zero_add] at this
  have cG3 : w11.cell? ⟨pG, 3, none⟩ = some (.slice none 0 0) := by have := bG.cell (j := 3) rfl; rwa [Nat.zero_add] at this
  have lG := bG.1
  go_wp2_with fail
  refine (markCustody_nil _).mono ?_
  rintro e w12 ⟨rfl, hb⟩
  clear cG0 cG1 cG2 cG3 lG
  replace bS : MA.Rg w12 (pS) 0 [.slice none 0 0, .slice none 0 0, .slice none 0 0, .slice none 0 0] := bS.below hb bS.1
  replace bG : MA.Rg w12 (pG) 0 [.slice none 0 0, .slice none 0 0, .slice none 0 0, .slice none 0 0] := bG.below hb bG.1
  replace B := B.trans (hb.mono B.size)
  have hsw12 := hb.size
  clear hb
  have cG0 : w12.cell? ⟨pG, 0, none⟩ = some (.slice none 0 0) := by have := bG.cell (j := 0) rfl; rwa [Nat.zero_add] at this
  have cG1 : w12.cell? ⟨pG, 1, none⟩ = some (.slice none 0 0) := by have := bG.cell (j := 1) rfl; rwa [Nat.zero_add] at this
  have cG2 : w12.cell? ⟨pG, 2, none⟩ = some (.slice none 0 0) := by have := bG.cell (j := 2) rfl; rwa [Nat.zero_add] at this
  have cG3 : w12.cell? ⟨pG, 3, none⟩ = some (.slice none 0 0) := by have := bG.cell (j := 3) rfl; rwa [Nat.zero_add] at this
  have lG := bG.1
  go_wp2_with fail
  refine (heldCustody_nil _).mono ?_
  rintro e w13 ⟨rfl, hb⟩
  clear cG0 cG1 cG2 cG3 lG
  replace bS : MA.Rg w13 (pS) 0 [.slice none 0 0, .slice none 0 0, .slice none 0 0, .slice none 0 0] := bS.below hb bS.1
  replace bG : MA.Rg w13 (pG) 0 [.slice none 0 0, .slice none 0 0, .slice none 0 0, .slice none 0 0] := bG.below hb bG.1
  replace B := B.trans (hb.mono B.size)
  have hsw13 := hb.size
  clear hb
  go_wp2_with fail
  refine (TP.out _ (M4.IntsAt.below H0.out B)).mono ?_
  rintro e w14 ⟨gh, rfl, ho, hb⟩
  have hgh := ho.lt gh rfl
  have rh : Hid (World.ownsRow w14 w13.heap.size 3 1 (.slice (some ⟨gh, 0, none⟩) xs.length xs.length) xs.length (M4.iv xs)) := ho
  clear ho
  replace bS : MA.Rg w14 (pS) 0 [.slice none 0 0, .slice none 0 0, .slice none 0 0, .slice none 0 0] := bS.below hb bS.1
  replace bG : MA.Rg w14 (pG) 0 [.slice none 0 0, .slice none 0 0, .slice none 0 0, .slice none 0 0] := bG.below hb bG.1
  replace B := B.trans (hb.mono B.size)
  have hsw14 := hb.size
  clear hb
  go_wp2_with fail
  refine (IG.out gh _ (M4.IntsAt.of_own rh.out)).mono ?_
  rintro e w15 ⟨rfl, hb⟩
  replace bS : MA.Rg w15 (pS) 0 [.slice none 0 0, .slice none 0 0, .slice none 0 0, .slice none 0 0] := bS.below hb bS.1
  replace bG : MA.Rg w15 (pG) 0 [.slice none 0 0, .slice none 0 0, .slice none 0 0, .slice none 0 0] := bG.below hb bG.1
  replace rh : Hid (World.ownsRow w15 w13.heap.size 3 1 (.slice (some ⟨gh, 0, none⟩) xs.length xs.length) xs.length (M4.iv xs)) := M5.own_below rh.out hb
  replace B := B.trans (hb.mono B.size)
  have hsw15 := hb.size
  clear hb
  clear rh
  have cS0 : w15.cell? ⟨pS, 0, none⟩ = some (.slice none 0 0) := by have := bS.cell (j := 0) rfl; rwa [Nat.zero_add] at this
  have cS1 : w15.cell? ⟨pS, 1, none⟩ = some (.slice none 0 0) := by have := bS.cell (j := 1) rfl; rwa [Nat.zero_add] at this
  have cS2 : w15.cell? ⟨pS, 2, none⟩ = some (.slice none 0 0) := by have := bS.cell (j := 2) rfl; rwa [Nat.zero_add] at this
  have cS3 : w15.cell? ⟨pS, 3, none⟩ = some (.slice none 0 0) := by have := bS.cell (j := 3) rfl; rwa [Nat.zero_add] at this
  have lS := bS.1
  go_wp2_with fail
  clear cS0 cS1 cS2 cS3 lS
  have hb : Below w15.heap.size w15 (w15.alloc (.cells #[.slice none 0 0, .slice none 0 0, .slice none 0 0, .slice none 0 0] 26)) := (Below.refl _ _).alloc (Nat.le_refl _) _
  have bH := MA.Rg.new w15 [.slice none 0 0, .slice none 0 0, .slice none 0 0, .slice none 0 0] 26
  obtain ⟨pH, hpH⟩ : ∃ p, w15.heap.size = p := ⟨_, rfl⟩
  have hloH : w.heap.size ≤ pH := by have := B.size; omega
  rw [hpH] at bH ⊢
  change MA.Rg (w15.alloc (.cells #[.slice none 0 0, .slice none 0 0, .slice none 0 0, .slice none 0 0] 26)) pH 0 [.slice none 0 0, .slice none 0 0, .slice none 0 0, .slice none 0 0] at bH
  generalize w15.alloc (.cells #[.slice none 0 0, .slice none 0 0, .slice none 0 0, .slice none 0 0] 26) = w16 at *
  have hqH := bH.1
  replace bS : MA.Rg w16 (pS) 0 [.slice none 0 0, .slice none 0 0, .slice none 0 0, .slice none 0 0] := bS.below hb bS.1
  replace bG : MA.Rg w16 (pG) 0 [.slice none 0 0, .slice none 0 0, .slice none 0 0, .slice none 0 0] := bG.below hb bG.1
  replace B := B.trans (hb.mono B.size)
  have hsw16 := hb.size
  clear hb
  have cH0 : w16.cell? ⟨pH, 0, none⟩ = some (.slice none 0 0) := by have := bH.cell (j := 0) rfl; rwa [Nat.zero_add] at this
  have cH1 : w16.cell? ⟨pH, 1, none⟩ = some (.slice none 0 0) := by have := bH.cell (j := 1) rfl; rwa [Nat.zero_add] at this
  have cH2 : w16.cell? ⟨pH, 2, none⟩ = some (.slice none 0 0) := by have := bH.cell (j := 2) rfl; rwa [Nat.zero_add] at this
  have cH3 : w16.cell? ⟨pH, 3, none⟩ = some (.slice none 0 0) := by have := bH.cell (j := 3) rfl; rwa [Nat.zero_add] at this
  have lH := bH.1
  have cS0 : w16.cell? ⟨pS, 0, none⟩ = some (.slice none 0 0) := by have := bS.cell (j := 0) rfl; rwa [Nat.zero_add] at this
  have cS1 : w16.cell? ⟨pS, 1, none⟩ = some (.slice none 0 0) := by have := bS.cell (j := 1) rfl; rwa [Nat.zero_add] at this
  have cS2 : w16.cell? ⟨pS, 2, none⟩ = some (.slice none 0 0) := by have := bS.cell (j := 2) rfl; rwa [Nat.zero_add] at this
  have cS3 : w16.cell? ⟨pS, 3, none⟩ = some (.slice none 0 0) := by have := bS.cell (j := 3) rfl; rwa [Nat.zero_add] at this
  have lS := bS.1
  go_wp2_with fail
  refine (eqCustody_nil _).mono ?_
  rintro e w17 ⟨rfl, hb⟩
  clear cH0 cH1 cH2 cH3 lH
  clear cS0 cS1 cS2 cS3 lS
  replace bS : MA.Rg w17 (pS) 0 [.slice none 0 0, .slice none 0 0, .slice none 0 0, .slice none 0 0] := bS.below hb bS.1
  replace bG : MA.Rg w17 (pG) 0 [.slice none 0 0, .slice none 0 0, .slice none 0 0, .slice none 0 0] := bG.below hb bG.1
  replace bH : MA.Rg w17 (pH) 0 [.slice none 0 0, .slice none 0 0, .slice none 0 0, .slice none 0 0] := bH.below hb bH.1
  replace B := B.trans (hb.mono B.size)
  have hsw17 := hb.size
  clear hb
  have cG0 : w17.cell? ⟨pG, 0, none⟩ = some (.slice none 0 0) := by have := bG.cell (j := 0) rfl; rwa [Nat.zero_add] at this
  have cG1 : w17.cell? ⟨pG, 1, none⟩ = some (.slice none 0 0) := by have := bG.cell (j := 1) rfl; rwa [Nat.zero_add] at this
  have cG2 : w17.cell? ⟨pG, 2, none⟩ = some (.slice none 0 0) := by have := bG.cell (j := 2) rfl; rwa [Nat.zero_add] at this
  have cG3 : w17.cell? ⟨pG, 3, none⟩ = some (.slice none 0 0) := by have := bG.cell (j := 3) rfl; rwa [Nat.zero_add] at this
  have lG := bG.1
  go_wp2_with fail
  refine (heldCustody_nil _).mono ?_
  rintro e w18 ⟨rfl, hb⟩
  clear cG0 cG1 cG2 cG3 lG
  replace bS : MA.Rg w18 (pS) 0 [.slice none 0 0, .slice none 0 0, .slice none 0 0, .slice none 0 0] := bS.below hb bS.1
  replace bG : MA.Rg w18 (pG) 0 [.slice none 0 0, .slice none 0 0, .slice none 0 0, .slice none 0 0] := bG.below hb bG.1
  replace bH : MA.Rg w18 (pH) 0 [.slice none 0 0, .slice none 0 0, .slice none 0 0, .slice none 0 0] := bH.below hb bH.1
  replace B := B.trans (hb.mono B.size)
  have hsw18 := hb.size
  clear hb
  have HB : Hid _ := B
  clear B bS bG bH
  go_wp2
  go_ret
  exact ⟨rfl, HB.out⟩
set_option maxHeartbeats 1600000 in
set_option maxRecDepth 100000 in
theorem lawNewCus_any (a0 : Option Addr) (cap0 : Nat) (xs : List Int) (w : World) (hl0 : xs.length ≤ maxLen) (hi0 : M4.IntsAt w a0 xs) :
    Calls Try.prog 3 #[.slice a0 xs.length cap0] w fun e w' => e = .returned (.bool true) ∧ Below w.heap.size w w' := by
  unfold maxLen at hl0
  by_cases hz : xs.length ≤ 1048576
  · cases ht : TR.tree xs with
    | true => exact lawNewCus_yes a0 cap0 xs w hz hi0 ht
    | false => exact lawNewCus_no a0 cap0 xs w hz hi0 ht
  · clear hi0
    go_enter Try.func3, Try.ntmps3
    go_wp2
    go_ret
    exact ⟨rfl, Below.refl _ _⟩
end Go.Proofs.Ytonablbjikegmaa
