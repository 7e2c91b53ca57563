/- The law FnExactSameBundle answers true at every two bundles. -/
import Derived.Test.YtfppjpheklpplaaDoorRows
import Derived.Test.YtfppjpheklpplaaDoorCSameI
import Derived.Test.YtfppjpheklpplaaDoorCBundleLaw
import Derived.WalkKit
import Derived.WalkSpells
import Derived.WalkLawsBesides
import Derived.Outline
namespace Go.Proofs.YtfppjpheklpplaaDoor
open Go.RowKit
theorem Tryd.sizeBundleL : (Tryd.prog.info? 23).map (·.size) = some 10 := by kernel_rfl
set_option linter.unusedSimpArgs false in
set_option maxHeartbeats 800000 in
set_option maxRecDepth 100000 in
theorem lawSame_any (a b : Bd) (w : World) (hs : a.py.size ≤ maxLen) (hs' : b.py.size ≤ maxLen) (hT : PTab w) :
    Calls Tryd.prog 3 #[a.v, b.v] w fun e w' => e = .returned (.bool true) ∧ Below w.heap.size w w' := by
  have SZ : Hid (∀ W : World, Calls Tryd.prog 4 #[.agg a.cs.toArray, .int .i64 1048576] W fun e w' => (∃ r : Int, e = .returned (.int .i64 r) ∧ (r < 0 ∨ (r = 1048576 - a.py.size ∧ 0 ≤ r))) ∧ Below W.heap.size W w') := fun W => szBundle_any a 1048576 W hs (by omega)
  have SZ2 : Hid (∀ (l : Int) (_ : 0 ≤ l ∧ l ≤ 1048576) (W : World), Calls Tryd.prog 4 #[.agg b.cs.toArray, .int .i64 l] W fun e w' => (∃ r : Int, e = .returned (.int .i64 r) ∧ (r < 0 ∨ (r = l - b.py.size ∧ 0 ≤ r))) ∧ Below W.heap.size W w') := fun l hl W => szBundle_any b l W hs' hl
  have TA : Hid (∀ W : World, Calls Tryd.prog 6 #[.agg a.cs.toArray] W fun e w' => e = .returned (.agg a.cs.toArray) ∧ Below W.heap.size W w') := fun W => toBundle_any a W
  have TB : Hid (∀ W : World, Calls Tryd.prog 6 #[.agg b.cs.toArray] W fun e w' => e = .returned (.agg b.cs.toArray) ∧ Below W.heap.size W w') := fun W => toBundle_any b W
  have SG : Hid (∀ (_ : a.py.size ≤ 1048576 ∧ b.py.size ≤ 1048576) (W : World), Calls Tryd.prog 5 #[.agg a.cs.toArray, .agg b.cs.toArray] W fun e w' => e = .returned (.tuple #[.bool (sameB a b), .bool (sameOk a b)]) ∧ Below W.heap.size W w') := fun h W => specSame_any a b W h.1 h.2
  have IG : Hid (∀ (_ : a.py.size ≤ 1048576 ∧ b.py.size ≤ 1048576) (W : World) (_ : PTab W), Calls Tryd.prog 7 #[.agg a.cs.toArray, .agg b.cs.toArray] W fun e w' => e = .returned (.tuple #[.bool (sameB a b), .bool (sameOk a b)]) ∧ Below W.heap.size W w') := fun h W hT => implSame_any a b W h.1 h.2 hT
  have HT : Hid (∀ W : World, Below w.heap.size w W → PTab W) := fun W hb => hT.below hb (Nat.le_refl _)
  have HZ : Hid (∀ r : Int, r = 1048576 - a.py.size → 0 ≤ r → a.py.size ≤ 1048576) := fun r h1 h2 => by omega
  have HZ2 : Hid (∀ r l : Int, r = l - b.py.size → 0 ≤ r → l ≤ 1048576 → b.py.size ≤ 1048576) := fun r l h1 h2 h3 => by omega
  generalize sameB a b = R1 at *
  generalize sameOk a b = R2 at *
  have r0 := (MA.Rg.new w a.cs 23).alloc (.cells b.cs.toArray 23)
  have r1 := MA.Rg.new' (w.alloc (.cells a.cs.toArray 23)) b.cs 23 (w.heap.size + 1) (by simp)
  have hb : Below w.heap.size w ((w.alloc (.cells a.cs.toArray 23)).alloc (.cells b.cs.toArray 23)) := ((Below.refl _ w).alloc (Nat.le_refl _) _).alloc (by simp) _
  have HR : Hid _ := And.intro r0 (And.intro r1 hb)
  clear r0 r1 hb hT hs hs'
  change Calls _ _ #[.agg a.cs.toArray, .agg b.cs.toArray] _ _
  go_enter Tryd.func3, Tryd.ntmps3
  generalize hW : (w.alloc (.cells a.cs.toArray 23)).alloc (.cells b.cs.toArray 23) = W0 at HR
  have HAA : Hid _ := HR.out.1.rng
  go_wp2_with (refine MA.load_r rfl 23 _ rfl rfl (cs := a.cs) ?_ Tryd.underlying23 rfl Tryd.sizeBundleL rfl ?_; exact HAA.out)
  clear hW HAA
  refine (SZ.out _).mono ?_
  rintro e w1 ⟨⟨r, rfl, hr⟩, hb1⟩
  replace HR : Hid _ := And.intro (HR.out.1.below hb1 HR.out.1.lt) (And.intro (HR.out.2.1.below hb1 HR.out.2.1.lt) (HR.out.2.2.trans (hb1.mono HR.out.2.2.size)))
  clear hb1
  rcases hr with hr | ⟨hr1, hr2⟩
  · go_wp2
    go_ret
    exact ⟨rfl, HR.out.2.2⟩
  have HA1 : Hid (a.py.size ≤ 1048576) := HZ.out r hr1 hr2
  have hr3 : r ≤ 1048576 := by omega
  clear SZ HZ hr1
  have HB : Hid _ := HR.out.2.1.rng
  go_wp2_with (refine MA.load_r rfl 23 _ rfl rfl (cs := b.cs) ?_ Tryd.underlying23 rfl Tryd.sizeBundleL rfl ?_; exact HB.out)
  refine (SZ2.out r ⟨hr2, hr3⟩ _).mono ?_
  rintro e w2 ⟨⟨r2, rfl, hr⟩, hb1⟩
  replace HR : Hid _ := And.intro (HR.out.1.below hb1 HR.out.1.lt) (And.intro (HR.out.2.1.below hb1 HR.out.2.1.lt) (HR.out.2.2.trans (hb1.mono HR.out.2.2.size)))
  clear hb1
  rcases hr with hr | ⟨hr1, hr5⟩
  · go_wp2
    go_ret
    exact ⟨rfl, HR.out.2.2⟩
  have HAB : Hid (a.py.size ≤ 1048576 ∧ b.py.size ≤ 1048576) := ⟨HA1.out, HZ2.out r2 r hr1 hr5 hr3⟩
  clear SZ2 HZ2 hr1 hr2 hr3 HA1 HB
  go_wp2
  obtain ⟨hAr, hBr, hBw⟩ := HR.out
  refine MR.frame fun A hA => ?_
  have hsz : A.tmps.size = 44 := by rw [hA]; rfl
  have e2 : A.eval (.tmp 2) = .pointer (some ⟨w.heap.size, 0, none⟩) := by rw [hA]; rfl
  have f2 := MR.read (t := 2) (by rw [hsz]; decide) e2
  have e3 : A.eval (.tmp 3) = .pointer (some ⟨w.heap.size + 1, 0, none⟩) := by rw [hA]; rfl
  have f3 := MR.read (t := 3) (by rw [hsz]; decide) e3
  have HA : Hid (A = _) := hA
  clear hA
  have hS : (fun w' : World => Below w2.heap.size w2 w') (World.drew _) := ((Below.refl _ w2).drew)
  refine wp_region_held (S := fun w' : World => Below w2.heap.size w2 w') (by kernel_rfl) ?_
  change wpAnyH _ _ _ _ _ _ _ _ (World.drew _)
  refine MR.takeH (i := 0) (some 21) (.agg a.cs.toArray) rfl rfl (by kernel_rfl) (by kernel_rfl) (by kernel_rfl) (fun _ _ _ h => h) hS (MR.free rfl) (fun w hw => MA.ex_load rfl (by simp [MR.ev, MR.size, hsz, e2, f2, e3, f3]) (MA.range_below hAr.rng hw hAr.lt) Tryd.underlying23 rfl Tryd.sizeBundleL rfl) ?_
  refine MR.takeH (i := 2) (some 23) (.agg b.cs.toArray) rfl rfl (by kernel_rfl) (by kernel_rfl) (by kernel_rfl) (fun _ _ _ h => h) hS (MR.free rfl) (fun w hw => MA.ex_load rfl (by simp [MR.ev, MR.size, hsz, e2, f2, e3, f3]) (MA.range_below hBr.rng hw hBr.lt) Tryd.underlying23 rfl Tryd.sizeBundleL rfl) ?_
  refine MR.callH (i := 1) (some 22) (6) (#[.agg a.cs.toArray]) (by kernel_rfl) rfl rfl (MR.free rfl) (by simp [execOp, MR.ev, MR.size, hsz, e2, f2, e3, f3, go_sem]) ?_
  refine (TA.out _).mono ?_
  rintro e w5 ⟨rfl, hb5⟩
  have hS5 : Below w2.heap.size w2 w5 := ((Below.refl _ w2).drew).trans hb5
  refine ⟨_, rfl, hS5, ?_⟩
  refine MR.callH (i := 3) (some 24) (6) (#[.agg b.cs.toArray]) (by kernel_rfl) rfl rfl (MR.free rfl) (by simp [execOp, MR.ev, MR.size, hsz, e2, f2, e3, f3, go_sem]) ?_
  refine (TB.out _).mono ?_
  rintro e w6 ⟨rfl, hb6⟩
  have hS6 : Below w2.heap.size w2 w6 := hS5.trans (hb6.mono hS5.size)
  refine ⟨_, rfl, hS6, ?_⟩
  refine MR.callH (i := 4) (some 25) (5) (#[.agg a.cs.toArray, .agg b.cs.toArray]) (by kernel_rfl) rfl rfl (MR.free rfl) (by simp [execOp, MR.ev, MR.size, hsz, e2, f2, e3, f3, go_sem]) ?_
  refine (SG.out HAB.out _).mono ?_
  rintro e w7 ⟨rfl, hb7⟩
  have hS7 : Below w2.heap.size w2 w7 := hS6.trans (hb7.mono hS6.size)
  refine ⟨_, rfl, hS7, ?_⟩
  refine MR.takeH (i := 5) (some 20) (.tuple #[.bool R1, .bool R2]) rfl rfl (by kernel_rfl) (by kernel_rfl) (by kernel_rfl) (fun _ _ _ h => h) hS7 (MR.free rfl) (fun wq hw => by simp [execOp, MR.ev, MR.size, hsz, e2, f2, e3, f3, go_sem]) ?_
  refine MR.takeH (i := 6) (some 26) (.bool R1) rfl rfl (by kernel_rfl) (by kernel_rfl) (by kernel_rfl) (fun _ _ _ h => h) hS7 (MR.free rfl) (fun wq hw => by simp [execOp, MR.ev, MR.size, hsz, e2, f2, e3, f3, go_sem]) ?_
  refine MR.takeH (i := 7) (some 27) (.bool R2) rfl rfl (by kernel_rfl) (by kernel_rfl) (by kernel_rfl) (fun _ _ _ h => h) hS7 (MR.free rfl) (fun wq hw => by simp [execOp, MR.ev, MR.size, hsz, e2, f2, e3, f3, go_sem]) ?_
  refine MR.takeH (i := 8) (some 6) (.bool R1) rfl rfl (by kernel_rfl) (by kernel_rfl) (by kernel_rfl) (fun _ _ _ h => h) hS7 (MR.free rfl) (fun wq hw => by simp [execOp, MR.ev, MR.size, hsz, e2, f2, e3, f3, go_sem]) ?_
  refine MR.takeH (i := 9) (some 7) (.bool R2) rfl rfl (by kernel_rfl) (by kernel_rfl) (by kernel_rfl) (fun _ _ _ h => h) hS7 (MR.free rfl) (fun wq hw => by simp [execOp, MR.ev, MR.size, hsz, e2, f2, e3, f3, go_sem]) ?_
  refine wpAnyH_done (by kernel_rfl) ?_ _
  replace HR : Hid _ := And.intro (hAr.below hS7 hAr.lt) (And.intro (hBr.below hS7 hBr.lt) (hBw.trans (hS7.mono hBw.size)))
  rw [HA.out]
  clear hS HA e2 f2 e3 f3 hsz hAr hBr hBw hS5 hS6 hS7 hb5 hb6 hb7
  simp only [Act.put, List.setIfInBounds_toArray, List.set_cons_succ, List.set_cons_zero]
  go_wp2
  obtain ⟨hAr, hBr, hBw⟩ := HR.out
  refine MR.frame fun A hA => ?_
  have hsz : A.tmps.size = 44 := by rw [hA]; rfl
  have e2 : A.eval (.tmp 2) = .pointer (some ⟨w.heap.size, 0, none⟩) := by rw [hA]; rfl
  have f2 := MR.read (t := 2) (by rw [hsz]; decide) e2
  have e3 : A.eval (.tmp 3) = .pointer (some ⟨w.heap.size + 1, 0, none⟩) := by rw [hA]; rfl
  have f3 := MR.read (t := 3) (by rw [hsz]; decide) e3
  have HA : Hid (A = _) := hA
  clear hA
  have hS : (fun w' : World => Below w7.heap.size w7 w') (World.drew _) := ((Below.refl _ w7).drew)
  refine wp_region_held (S := fun w' : World => Below w7.heap.size w7 w') (by kernel_rfl) ?_
  change wpAnyH _ _ _ _ _ _ _ _ (World.drew _)
  refine MR.takeH (i := 0) (some 29) (.agg a.cs.toArray) rfl rfl (by kernel_rfl) (by kernel_rfl) (by kernel_rfl) (fun _ _ _ h => h) hS (MR.free rfl) (fun w hw => MA.ex_load rfl (by simp [MR.ev, MR.size, hsz, e2, f2, e3, f3]) (MA.range_below hAr.rng hw hAr.lt) Tryd.underlying23 rfl Tryd.sizeBundleL rfl) ?_
  refine MR.takeH (i := 2) (some 31) (.agg b.cs.toArray) rfl rfl (by kernel_rfl) (by kernel_rfl) (by kernel_rfl) (fun _ _ _ h => h) hS (MR.free rfl) (fun w hw => MA.ex_load rfl (by simp [MR.ev, MR.size, hsz, e2, f2, e3, f3]) (MA.range_below hBr.rng hw hBr.lt) Tryd.underlying23 rfl Tryd.sizeBundleL rfl) ?_
  refine MR.callH (i := 1) (some 30) (6) (#[.agg a.cs.toArray]) (by kernel_rfl) rfl rfl (MR.free rfl) (by simp [execOp, MR.ev, MR.size, hsz, e2, f2, e3, f3, go_sem]) ?_
  refine (TA.out _).mono ?_
  rintro e w5 ⟨rfl, hb5⟩
  have hS5 : Below w7.heap.size w7 w5 := ((Below.refl _ w7).drew).trans hb5
  refine ⟨_, rfl, hS5, ?_⟩
  refine MR.callH (i := 3) (some 32) (6) (#[.agg b.cs.toArray]) (by kernel_rfl) rfl rfl (MR.free rfl) (by simp [execOp, MR.ev, MR.size, hsz, e2, f2, e3, f3, go_sem]) ?_
  refine (TB.out _).mono ?_
  rintro e w6 ⟨rfl, hb6⟩
  have hS6 : Below w7.heap.size w7 w6 := hS5.trans (hb6.mono hS5.size)
  refine ⟨_, rfl, hS6, ?_⟩
  refine MR.callH (i := 4) (some 33) (7) (#[.agg a.cs.toArray, .agg b.cs.toArray]) (by kernel_rfl) rfl rfl (MR.free rfl) (by simp [execOp, MR.ev, MR.size, hsz, e2, f2, e3, f3, go_sem]) ?_
  refine (IG.out HAB.out _ (HT.out _ (hBw.trans (hS6.mono hBw.size)))).mono ?_
  rintro e w8 ⟨rfl, hb7⟩
  have hS7 : Below w7.heap.size w7 w8 := hS6.trans (hb7.mono hS6.size)
  refine ⟨_, rfl, hS7, ?_⟩
  refine MR.takeH (i := 5) (some 28) (.tuple #[.bool R1, .bool R2]) rfl rfl (by kernel_rfl) (by kernel_rfl) (by kernel_rfl) (fun _ _ _ h => h) hS7 (MR.free rfl) (fun wq hw => by simp [execOp, MR.ev, MR.size, hsz, e2, f2, e3, f3, go_sem]) ?_
  refine MR.takeH (i := 6) (some 34) (.bool R1) rfl rfl (by kernel_rfl) (by kernel_rfl) (by kernel_rfl) (fun _ _ _ h => h) hS7 (MR.free rfl) (fun wq hw => by simp [execOp, MR.ev, MR.size, hsz, e2, f2, e3, f3, go_sem]) ?_
  refine MR.takeH (i := 7) (some 35) (.bool R2) rfl rfl (by kernel_rfl) (by kernel_rfl) (by kernel_rfl) (fun _ _ _ h => h) hS7 (MR.free rfl) (fun wq hw => by simp [execOp, MR.ev, MR.size, hsz, e2, f2, e3, f3, go_sem]) ?_
  refine MR.takeH (i := 8) (some 8) (.bool R1) rfl rfl (by kernel_rfl) (by kernel_rfl) (by kernel_rfl) (fun _ _ _ h => h) hS7 (MR.free rfl) (fun wq hw => by simp [execOp, MR.ev, MR.size, hsz, e2, f2, e3, f3, go_sem]) ?_
  refine MR.takeH (i := 9) (some 9) (.bool R2) rfl rfl (by kernel_rfl) (by kernel_rfl) (by kernel_rfl) (fun _ _ _ h => h) hS7 (MR.free rfl) (fun wq hw => by simp [execOp, MR.ev, MR.size, hsz, e2, f2, e3, f3, go_sem]) ?_
  refine wpAnyH_done (by kernel_rfl) ?_ _
  replace HR : Hid _ := And.intro (hAr.below hS7 hAr.lt) (And.intro (hBr.below hS7 hBr.lt) (hBw.trans (hS7.mono hBw.size)))
  rw [HA.out]
  clear hS HA e2 f2 e3 f3 hsz hAr hBr hBw hS5 hS6 hS7 hb5 hb6 hb7
  simp only [Act.put, List.setIfInBounds_toArray, List.set_cons_succ, List.set_cons_zero]
  clear SG IG TA TB HT HAB
  go_wp2
  go_ret
  exact ⟨rfl, HR.out.2.2⟩
end Go.Proofs.YtfppjpheklpplaaDoor
