/- The law FnExactCutPiece answers true at every bundle and every number. -/
import Derived.Test.YthpmlefaloiapabRows
import Derived.Test.YthpmlefaloiapabCCutI
import Derived.Test.YthpmlefaloiapabCEqBundle
import Derived.Test.YthpmlefaloiapabCBundleLaw
import Derived.WalkKit
import Derived.WalkSpells
import Derived.WalkLawsBesides
import Derived.Outline
namespace Go.Proofs.Ythpmlefaloiapab
open Go.RowKit
theorem Try.sizeLB : (Try.prog.info? 23).map (·.size) = some 10 := by kernel_rfl
/-- Two new variables that hold bundles. -/
theorem two_new (W : World) (x y : Bd) (t : TypeId) :
    MA.Rg ((W.alloc (.cells (Bd.cs B1.zero).toArray t)).alloc (.cells (Bd.cs B1.zero).toArray t)) W.heap.size 0 (Bd.cs B1.zero) ∧
    MA.Rg (((W.alloc (.cells (Bd.cs B1.zero).toArray t)).alloc (.cells (Bd.cs B1.zero).toArray t)).setCells W.heap.size 0 x.cs) (W.heap.size + 1) 0 (Bd.cs B1.zero) ∧
    (MA.Rg ((((W.alloc (.cells (Bd.cs B1.zero).toArray t)).alloc (.cells (Bd.cs B1.zero).toArray t)).setCells W.heap.size 0 x.cs).setCells (W.heap.size + 1) 0 y.cs) W.heap.size 0 x.cs ∧ MA.Rg ((((W.alloc (.cells (Bd.cs B1.zero).toArray t)).alloc (.cells (Bd.cs B1.zero).toArray t)).setCells W.heap.size 0 x.cs).setCells (W.heap.size + 1) 0 y.cs) (W.heap.size + 1) 0 y.cs ∧ Below W.heap.size W ((((W.alloc (.cells (Bd.cs B1.zero).toArray t)).alloc (.cells (Bd.cs B1.zero).toArray t)).setCells W.heap.size 0 x.cs).setCells (W.heap.size + 1) 0 y.cs)) := by
  have r1 := (MA.Rg.new W (Bd.cs B1.zero) t).alloc (.cells (Bd.cs B1.zero).toArray t)
  have r2 := MA.Rg.new' (W.alloc (.cells (Bd.cs B1.zero).toArray t)) (Bd.cs B1.zero) t (W.heap.size + 1) (by simp)
  have q2 := r2.other (k' := W.heap.size) (o' := 0) (vs := x.cs) (.inl (by omega))
  exact ⟨r1, q2, (r1.put (vs := x.cs) rfl).other (.inl (by omega)), q2.put rfl, MA.below_cells (by omega) _ _ _ (MA.below_cells (Nat.le_refl _) _ _ _ (((Below.refl _ W).alloc (Nat.le_refl _) _).alloc (by simp) _))⟩
set_option linter.unusedSimpArgs false in
set_option maxHeartbeats 800000 in
set_option maxRecDepth 100000 in
theorem lawCut_any (b : Bd) (x : Int) (w : World) (hs : b.py.size ≤ maxLen) (hxr : -9223372036854775808 ≤ x ∧ x ≤ 9223372036854775807) :
    Calls Try.prog 3 #[.agg b.cs.toArray, .int .i64 x] w fun e w' => e = .returned (.bool true) ∧ Below w.heap.size w w' := by
  have SZ : Hid (∀ W : World, Calls Try.prog 5 #[.agg b.cs.toArray, .int .i64 1048576] W fun e w' => (∃ r : Int, e = .returned (.int .i64 r) ∧ (r < 0 ∨ (r = 1048576 - b.py.size ∧ 0 ≤ r))) ∧ Below W.heap.size W w') := fun W => szBundle_any b 1048576 W hs (by omega)
  have TB : Hid (∀ W : World, Calls Try.prog 7 #[.agg b.cs.toArray] W fun e w' => e = .returned (.agg b.cs.toArray) ∧ Below W.heap.size W w') := fun W => toBundle_any b W
  have SG : Hid _ := fun W (h : b.py.size ≤ 1048576) => specCut_any b x W h
  have IG : Hid _ := fun W (h : b.py.size ≤ 1048576) => implCut_any b x W h hxr
  generalize cutA b x = A at *
  generalize cutB b x = B at *
  generalize cutOk b x = R at *
  have EA : Hid (∀ W : World, Calls Try.prog 9 #[.agg A.cs.toArray, .agg A.cs.toArray] W fun e w' => e = .returned (.bool true) ∧ Below W.heap.size W w') := fun W => eqBundle_self A W
  have EB : Hid (∀ W : World, Calls Try.prog 9 #[.agg B.cs.toArray, .agg B.cs.toArray] W fun e w' => e = .returned (.bool true) ∧ Below W.heap.size W w') := fun W => eqBundle_self B W
  have HB : Hid (MA.Rg (w.alloc (.cells b.cs.toArray 23)) w.heap.size 0 b.cs ∧ Below w.heap.size w (w.alloc (.cells b.cs.toArray 23))) := ⟨MA.Rg.new w b.cs 23, (Below.refl _ w).alloc (Nat.le_refl _) _⟩
  clear hs
  go_enter Try.func3, Try.ntmps3
  go_wp2_with (refine MA.load_r rfl 23 _ rfl rfl (cs := b.cs) ?_ Try.underlying23 rfl Try.sizeLB rfl ?_; exact HB.out.1.rng)
  refine (SZ.out _).mono ?_
  rintro e w1 ⟨⟨r, rfl, hr⟩, hb1⟩
  replace HB : Hid (MA.Rg w1 w.heap.size 0 b.cs ∧ Below w.heap.size w w1) := ⟨HB.out.1.below hb1 HB.out.1.lt, HB.out.2.trans (hb1.mono HB.out.2.size)⟩
  clear SZ hb1
  rcases hr with hr | ⟨hr1, hr2⟩
  · clear TB SG IG
    go_wp2
    go_ret
    exact ⟨rfl, HB.out.2⟩
  · have hpy : b.py.size ≤ 1048576 := by omega
    clear hr1
    go_wp2_with (refine MA.load_r rfl 23 _ rfl rfl (cs := b.cs) ?_ Try.underlying23 rfl Try.sizeLB rfl ?_; exact HB.out.1.rng)
    refine (TB.out _).mono ?_
    rintro e w2 ⟨rfl, hb2⟩
    replace HB : Hid (MA.Rg w2 w.heap.size 0 b.cs ∧ Below w.heap.size w w2) := ⟨HB.out.1.below hb2 HB.out.1.lt, HB.out.2.trans (hb2.mono HB.out.2.size)⟩
    clear hb2
    go_wp2_with fail
    refine (SG.out _ hpy).mono ?_
    rintro e w3 ⟨rfl, hb3⟩
    replace HB : Hid (MA.Rg w3 w.heap.size 0 b.cs ∧ Below w.heap.size w w3) := ⟨HB.out.1.below hb3 HB.out.1.lt, HB.out.2.trans (hb3.mono HB.out.2.size)⟩
    clear SG hb3
    have SN : Hid _ := two_new w3 A B 25
    have S1 : Hid _ := SN.out.1
    have S2 : Hid _ := SN.out.2.1
    have SF : Hid _ := SN.out.2.2
    clear SN
    go_wp2_with (first
      | (refine MA.alloc_z rfl 25 rfl _ _ Try.infoBundle ?_; simp only [MA.sz_alloc])
      | (refine MA.store_m rfl 25 _ _ rfl rfl rfl (vs := A.cs) (cs := Bd.cs B1.zero) ?_ Try.sizeBundle rfl rfl (MA.cs_one _) ?_; exact S1.out; clear S1; generalize World.setCells (World.alloc _ _) _ _ _ = W4a at *)
      | (refine MA.store_m rfl 25 _ _ rfl rfl rfl (vs := B.cs) (cs := Bd.cs B1.zero) ?_ Try.sizeBundle rfl rfl (MA.cs_one _) ?_; exact S2.out; clear S2; generalize World.setCells _ _ _ _ = W4 at *)
      | (refine MA.load_r rfl 23 _ rfl rfl (cs := b.cs) ?_ Try.underlying23 rfl Try.sizeLB rfl ?_; exact (HB.out.1.below SF.out.2.2 HB.out.1.lt).rng))
    have sA := SF.out.1
    have sB := SF.out.2.1
    replace HB : Hid (MA.Rg W4 w.heap.size 0 b.cs ∧ Below w.heap.size w W4) := ⟨HB.out.1.below SF.out.2.2 HB.out.1.lt, HB.out.2.trans (SF.out.2.2.mono HB.out.2.size)⟩
    clear SF
    generalize w3.heap.size = q3 at *
    refine (TB.out _).mono ?_
    rintro e w5 ⟨rfl, hb5⟩
    replace HB : Hid (MA.Rg w5 w.heap.size 0 b.cs ∧ Below w.heap.size w w5) := ⟨HB.out.1.below hb5 HB.out.1.lt, HB.out.2.trans (hb5.mono HB.out.2.size)⟩
    have HSAB : Hid (MA.Rg w5 q3 0 A.cs ∧ MA.Rg w5 (q3 + 1) 0 B.cs) := ⟨sA.below hb5 sA.lt, sB.below hb5 sB.lt⟩
    clear hb5 sA sB TB
    go_wp2_with fail
    refine (IG.out _ hpy).mono ?_
    rintro e w6 ⟨rfl, hb6⟩
    replace HB : Hid (MA.Rg w6 w.heap.size 0 b.cs ∧ Below w.heap.size w w6) := ⟨HB.out.1.below hb6 HB.out.1.lt, HB.out.2.trans (hb6.mono HB.out.2.size)⟩
    replace HSAB : Hid (MA.Rg w6 q3 0 A.cs ∧ MA.Rg w6 (q3 + 1) 0 B.cs) := ⟨HSAB.out.1.below hb6 HSAB.out.1.lt, HSAB.out.2.below hb6 HSAB.out.2.lt⟩
    clear IG hb6
    have GN : Hid _ := two_new w6 A B 25
    have G1 : Hid _ := GN.out.1
    have G2 : Hid _ := GN.out.2.1
    have GF : Hid _ := GN.out.2.2
    clear GN
    go_wp2_with (first
      | (refine MA.alloc_z rfl 25 rfl _ _ Try.infoBundle ?_; simp only [MA.sz_alloc])
      | (refine MA.store_m rfl 25 _ _ rfl rfl rfl (vs := A.cs) (cs := Bd.cs B1.zero) ?_ Try.sizeBundle rfl rfl (MA.cs_one _) ?_; exact G1.out; clear G1; generalize World.setCells (World.alloc _ _) _ _ _ = W7a at *)
      | (refine MA.store_m rfl 25 _ _ rfl rfl rfl (vs := B.cs) (cs := Bd.cs B1.zero) ?_ Try.sizeBundle rfl rfl (MA.cs_one _) ?_; exact G2.out; clear G2; generalize World.setCells _ _ _ _ = W7 at *)
      | (refine MA.load_r rfl 25 _ rfl rfl (cs := A.cs) ?_ Try.underlying25 rfl Try.sizeBundle rfl ?_; first | exact GF.out.1.rng | exact (HSAB.out.1.below GF.out.2.2 HSAB.out.1.lt).rng))
    refine (EA.out _).mono ?_
    rintro e w8 ⟨rfl, hb8⟩
    have hB8 := (HB.out.2.trans (GF.out.2.2.mono HB.out.2.size)).trans (hb8.mono (Nat.le_trans HB.out.2.size GF.out.2.2.size))
    have hG := (GF.out.2.1.below hb8 GF.out.2.1.lt).bd
    have s1 := HSAB.out.2.below GF.out.2.2 HSAB.out.2.lt
    have hS := (s1.below hb8 s1.lt).bd
    clear GF HSAB hb8 HB s1
    generalize w6.heap.size = q6 at *
    obtain ⟨hlt, g0, g1, g2, g3, g4, g5, g6, g7, g8, g9⟩ := hG
    obtain ⟨hlt2, p0, p1, p2, p3, p4, p5, p6, p7, p8, p9⟩ := hS
    go_wp2_with fail
    refine (EB.out _).mono ?_
    rintro e w9 ⟨rfl, hb9⟩
    have hB9 := hB8.trans (hb9.mono hB8.size)
    clear hB8 hb9 EB EA hlt hlt2 g0 g1 g2 g3 g4 g5 g6 g7 g8 g9 p0 p1 p2 p3 p4 p5 p6 p7 p8 p9
    go_wp2
    go_ret
    exact ⟨rfl, hB9⟩
end Go.Proofs.Ythpmlefaloiapab
