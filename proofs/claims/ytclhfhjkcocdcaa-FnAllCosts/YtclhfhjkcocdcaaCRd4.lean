/- Potentials, gains: potentials, HasGain, areWithoutGain of the program. -/
import Derived.Test.YtclhfhjkcocdcaaRows
import Derived.Test.YtclhfhjkcocdcaaCRd3
import Derived.Test.YtclhfhjkcocdcaaCRoadsI
import Derived.WalkKit
import Derived.WalkSpells
import Derived.WalkLawsBesides
import Derived.Outline
namespace Go.Proofs.Ytclhfhjkcocdcaa
open Go.RowKit
theorem Try.builtNC : Try.prog.built 47 [] = some (RD.il RD.zero).toArray := by kernel_rfl
theorem MA.build_pN {P : Program} {ops : Array Oper} {rest : List Oper} {op : Oper} {a : Act} {w : World} {Q : Exit → Act → World → Prop} (hgd : op.guard = none) (ty : TypeId) {parts : Array (Nat × Operand)} (ho : op.op = .build ty parts)
    (ps : List (Nat × Value)) (hps : (parts.map fun (i, x) => (i, a.eval x)).toList = ps) {cs : List Value} (hb : P.built ty ps = some cs.toArray)
    (h : wpList P ops Q rest (a.put op.dst (.agg cs.toArray)) w) : wpList P ops Q (op :: rest) a w := MA.build_m hgd ty ho (by rw [hps]; exact hb) h
set_option linter.unusedSimpArgs false in
set_option maxHeartbeats 1600000 in
set_option maxRecDepth 100000 in
theorem potentials_any (a : Option Addr) (cap : Nat) (xs : List I3) (w : World) (hn : xs.length ≤ 1048576) (hg : RD.Gd xs) (hin : MI3.RowAt w a xs) (F : RD.Cs) (B : Bool) (hF : Hid (RD.settle xs 8 RD.zero = (F, B))) :
    Calls Try.prog 28 #[.slice a xs.length cap] w fun e w' => e = .returned (.tuple #[.agg (RD.il F).toArray, .bool B]) ∧ Below w.heap.size w w' := by
  have hb0 : Below w.heap.size w (w.alloc (.cells (RD.il RD.zero).toArray 47)) := (Below.refl _ w).alloc (Nat.le_refl _) _
  have SE : Hid _ := settled_any RD.zero a cap xs (w.alloc (.cells (RD.il RD.zero).toArray 47)) hn hg RD.zero_bd (hin.below hb0) F B hF
  have HR : Hid (MA.Rg (w.alloc (.cells (RD.il RD.zero).toArray 47)) w.heap.size 0 (RD.il RD.zero)) := MA.Rg.new _ _ _
  have HB0 : Hid _ := hb0
  clear hin hg hF hb0
  go_enter Try.func28, Try.ntmps28
  go_wp2_with (first
    | (refine MA.alloc_z rfl 47 rfl _ _ Try.infoNC ?_; simp only [MA.sz_alloc])
    | (refine MA.build_pN rfl 47 rfl [] (by simp [Act.eval]) Try.builtNC ?_))
  refine Calls.mono SE.out ?_
  rintro e w2 ⟨rfl, hb2⟩
  have HR2 : Hid _ := HR.out.below hb2 HR.out.lt
  have HB2 : Hid _ := HB0.out.trans (hb2.mono HB0.out.size)
  clear HR HB0 hb2 SE
  have HRP : Hid (MA.Rg (w2.setCells w.heap.size 0 (RD.il F)) w.heap.size 0 (RD.il F)) := HR2.out.put (by rw [RD.il_len, RD.il_len])
  have HBP : Hid (Below w.heap.size w (w2.setCells w.heap.size 0 (RD.il F))) := MA.below_cells (Nat.le_refl _) _ _ _ HB2.out
  go_wp2_with (refine MA.store_m rfl 47 _ _ rfl rfl rfl (vs := RD.il F) (cs := RD.il RD.zero) ?_ Try.sizeNC (RD.il_len _) (RD.il_len _) (RD.il_one _) ?_; exact HR2.out; clear HR2)
  exact bodyPost_ret (MA.ret_cell2 rfl rfl rfl (MA.load_rg HRP.out Try.underlying47 rfl Try.sizeNC (RD.il_len _))) rfl ⟨rfl, HBP.out⟩
set_option linter.unusedSimpArgs false in
set_option maxHeartbeats 1600000 in
set_option maxRecDepth 100000 in
theorem hasGainI_any (a : Option Addr) (cap : Nat) (xs : List I3) (w : World) (hn : xs.length ≤ 1048576) (hin : MI3.RowAt w a xs) (R : Bool) (hR : Hid (RD.okP xs = R)) (C : Bool) (hC : Hid (R = true → RD.calm xs = C)) :
    Calls Try.prog 8 #[.slice a xs.length cap] w fun e w' => e = .returned (.tuple #[.bool (R && !C), .bool R]) ∧ Below w.heap.size w w' := by
  have GR : Hid _ := implGoodRoads_any a cap xs w hn hin R hR
  cases R with
  | false =>
    clear hR hC hin
    go_enter Try.func8, Try.ntmps8
    go_wp2_with fail
    refine Calls.mono GR.out ?_
    rintro e w2 ⟨rfl, hb2⟩
    clear GR
    go_wp2
    go_ret2
    exact ⟨rfl, hb2⟩
  | true =>
    have HG : Hid (RD.Gd xs) := RD.okP_Gd hR.out
    have HC : Hid (RD.settle xs 8 RD.zero = ((RD.settle xs 8 RD.zero).1, C)) := by
      have := hC.out rfl
      show _ = _
      rw [← this]; rfl
    have PO : Hid _ := fun (W : World) (hr : MI3.RowAt W a xs) => potentials_any a cap xs W hn HG.out hr _ C HC
    generalize (RD.settle xs 8 RD.zero).1 = F at *
    have HI : Hid _ := hin
    clear hR hC hin HG HC
    go_enter Try.func8, Try.ntmps8
    go_wp2_with fail
    refine Calls.mono GR.out ?_
    rintro e w2 ⟨rfl, hb2⟩
    clear GR
    go_wp2_with fail
    refine (PO.out _ (HI.out.below hb2)).mono ?_
    rintro e w3 ⟨rfl, hb3⟩
    have HB3 : Hid _ := hb2.trans (hb3.mono hb2.size)
    have HZ : Hid (MA.Rg (w3.alloc (.cells (RD.il RD.zero).toArray 47)) w3.heap.size 0 (RD.il RD.zero)) := MA.Rg.new _ _ _
    clear hb2 hb3 PO HI
    go_wp2_with (first
      | (refine MA.alloc_z rfl 47 rfl _ _ Try.infoNC ?_; simp only [MA.sz_alloc])
      | (refine MA.store_m rfl 47 _ _ rfl rfl rfl (vs := RD.il F) (cs := RD.il RD.zero) ?_ Try.sizeNC (RD.il_len _) (RD.il_len _) (RD.il_one _) ?_; exact HZ.out; clear HZ))
    go_ret2
    exact ⟨rfl, MA.below_cells HB3.out.size _ _ _ (HB3.out.alloc HB3.out.size _)⟩
set_option linter.unusedSimpArgs false in
set_option maxHeartbeats 1600000 in
set_option maxRecDepth 100000 in
theorem calmI_any (a : Option Addr) (cap : Nat) (xs : List I3) (w : World) (hn : xs.length ≤ 1048576) (hin : MI3.RowAt w a xs) (R : Bool) (hR : Hid (RD.fine xs = R)) :
    Calls Try.prog 24 #[.slice a xs.length cap] w fun e w' => e = .returned (.bool R) ∧ Below w.heap.size w w' := by
  have HG : Hid _ := hasGainI_any a cap xs w hn hin _ rfl _ (fun _ => rfl)
  have hA : Hid (R = (RD.okP xs && RD.calm xs)) := hR.out.symm
  clear hin hR
  generalize RD.okP xs = p at *
  generalize RD.calm xs = q at *
  go_enter Try.func24, Try.ntmps24
  go_wp2_with fail
  refine Calls.mono HG.out ?_
  rintro e w2 ⟨rfl, hb2⟩
  clear HG
  cases p <;> cases q
  all_goals go_wp2
  all_goals go_ret
  all_goals exact ⟨retB7 hA.out.symm, hb2⟩
end Go.Proofs.Ytclhfhjkcocdcaa
