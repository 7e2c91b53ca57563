/- Potentials, costs from a node, gains: potentials, costsFrom, HasGain, areWithoutGain of the program. -/
import Derived.Test.YtmgbckdomdoncaaRows
import Derived.Test.YtmgbckdomdoncaaCRd3
import Derived.Test.YtmgbckdomdoncaaCRoadsI
import Derived.WalkKit
import Derived.WalkSpells
import Derived.WalkLawsBesides
import Derived.Outline
namespace Go.Proofs.Ytmgbckdomdoncaa
open Go.RowKit
theorem Try.builtNC : Try.prog.built 56 [] = some (RD.il RD.zero).toArray := by kernel_rfl
theorem MA.build_pN {P : Program} {ops : Array Oper} {rest : List Oper} {op : Oper} {a : Act} {w : World} {Q : Exit → Act → World → Prop} (hgd : op.guard = none) (ty : TypeId) {parts : Array (Nat × Operand)} (ho : op.op = .build ty parts)
    (ps : List (Nat × Value)) (hps : (parts.map fun (i, x) => (i, a.eval x)).toList = ps) {cs : List Value} (hb : P.built ty ps = some cs.toArray)
    (h : wpList P ops Q rest (a.put op.dst (.agg cs.toArray)) w) : wpList P ops Q (op :: rest) a w := MA.build_m hgd ty ho (by rw [hps]; exact hb) h
set_option linter.unusedSimpArgs false in
set_option maxHeartbeats 1600000 in
set_option maxRecDepth 100000 in
theorem potentials_any (a : Option Addr) (cap : Nat) (xs : List I3) (w : World) (hn : xs.length ≤ 1048576) (hg : RD.Gd xs) (hin : MI3.RowAt w a xs) (F : RD.Cs) (B : Bool) (hF : Hid (RD.settle xs 8 RD.zero = (F, B))) :
    Calls Try.prog 41 #[.slice a xs.length cap] w fun e w' => e = .returned (.tuple #[.agg (RD.il F).toArray, .bool B]) ∧ Below w.heap.size w w' := by
  have hb0 : Below w.heap.size w (w.alloc (.cells (RD.il RD.zero).toArray 56)) := (Below.refl _ w).alloc (Nat.le_refl _) _
  have SE : Hid _ := settled_any RD.zero a cap xs (w.alloc (.cells (RD.il RD.zero).toArray 56)) hn hg RD.zero_bd (hin.below hb0) F B hF
  have HR : Hid (MA.Rg (w.alloc (.cells (RD.il RD.zero).toArray 56)) w.heap.size 0 (RD.il RD.zero)) := MA.Rg.new _ _ _
  have HB0 : Hid _ := hb0
  clear hin hg hF hb0
  go_enter Try.func41, Try.ntmps41
  go_wp2_with (first
    | (refine MA.alloc_z rfl 56 rfl _ _ Try.infoNC ?_; simp only [MA.sz_alloc])
    | (refine MA.build_pN rfl 56 rfl [] (by simp [Act.eval]) Try.builtNC ?_))
  refine Calls.mono SE.out ?_
  rintro e w2 ⟨rfl, hb2⟩
  have HR2 : Hid _ := HR.out.below hb2 HR.out.lt
  have HB2 : Hid _ := HB0.out.trans (hb2.mono HB0.out.size)
  clear HR HB0 hb2 SE
  have HRP : Hid (MA.Rg (w2.setCells w.heap.size 0 (RD.il F)) w.heap.size 0 (RD.il F)) := HR2.out.put (by rw [RD.il_len, RD.il_len])
  have HBP : Hid (Below w.heap.size w (w2.setCells w.heap.size 0 (RD.il F))) := MA.below_cells (Nat.le_refl _) _ _ _ HB2.out
  go_wp2_with (refine MA.store_m rfl 56 _ _ rfl rfl rfl (vs := RD.il F) (cs := RD.il RD.zero) ?_ Try.sizeNC (RD.il_len _) (RD.il_len _) (RD.il_one _) ?_; exact HR2.out; clear HR2)
  exact bodyPost_ret (MA.ret_cell2 rfl rfl rfl (MA.load_rg HRP.out Try.underlying56 rfl Try.sizeNC (RD.il_len _))) rfl ⟨rfl, HBP.out⟩
set_option linter.unusedSimpArgs false in
set_option maxHeartbeats 1600000 in
set_option maxRecDepth 100000 in
theorem hasGainI_any (a : Option Addr) (cap : Nat) (xs : List I3) (w : World) (hn : xs.length ≤ 1048576) (hin : MI3.RowAt w a xs) (R : Bool) (hR : Hid (RD.okP xs = R)) (C : Bool) (hC : Hid (R = true → RD.calm xs = C)) :
    Calls Try.prog 21 #[.slice a xs.length cap] w fun e w' => e = .returned (.tuple #[.bool (R && !C), .bool R]) ∧ Below w.heap.size w w' := by
  have GR : Hid _ := implGoodRoads_any a cap xs w hn hin R hR
  cases R with
  | false =>
    clear hR hC hin
    go_enter Try.func21, Try.ntmps21
    go_wp2_with fail
    refine Calls.mono GR.out ?_
    rintro e w2 ⟨rfl, hb2⟩
    clear GR
    go_wp2
    go_ret2
    exact ⟨rfl, hb2⟩
  | true =>
    have HG : Hid (RD.Gd xs) := RD.okP_Gd hR.out
    have HC : Hid (RD.settle xs 8 RD.zero = ((RD.settle xs 8 RD.zero).1, C)) := by
      have := hC.out rfl
      show _ = _
      rw [← this]; rfl
    have PO : Hid _ := fun (W : World) (hr : MI3.RowAt W a xs) => potentials_any a cap xs W hn HG.out hr _ C HC
    generalize (RD.settle xs 8 RD.zero).1 = F at *
    have HI : Hid _ := hin
    clear hR hC hin HG HC
    go_enter Try.func21, Try.ntmps21
    go_wp2_with fail
    refine Calls.mono GR.out ?_
    rintro e w2 ⟨rfl, hb2⟩
    clear GR
    go_wp2_with fail
    refine (PO.out _ (HI.out.below hb2)).mono ?_
    rintro e w3 ⟨rfl, hb3⟩
    have HB3 : Hid _ := hb2.trans (hb3.mono hb2.size)
    have HZ : Hid (MA.Rg (w3.alloc (.cells (RD.il RD.zero).toArray 56)) w3.heap.size 0 (RD.il RD.zero)) := MA.Rg.new _ _ _
    clear hb2 hb3 PO HI
    go_wp2_with (first
      | (refine MA.alloc_z rfl 56 rfl _ _ Try.infoNC ?_; simp only [MA.sz_alloc])
      | (refine MA.store_m rfl 56 _ _ rfl rfl rfl (vs := RD.il F) (cs := RD.il RD.zero) ?_ Try.sizeNC (RD.il_len _) (RD.il_len _) (RD.il_one _) ?_; exact HZ.out; clear HZ))
    go_ret2
    exact ⟨rfl, MA.below_cells HB3.out.size _ _ _ (HB3.out.alloc HB3.out.size _)⟩
set_option linter.unusedSimpArgs false in
set_option maxHeartbeats 1600000 in
set_option maxRecDepth 100000 in
theorem calmI_any (a : Option Addr) (cap : Nat) (xs : List I3) (w : World) (hn : xs.length ≤ 1048576) (hin : MI3.RowAt w a xs) (R : Bool) (hR : Hid (RD.fine xs = R)) :
    Calls Try.prog 38 #[.slice a xs.length cap] w fun e w' => e = .returned (.bool R) ∧ Below w.heap.size w w' := by
  have HG : Hid _ := hasGainI_any a cap xs w hn hin _ rfl _ (fun _ => rfl)
  have hA : Hid (R = (RD.okP xs && RD.calm xs)) := hR.out.symm
  clear hin hR
  generalize RD.okP xs = p at *
  generalize RD.calm xs = q at *
  go_enter Try.func38, Try.ntmps38
  go_wp2_with fail
  refine Calls.mono HG.out ?_
  rintro e w2 ⟨rfl, hb2⟩
  clear HG
  cases p <;> cases q
  all_goals go_wp2
  all_goals go_ret
  all_goals exact ⟨retB7 hA.out.symm, hb2⟩
set_option linter.unusedSimpArgs false in
set_option maxHeartbeats 1600000 in
set_option maxRecDepth 100000 in
theorem costsFrom_any (a : Option Addr) (cap : Nat) (xs : List I3) (fn : Nat) (w : World) (hn : xs.length ≤ 1048576) (hg : RD.Gd xs) (hfn : fn < 8) (hin : MI3.RowAt w a xs) (F : RD.Cs) (hF : Hid ((RD.settle xs 8 (RD.start fn)).1 = F)) :
    Calls Try.prog 39 #[.slice a xs.length cap, .int .i64 (fn : Int)] w fun e w' => e = .returned (.agg (RD.il F).toArray) ∧ Below w.heap.size w w' := by
  have SE : Hid _ := fun (W : World) (hr : MI3.RowAt W a xs) => settled_any (RD.start fn) a cap xs W hn hg (RD.start_bd fn) hr F (RD.settle xs 8 (RD.start fn)).2 (show _ = _ by rw [← hF.out])
  have HI : Hid _ := hin
  have HN0 : Hid _ := RD.n2_new' w 56
  have ff1 : (fn : Int) < 8 := by omega
  have HPS : Hid (RD.il (RD.put (RD.upC (fun _ => RD.far) 8) fn 0) = RD.il (RD.start fn)) := RD.il_ext fun i hi => by simp [RD.put, RD.upC, RD.start, hi]
  have HUP : Hid (∀ k, RD.put (RD.upC (fun _ => RD.far) k) k 1000000000 = RD.upC (fun _ => RD.far) (k + 1)) := fun k => RD.upC_put (fun _ => RD.far) k
  generalize (RD.settle xs 8 (RD.start fn)).2 = B at *
  generalize RD.start fn = st at *
  clear hin hF hg
  go_enter Try.func39, Try.ntmps39
  go_wp2_with (refine MA.alloc_z rfl 56 rfl _ _ Try.infoNC ?_; simp only [MA.sz_alloc])
  generalize (w.alloc (.cells (RD.il RD.zero).toArray 56)).alloc (.cells (RD.il RD.zero).toArray 56) = W0 at *
  generalize w.heap.size + 1 = b0 at *
  go_loopw [7] (fun iv wr => ∃ k : Nat, iv = .int .i64 k ∧ k ≤ 8 ∧ RD.N2 w wr b0 w.heap.size (RD.upC (fun _ => RD.far) k)) (fun iv _ => (8 - intOf iv).toNat)
  case atStart => exact ⟨0, rfl, by omega, by rw [RD.upC_zero]; exact HN0.out⟩
  case round =>
    clear HN0
    obtain ⟨k, rfl, hk, hN⟩ := hrel
    by_cases hl : k < 8
    · obtain ⟨q1, z1⟩ := RD.rg_at hN.c hl
      have hl1 := hN.c.lt
      have hN2 := hN.set1 hl 1000000000
      rw [HUP.out k] at hN2
      have HN2 : Hid _ := hN2
      have kk : (k : Int) < 8 := by omega
      clear hN hN2
      go_wp2
      go_roundw
      case rel => exact ⟨k + 1, by go_num, by omega, HN2.out⟩
      case measure => simp [intOf]; omega
    · obtain rfl : k = 8 := by omega
      obtain ⟨q1, z1⟩ := RD.rg_at hN.c hfn
      have hl1 := hN.c.lt
      have hN2 := hN.set1 hfn 0
      have HN2 : Hid _ := hN2
      have HRc : Hid (MA.Rg (wr.setCell ⟨b0, fn, none⟩ (.int .i64 0)) b0 0 (RD.il st)) := by have := hN2.c; rw [HPS.out] at this; exact this
      have HI1 : Hid _ := HI.out.below hN2.bl
      clear hN hN2 HUP HI HPS
      generalize RD.put (RD.upC (fun _ => RD.far) 8) fn 0 = pc at *
      go_wp2_with (refine MA.load_m rfl 56 _ rfl rfl (cs := RD.il st) ?_ Try.underlying56 rfl Try.sizeNC (RD.il_len _) ?_; exact HRc.out; clear HRc)
      refine (SE.out _ HI1.out).mono ?_
      clear q1 z1 hl1 SE HI1
      generalize wr.setCell ⟨b0, fn, none⟩ (.int .i64 0) = W1 at *
      rintro e w2 ⟨rfl, hb2⟩
      have HN3 : Hid _ := HN2.out.kept hb2
      have HN4 : Hid _ := HN3.out.setc F
      have HRF : Hid _ := HN4.out.c
      have HRR : Hid _ := HN4.out.r
      have HRP : Hid (MA.Rg ((w2.setCells b0 0 (RD.il F)).setCells w.heap.size 0 (RD.il F)) w.heap.size 0 (RD.il F)) := HN4.out.r.put (by rw [RD.il_len, RD.il_len])
      have HBP : Hid (Below w.heap.size w ((w2.setCells b0 0 (RD.il F)).setCells w.heap.size 0 (RD.il F))) := MA.below_cells (Nat.le_refl _) _ _ _ HN4.out.bl
      have HRq : Hid (MA.Rg w2 b0 0 (RD.il pc)) := HN3.out.c
      clear hb2 HN2 HN4 HN3
      go_wp2_with (first
        | (refine MA.store_m rfl 56 _ _ rfl rfl rfl (vs := RD.il F) (cs := RD.il pc) ?_ Try.sizeNC (RD.il_len _) (RD.il_len _) (RD.il_one _) ?_; exact HRq.out; clear HRq; generalize World.setCells _ b0 _ _ = W5 at *)
        | (refine MA.load_m rfl 56 _ rfl rfl (cs := RD.il F) ?_ Try.underlying56 rfl Try.sizeNC (RD.il_len _) ?_; exact HRF.out; clear HRF)
        | (refine MA.store_m rfl 56 _ _ rfl rfl rfl (vs := RD.il F) (cs := RD.il RD.zero) ?_ Try.sizeNC (RD.il_len _) (RD.il_len _) (RD.il_one _) ?_; exact HRR.out; clear HRR))
      exact bodyPost_ret (MA.ret_cell rfl rfl (MA.load_rg HRP.out Try.underlying56 rfl Try.sizeNC (RD.il_len _))) rfl ⟨rfl, HBP.out⟩
end Go.Proofs.Ytmgbckdomdoncaa
