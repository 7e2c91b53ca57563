/- The program's WholeOf, at any pile. -/
import Derived.Test.YthpmlefaloiapaaRows
import Derived.Test.YthpmlefaloiapaaCCovI
import Derived.Test.YthpmlefaloiapaaCFirst
import Derived.Test.YthpmlefaloiapaaCWholeS
import Derived.Test.YthpmlefaloiapaaCParcelBundle
import Derived.WalkKit
import Derived.WalkSpells
import Derived.WalkLawsBesides
import Derived.Outline
namespace Go.Proofs.Ythpmlefaloiapaa
open Go.RowKit
set_option linter.unusedSimpArgs false in
set_option maxHeartbeats 400000 in
set_option maxRecDepth 100000 in
theorem totalW_any (g : Nat) (xs : List Bd) (s : PL.Sh) (w : World) (hn : xs.length ≤ 1048576) (hg : PL.good xs = true) (hin : MP.BsAt w (some ⟨g, 0, none⟩) xs) :
    Calls Try.prog 66 #[.agg (stF (.slice (some ⟨g, 0, none⟩) xs.length xs.length) s).toArray] w fun e w' => e = .returned (.int .i64 (PL.total xs : Int)) ∧ Below w.heap.size w w' := by
  have r0 := (st_parts (MA.Rg.new w (stF (.slice (some ⟨g, 0, none⟩) xs.length xs.length) s) 76)).2.2
  have c0 : (w.alloc (.cells (stF (.slice (some ⟨g, 0, none⟩) xs.length xs.length) s).toArray 76)).cell? ⟨w.heap.size, 0, none⟩ = some (.slice (some ⟨g, 0, none⟩) xs.length xs.length) := r0.cell (j := 0) rfl
  have hB : Below w.heap.size w (w.alloc (.cells (stF (.slice (some ⟨g, 0, none⟩) xs.length xs.length) s).toArray 76)) := (Below.refl _ w).alloc (Nat.le_refl _) _
  have hR := hin.below hB
  clear r0
  generalize stF (.slice (some ⟨g, 0, none⟩) xs.length xs.length) s = L at *
  by_cases h0 : xs = []
  · subst h0
    clear hR hin
    have e0 : Hid (PL.total [] = 0) := rfl
    go_enter Try.func66, Try.ntmps66
    go_wp2
    go_ret
    exact ⟨rfl, hB⟩
  · have hn0 : 0 < xs.length := by cases xs with | nil => exact absurd rfl h0 | cons x l => simp
    have hne : ¬ xs.length = 0 := by omega
    have htl : (MP.at_ xs 0).tl = (PL.total xs : Int) := by
      have p0 := PL.pg_is ((PL.good_inv hg).1.2.2.2 0 hn0)
      unfold PL.total; rw [if_neg h0]; omega
    obtain ⟨b, off, hab, hbl, rg⟩ := MA.row_range hR hn0
    cases hab
    have ctl : (w.alloc (.cells L.toArray 76)).cell? ⟨g, 8, none⟩ = some (.int .i64 (PL.total xs : Int)) := by
      rw [Nat.zero_mul, Nat.add_zero] at rg
      have := rg 8 (.int .i64 (MP.at_ xs 0).tl) rfl
      rw [htl] at this
      simpa using this
    clear rg htl hg hR hbl hin
    generalize PL.total xs = n at *
    go_enter Try.func66, Try.ntmps66
    go_wp2
    go_ret
    exact ⟨rfl, hB⟩
/-- Whether a stack is whole. -/
def allTh (xs : List Bd) : Bool := PL.upto (fun p => ((PL.sh xs xs.length).th p == decide (p < PL.total xs))) 60
theorem whole_ok {xs : List Bd} (h : PL.good xs = true) : wholeOk xs = (decide (xs ≠ []) && allTh xs) := by
  have e : decide (missN xs ≤ 0) = allTh xs := by
    rw [Bool.eq_iff_iff, decide_eq_true_eq, miss_iff h, allTh, PL.upto_iff]
    exact forall_congr' fun p => imp_congr_right fun _ => by rw [beq_iff_eq]
  unfold wholeOk
  rw [h, e, Bool.true_and]
set_option linter.unusedSimpArgs false in
set_option maxHeartbeats 800000 in
set_option maxRecDepth 100000 in
theorem isWhole_any (g : Nat) (xs : List Bd) (w : World) (hn : xs.length ≤ 1048576) (hg : PL.good xs = true) (hin : MP.BsAt w (some ⟨g, 0, none⟩) xs) :
    Calls Try.prog 55 #[.agg (stF (.slice (some ⟨g, 0, none⟩) xs.length xs.length) (PL.sh xs xs.length)).toArray] w fun e w' => e = .returned (.bool (wholeOk xs)) ∧ Below w.heap.size w w' := by
  have hok := whole_ok hg
  have RN := MA.Rg.new w (stF (.slice (some ⟨g, 0, none⟩) xs.length xs.length) (PL.sh xs xs.length)) 76
  have hB : Below w.heap.size w (w.alloc (.cells (stF (.slice (some ⟨g, 0, none⟩) xs.length xs.length) (PL.sh xs xs.length)).toArray 76)) := (Below.refl _ w).alloc (Nat.le_refl _) _
  have hrow0 := hin.below hB
  have HH : Hid _ := And.intro RN (And.intro hB hrow0)
  clear RN hB hrow0
  by_cases h0 : xs = []
  · have hok2 : Hid (false = wholeOk xs) := by rw [hok]; simp [Hid, h0]
    have HN0 : Hid (xs.length = 0) := by rw [h0]; rfl
    clear h0
    go_enter Try.func55, Try.ntmps55
    generalize hW : w.alloc (.cells (stF (.slice (some ⟨g, 0, none⟩) xs.length xs.length) (PL.sh xs xs.length)).toArray 76) = W at HH
    clear hok
    go_wp2
    clear hW
    have c0 : W.cell? ⟨w.heap.size, 0, none⟩ = some (.slice (some ⟨g, 0, none⟩) xs.length xs.length) := (st_parts HH.out.1).2.2.cell (j := 0) rfl
    have hq := HH.out.1.lt
    have hn0 := HN0.out
    refine MR.frame fun A hA => ?_
    have hsz : A.tmps.size = 16 := by rw [hA]; rfl
    have e1 : A.eval (.tmp 1) = .pointer (some ⟨w.heap.size, 0, none⟩) := by rw [hA]; rfl
    have f1 := MR.read (t := 1) (by rw [hsz]; decide) e1
    have HA : Hid (A = _) := hA
    clear hA
    have hS : (fun w' : World => Below W.heap.size W w') (World.drew _) := ((Below.refl _ W).drew)
    refine wp_region_held (S := fun w' : World => Below W.heap.size W w') (by kernel_rfl) ?_
    change wpAnyH _ _ _ _ _ _ _ _ (World.drew _)
    refine MR.takeH (i := 0) (some 3) (.pointer (some ⟨w.heap.size, 0, none⟩)) rfl rfl (by kernel_rfl) (by kernel_rfl) (by kernel_rfl) (fun _ _ _ h => h) hS (MR.free rfl) (fun wq hw => by simp [execOp, MR.ev, MR.size, hsz, e1, f1, go_sem]) ?_
    refine MR.takeH (i := 1) (some 4) (.slice (some ⟨g, 0, none⟩) xs.length xs.length) rfl rfl (by kernel_rfl) (by kernel_rfl) (by kernel_rfl) (fun _ _ _ h => h) hS (MR.free rfl) (fun wq hw => by simp [execOp, MR.ev, MR.size, hsz, e1, f1, (hw.cell (p := ⟨w.heap.size, 0, none⟩) hq).trans c0, go_sem]) ?_
    refine MR.takeH (i := 2) (some 5) (.int .i64 (xs.length : Int)) rfl rfl (by kernel_rfl) (by kernel_rfl) (by kernel_rfl) (fun _ _ _ h => h) hS (MR.free rfl) (fun wq hw => by simp [execOp, MR.ev, MR.size, hsz, e1, f1, go_sem]) ?_
    refine MR.takeH (i := 3) (some 6) (.bool false) rfl rfl (by kernel_rfl) (by kernel_rfl) (by kernel_rfl) (fun _ _ _ h => h) hS (MR.free rfl) (fun wq hw => by simp [execOp, MR.ev, MR.size, hsz, e1, f1, hn0, go_sem]) ?_
    refine MR.takeH (i := 4) (some 7) (.bool false) rfl rfl (by kernel_rfl) (by kernel_rfl) (by kernel_rfl) (fun _ _ _ h => h) hS (MR.free rfl) (fun wq hw => by simp [execOp, MR.ev, MR.size, hsz, e1, f1, go_sem]) ?_
    refine MR.skipH (i := 5) (some 8) rfl rfl (by kernel_rfl) (by kernel_rfl) (by kernel_rfl) (fun _ _ _ h => h) hS (MR.unwant (d := 7) (b' := false) rfl rfl (by simp [MR.size, hsz]) (by simp [MR.ev, MR.size, hsz, e1, f1]) (by decide)) ?_
    refine MR.skipH (i := 6) (some 9) rfl rfl (by kernel_rfl) (by kernel_rfl) (by kernel_rfl) (fun _ _ _ h => h) hS (MR.unwant (d := 7) (b' := false) rfl rfl (by simp [MR.size, hsz]) (by simp [MR.ev, MR.size, hsz, e1, f1]) (by decide)) ?_
    refine MR.skipH (i := 7) (some 10) rfl rfl (by kernel_rfl) (by kernel_rfl) (by kernel_rfl) (fun _ _ _ h => h) hS (MR.unwant (d := 7) (b' := false) rfl rfl (by simp [MR.size, hsz]) (by simp [MR.ev, MR.size, hsz, e1, f1]) (by decide)) ?_
    refine MR.skipH (i := 8) (some 11) rfl rfl (by kernel_rfl) (by kernel_rfl) (by kernel_rfl) (fun _ _ _ h => h) hS (MR.unwant (d := 7) (b' := false) rfl rfl (by simp [MR.size, hsz]) (by simp [MR.ev, MR.size, hsz, e1, f1]) (by decide)) ?_
    refine MR.skipH (i := 9) (some 12) rfl rfl (by kernel_rfl) (by kernel_rfl) (by kernel_rfl) (fun _ _ _ h => h) hS (MR.unwant (d := 7) (b' := false) rfl rfl (by simp [MR.size, hsz]) (by simp [MR.ev, MR.size, hsz, e1, f1]) (by decide)) ?_
    refine MR.skipH (i := 10) (some 13) rfl rfl (by kernel_rfl) (by kernel_rfl) (by kernel_rfl) (fun _ _ _ h => h) hS (MR.unwant (d := 7) (b' := false) rfl rfl (by simp [MR.size, hsz]) (by simp [MR.ev, MR.size, hsz, e1, f1]) (by decide)) ?_
    refine MR.skipH (i := 11) (some 14) rfl rfl (by kernel_rfl) (by kernel_rfl) (by kernel_rfl) (fun _ _ _ h => h) hS (MR.unwant (d := 7) (b' := false) rfl rfl (by simp [MR.size, hsz]) (by simp [MR.ev, MR.size, hsz, e1, f1]) (by decide)) ?_
    refine MR.takeH (i := 12) (some 15) (.bool false) rfl rfl (by kernel_rfl) (by kernel_rfl) (by kernel_rfl) (fun _ _ _ h => h) hS (MR.free rfl) (fun wq hw => by simp [execOp, MR.ev, MR.size, hsz, e1, f1, go_sem]) ?_
    refine MR.takeH (i := 13) (some 2) (.bool false) rfl rfl (by kernel_rfl) (by kernel_rfl) (by kernel_rfl) (fun _ _ _ h => h) hS (MR.free rfl) (fun wq hw => by simp [execOp, MR.ev, MR.size, hsz, e1, f1, go_sem]) ?_
    refine wpAnyH_done (by kernel_rfl) ?_ _
    have hB6 : Below w.heap.size w W.drew := HH.out.2.1.drew
    rw [HA.out]
    clear hS HA e1 f1 hsz c0 HH hn0
    simp only [Act.put, List.setIfInBounds_toArray, List.set_cons_succ, List.set_cons_zero]
    go_wp2
    go_ret
    exact ⟨retBb hok2.out, hB6⟩
  · have hn0 : 0 < xs.length := by cases xs with | nil => exact absurd rfl h0 | cons x l => simp
    have TO : Hid _ := fun W h => totalW_any g xs (PL.sh xs xs.length) W hn hg h
    have FM : Hid _ := fun W => firstMarks_any (PL.total xs) W (PL.total_le hg)
    obtain ⟨R, hR⟩ : ∃ R, allTh xs = R := ⟨_, rfl⟩
    have hok2 : Hid (R = wholeOk xs) := by rw [hok, hR]; simp [Hid, h0]
    have hE : ∀ W, (binOp .eql 70 (.agg (MA.tF (PL.sh xs xs.length).th).toArray) (.agg (MA.tF fun p => decide (p < PL.total xs)).toArray)).run Try.prog W = .ok (.bool R) W := by
      intro W
      obtain ⟨i4, hi4⟩ : ∃ i, Try.prog.info? 4 = some i := Option.isSome_iff_exists.1 (by kernel_rfl)
      have := MA.eql_arr (P := Try.prog) (w := W) Try.underlying70 hi4 (by kernel_rfl) (by go_simp) (fun p => ((PL.sh xs xs.length).th p == decide (p < PL.total xs))) (xs := MA.tF (PL.sh xs xs.length).th) (ys := MA.tF fun p => decide (p < PL.total xs)) (fun p hp => ⟨_, _, MA.tF_get _ hp, MA.tF_get _ hp, run_equalIn_bool W 9998 4 _ _ Try.underlying4⟩)
      rw [this, ← hR]; rfl
    go_enter Try.func55, Try.ntmps55
    generalize hW : w.alloc (.cells (stF (.slice (some ⟨g, 0, none⟩) xs.length xs.length) (PL.sh xs xs.length)).toArray 76) = W at HH
    clear hok hR
    go_wp2
    clear hW
    have c0 : W.cell? ⟨w.heap.size, 0, none⟩ = some (.slice (some ⟨g, 0, none⟩) xs.length xs.length) := (st_parts HH.out.1).2.2.cell (j := 0) rfl
    have hq := HH.out.1.lt
    have hTr := (st_parts HH.out.1).1.rng
    have hPr := HH.out.1.rng
    have hrow : MP.BsAt W (some ⟨g, 0, none⟩) xs := HH.out.2.2
    refine MR.frame fun A hA => ?_
    have hsz : A.tmps.size = 16 := by rw [hA]; rfl
    have e1 : A.eval (.tmp 1) = .pointer (some ⟨w.heap.size, 0, none⟩) := by rw [hA]; rfl
    have f1 := MR.read (t := 1) (by rw [hsz]; decide) e1
    have HA : Hid (A = _) := hA
    clear hA
    have hS : (fun w' : World => Below W.heap.size W w') (World.drew _) := ((Below.refl _ W).drew)
    refine wp_region_held (S := fun w' : World => Below W.heap.size W w') (by kernel_rfl) ?_
    change wpAnyH _ _ _ _ _ _ _ _ (World.drew _)
    refine MR.takeH (i := 0) (some 3) (.pointer (some ⟨w.heap.size, 0, none⟩)) rfl rfl (by kernel_rfl) (by kernel_rfl) (by kernel_rfl) (fun _ _ _ h => h) hS (MR.free rfl) (fun wq hw => by simp [execOp, MR.ev, MR.size, hsz, e1, f1, go_sem]) ?_
    refine MR.takeH (i := 1) (some 4) (.slice (some ⟨g, 0, none⟩) xs.length xs.length) rfl rfl (by kernel_rfl) (by kernel_rfl) (by kernel_rfl) (fun _ _ _ h => h) hS (MR.free rfl) (fun wq hw => by simp [execOp, MR.ev, MR.size, hsz, e1, f1, (hw.cell (p := ⟨w.heap.size, 0, none⟩) hq).trans c0, go_sem]) ?_
    refine MR.takeH (i := 2) (some 5) (.int .i64 (xs.length : Int)) rfl rfl (by kernel_rfl) (by kernel_rfl) (by kernel_rfl) (fun _ _ _ h => h) hS (MR.free rfl) (fun wq hw => by simp [execOp, MR.ev, MR.size, hsz, e1, f1, go_sem]) ?_
    refine MR.takeH (i := 3) (some 6) (.bool true) rfl rfl (by kernel_rfl) (by kernel_rfl) (by kernel_rfl) (fun _ _ _ h => h) hS (MR.free rfl) (fun wq hw => by simp [execOp, MR.ev, MR.size, hsz, e1, f1, hn0, go_sem]) ?_
    refine MR.takeH (i := 4) (some 7) (.bool true) rfl rfl (by kernel_rfl) (by kernel_rfl) (by kernel_rfl) (fun _ _ _ h => h) hS (MR.free rfl) (fun wq hw => by simp [execOp, MR.ev, MR.size, hsz, e1, f1, go_sem]) ?_
    refine MR.takeH (i := 5) (some 8) (.pointer (some ⟨w.heap.size, 1, none⟩)) rfl rfl (by kernel_rfl) (by kernel_rfl) (by kernel_rfl) (fun _ _ _ h => h) hS (MR.want (d := 7) rfl rfl (by simp [MR.size, hsz]) (by simp [MR.ev, MR.size, hsz, e1, f1])) (fun wq hw => by simp [execOp, MR.ev, MR.size, hsz, e1, f1, go_sem]) ?_
    refine MR.takeH (i := 6) (some 9) (.pointer (some ⟨w.heap.size, 1, none⟩)) rfl rfl (by kernel_rfl) (by kernel_rfl) (by kernel_rfl) (fun _ _ _ h => h) hS (MR.want (d := 7) rfl rfl (by simp [MR.size, hsz]) (by simp [MR.ev, MR.size, hsz, e1, f1])) (fun wq hw => by simp [execOp, MR.ev, MR.size, hsz, e1, f1, go_sem]) ?_
    refine MR.takeH (i := 7) (some 10) (.agg (MA.tF (PL.sh xs xs.length).th).toArray) rfl rfl (by kernel_rfl) (by kernel_rfl) (by kernel_rfl) (fun _ _ _ h => h) hS (MR.want (d := 7) rfl rfl (by simp [MR.size, hsz]) (by simp [MR.ev, MR.size, hsz, e1, f1])) (fun w hw => MA.ex_load rfl (by simp [MR.ev, MR.size, hsz, e1, f1]) (MA.range_below hTr hw hq) Try.underlying70 rfl Try.sizeMarks (MA.tF_len _)) ?_
    refine MR.takeH (i := 8) (some 11) (.agg (stF (.slice (some ⟨g, 0, none⟩) xs.length xs.length) (PL.sh xs xs.length)).toArray) rfl rfl (by kernel_rfl) (by kernel_rfl) (by kernel_rfl) (fun _ _ _ h => h) hS (MR.want (d := 7) rfl rfl (by simp [MR.size, hsz]) (by simp [MR.ev, MR.size, hsz, e1, f1])) (fun w hw => MA.ex_load rfl (by simp [MR.ev, MR.size, hsz, e1, f1]) (MA.range_below hPr hw hq) Try.underlying76 rfl Try.sizeStack (st_len _ _ _ _)) ?_
    refine MR.callH (i := 9) (some 12) (66) (#[.agg (stF (.slice (some ⟨g, 0, none⟩) xs.length xs.length) (PL.sh xs xs.length)).toArray]) (by kernel_rfl) rfl rfl (MR.want (d := 7) rfl rfl (by simp [MR.size, hsz]) (by simp [MR.ev, MR.size, hsz, e1, f1])) (by simp [execOp, MR.ev, MR.size, hsz, e1, f1, go_sem]) ?_
    refine Calls.mono (TO.out _ (hrow.below hS)) ?_
    rintro e w5 ⟨rfl, hb5⟩
    have hS5 : Below W.heap.size W w5 := hS.trans (hb5.mono hS.size)
    refine ⟨_, rfl, hS5, ?_⟩
    refine MR.callH (i := 10) (some 13) (65) (#[.int .i64 (PL.total xs : Int)]) (by kernel_rfl) rfl rfl (MR.want (d := 7) rfl rfl (by simp [MR.size, hsz]) (by simp [MR.ev, MR.size, hsz, e1, f1])) (by simp [execOp, MR.ev, MR.size, hsz, e1, f1, go_sem]) ?_
    refine Calls.mono (FM.out _) ?_
    rintro e w6 ⟨rfl, hb6⟩
    have hS6 : Below W.heap.size W w6 := hS5.trans (hb6.mono hS5.size)
    refine ⟨_, rfl, hS6, ?_⟩
    refine MR.takeH (i := 11) (some 14) (.bool R) rfl rfl (by kernel_rfl) (by kernel_rfl) (by kernel_rfl) (fun _ _ _ h => h) hS6 (MR.want (d := 7) rfl rfl (by simp [MR.size, hsz]) (by simp [MR.ev, MR.size, hsz, e1, f1])) (fun wq hw => by simp [execOp, MR.ev, MR.size, hsz, e1, f1, hE, go_sem]) ?_
    refine MR.takeH (i := 12) (some 15) (.bool R) rfl rfl (by kernel_rfl) (by kernel_rfl) (by kernel_rfl) (fun _ _ _ h => h) hS6 (MR.free rfl) (fun wq hw => by simp [execOp, MR.ev, MR.size, hsz, e1, f1, go_sem]) ?_
    refine MR.takeH (i := 13) (some 2) (.bool R) rfl rfl (by kernel_rfl) (by kernel_rfl) (by kernel_rfl) (fun _ _ _ h => h) hS6 (MR.free rfl) (fun wq hw => by simp [execOp, MR.ev, MR.size, hsz, e1, f1, go_sem]) ?_
    refine wpAnyH_done (by kernel_rfl) ?_ _
    have hB6 : Below w.heap.size w w6 := HH.out.2.1.trans (hS6.mono HH.out.2.1.size)
    rw [HA.out]
    clear hS hS5 hS6 hb5 hb6 HA e1 f1 hsz c0 HH TO FM hE hTr hPr hrow
    simp only [Act.put, List.setIfInBounds_toArray, List.set_cons_succ, List.set_cons_zero]
    go_wp2
    go_ret
    exact ⟨retBb hok2.out, hB6⟩
end Go.Proofs.Ythpmlefaloiapaa
