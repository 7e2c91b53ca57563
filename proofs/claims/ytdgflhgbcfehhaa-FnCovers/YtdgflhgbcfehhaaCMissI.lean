/- The program's MissingIn, at any pile. -/
import Derived.Test.YtdgflhgbcfehhaaRows
import Derived.Test.YtdgflhgbcfehhaaCStackOf
import Derived.Test.YtdgflhgbcfehhaaCCovS
import Derived.WalkKit
import Derived.WalkSpells
import Derived.WalkLawsBesides
import Derived.Outline
namespace Go.Proofs.Ytdgflhgbcfehhaa
open Go.RowKit
theorem upOk_goodM (xs : List Bd) : upOk xs = PL.good xs := PL.good_same xs
theorem upV_goodM {xs : List Bd} (v : Value) (h : PL.good xs = true) : upV xs v = stF v (PL.sh xs xs.length) := by
  unfold upV; rw [upOk_goodM, h]; rfl
theorem st_partsM {W : World} {k : Nat} {v : Value} {s : PL.Sh} (h : MA.Rg W k 0 (stF v s)) : MA.Rg W k 1 (MA.tF s.th) ∧ MA.Rg W k 61 (MA.yF s.by_) ∧ MA.Rg W k 0 [v] := by
  have h1 := MA.Rg.app (xs := [v]) h
  have h2 := h1.2.sheet
  exact ⟨h2.1, h2.2, h1.1⟩
set_option linter.unusedSimpArgs false in
set_option maxHeartbeats 400000 in
set_option maxRecDepth 100000 in
theorem total_any (g : Nat) (xs : List Bd) (s : PL.Sh) (w : World) (hn : xs.length ≤ 1048576) (hg : PL.good xs = true) (hin : MP.BsAt w (some ⟨g, 0, none⟩) xs) :
    Calls Try.prog 46 #[.agg (stF (.slice (some ⟨g, 0, none⟩) xs.length xs.length) s).toArray] w fun e w' => e = .returned (.int .i64 (PL.total xs : Int)) ∧ Below w.heap.size w w' := by
  have r0 := (st_partsM (MA.Rg.new w (stF (.slice (some ⟨g, 0, none⟩) xs.length xs.length) s) 75)).2.2
  have c0 : (w.alloc (.cells (stF (.slice (some ⟨g, 0, none⟩) xs.length xs.length) s).toArray 75)).cell? ⟨w.heap.size, 0, none⟩ = some (.slice (some ⟨g, 0, none⟩) xs.length xs.length) := r0.cell (j := 0) rfl
  have hB : Below w.heap.size w (w.alloc (.cells (stF (.slice (some ⟨g, 0, none⟩) xs.length xs.length) s).toArray 75)) := (Below.refl _ w).alloc (Nat.le_refl _) _
  have hR := hin.below hB
  clear r0
  generalize stF (.slice (some ⟨g, 0, none⟩) xs.length xs.length) s = L at *
  by_cases h0 : xs = []
  · subst h0
    clear hR hin
    have e0 : Hid (PL.total [] = 0) := rfl
    go_enter Try.func46, Try.ntmps46
    go_wp2
    go_ret
    exact ⟨rfl, hB⟩
  · have hn0 : 0 < xs.length := by cases xs with | nil => exact absurd rfl h0 | cons x l => simp
    have hne : ¬ xs.length = 0 := by omega
    have htl : (MP.at_ xs 0).tl = (PL.total xs : Int) := by
      have p0 := PL.pg_is ((PL.good_inv hg).1.2.2.2 0 hn0)
      unfold PL.total; rw [if_neg h0]; omega
    obtain ⟨b, off, hab, hbl, rg⟩ := MA.row_range hR hn0
    cases hab
    have ctl : (w.alloc (.cells L.toArray 75)).cell? ⟨g, 8, none⟩ = some (.int .i64 (PL.total xs : Int)) := by
      rw [Nat.zero_mul, Nat.add_zero] at rg
      have := rg 8 (.int .i64 (MP.at_ xs 0).tl) rfl
      rw [htl] at this
      simpa using this
    clear rg htl hg hR hbl hin
    generalize PL.total xs = n at *
    go_enter Try.func46, Try.ntmps46
    go_wp2
    go_ret
    exact ⟨rfl, hB⟩
set_option linter.unusedSimpArgs false in
set_option maxHeartbeats 800000 in
set_option maxRecDepth 100000 in
theorem implMissing_any (a : Option Addr) (cap : Nat) (xs : List Bd) (w : World) (hn : xs.length ≤ 1048576) (ht : Hid (∀ k, k < xs.length → (MP.at_ xs k).py.size ≤ 1048576)) (hin : MP.BsAt w a xs) :
    Calls Try.prog 13 #[.agg #[.slice a xs.length cap]] w fun e w' => e = .returned (.tuple #[.int .i64 (missN xs), .bool (PL.good xs)]) ∧ Below w.heap.size w w' := by
  have SO : Hid _ := fun W h => stackOf_any a cap xs W hn ht h
  have hB : Below w.heap.size w (w.alloc (.cells #[.slice a xs.length cap] 31)) := (Below.refl _ w).alloc (Nat.le_refl _) _
  have HI : Hid (MP.BsAt (w.alloc (.cells #[.slice a xs.length cap] 31)) a xs) := hin.below hB
  go_enter Try.func13, Try.ntmps13
  go_wp2_with fail
  refine (SO.out _ HI.out).mono ?_
  rintro e w2 ⟨g, rfl, hrw, hb2⟩
  have hB2 := hB.trans (hb2.mono hB.size)
  clear SO HI hb2 hB
  rw [upOk_goodM] at hrw ⊢
  obtain ⟨L, hL⟩ : ∃ L, upV xs (.slice (some ⟨g, 0, none⟩) xs.length xs.length) = L := ⟨_, rfl⟩
  have HL : Hid _ := hL
  have HL1 : Hid (L.length = 121) := by rw [← hL]; exact upV_len _ _ _ _
  have HL2 : Hid (∀ v ∈ L, v.oneCell' = true) := by rw [← hL]; exact upV_one _ _ _ _
  rw [hL]
  clear hL
  have RN : Hid _ := MA.Rg.new w2 (stF (.slice none 0 0) PL.blank) 75
  have RP : Hid (MA.Rg (World.setCells (w2.alloc (.cells (stF (.slice none 0 0) PL.blank).toArray 75)) w2.heap.size 0 L) w2.heap.size 0 L) := RN.out.put (by rw [Z_len]; exact HL1.out)
  have HB2 : Hid (Below w2.heap.size w2 (World.setCells (w2.alloc (.cells (stF (.slice none 0 0) PL.blank).toArray 75)) w2.heap.size 0 L)) := MA.below_cells (b := w2.heap.size) (Nat.le_refl _) L 0 _ ((Below.refl _ w2).alloc (Nat.le_refl _) _)
  cases hg : PL.good xs with
  | false =>
    have hM : Hid _ := missN_no hg
    have HG : Hid _ := hg
    clear hg hrw RP
    go_wp2_with (first
      | (refine MA.alloc_z rfl 75 rfl _ _ Try.infoStack' ?_; simp only [MA.sz_alloc])
      | (refine MA.store_m rfl 75 _ _ rfl rfl rfl (cs := stF (.slice none 0 0) PL.blank) ?_ Try.sizeStack Z_len HL1.out HL2.out ?_; exact RN.out; clear RN; generalize World.setCells _ _ _ _ = W3 at *))
    go_ret2
    exact ⟨by rw [hM.out, HG.out]; rfl, hB2.trans (HB2.out.mono hB2.size)⟩
  | true =>
    have hM : Hid (missN xs = (PL.total xs : Int) - ((plF (PL.sh xs xs.length).th 60).length : Int)) := by show _ = _; rw [missN_yes hg, covL_yes hg]
    have HG : Hid _ := hg
    have hr2 := (hrw hg).2
    have eL : L = stF (.slice (some ⟨g, 0, none⟩) xs.length xs.length) (PL.sh xs xs.length) := by rw [← HL.out, upV_goodM _ hg]
    subst eL
    have TO : Hid _ := fun W h => total_any g xs (PL.sh xs xs.length) W hn hg h
    have PLC : Hid _ := fun W => places_any (PL.sh xs xs.length).th W
    have hT := PL.total_le hg
    have hpl := plF_len (PL.sh xs xs.length).th 60
    have hwr : IntKind.i64.wrap ((PL.total xs : Int) - ((plF (PL.sh xs xs.length).th 60).length : Int)) = (PL.total xs : Int) - ((plF (PL.sh xs xs.length).th 60).length : Int) := by simp [IntKind.wrap, IntKind.bits, IntKind.signed]; omega
    clear hg hrw HL
    have HWR : Hid _ := hwr
    clear hwr
    go_wp2_with (first
      | (refine MA.alloc_z rfl 75 rfl _ _ Try.infoStack' ?_; simp only [MA.sz_alloc])
      | (refine MA.store_m rfl 75 _ _ rfl rfl rfl (cs := stF (.slice none 0 0) PL.blank) ?_ Try.sizeStack Z_len HL1.out HL2.out ?_; exact RN.out; clear RN; generalize World.setCells _ _ _ _ = W3 at *))
    have hwr := HWR.out
    have hPr := RP.out.rng
    have hTr := (st_partsM RP.out).1.rng
    have hq := RP.out.lt
    have hrow := MP.BsAt.below hr2 HB2.out
    have hB3 := hB2.trans (HB2.out.mono hB2.size)
    generalize w2.heap.size = q at *
    refine MR.frame fun A hA => ?_
    have hsz : A.tmps.size = 21 := by rw [hA]; rfl
    have e4 : A.eval (.tmp 4) = .pointer (some ⟨q, 0, none⟩) := by rw [hA]; rfl
    have f4 := MR.read (t := 4) (by rw [hsz]; decide) e4
    have HA : Hid (A = _) := hA
    clear hA
    have hS : (fun w' : World => Below W3.heap.size W3 w') (World.drew _) := ((Below.refl _ W3).drew)
    refine wp_region_held (S := fun w' : World => Below W3.heap.size W3 w') (by kernel_rfl) ?_
    change wpAnyH _ _ _ _ _ _ _ _ (World.drew _)
    refine MR.takeH (i := 0) (some 13) (.agg (stF (.slice (some ⟨g, 0, none⟩) xs.length xs.length) (PL.sh xs xs.length)).toArray) rfl rfl (by kernel_rfl) (by kernel_rfl) (by kernel_rfl) (fun _ _ _ h => h) hS (MR.free rfl) (fun w hw => MA.ex_load rfl (by simp [MR.ev, MR.size, hsz, e4, f4]) (MA.range_below hPr hw hq) Try.underlying75 rfl Try.sizeStack (st_len _ _ _ _)) ?_
    refine MR.takeH (i := 2) (some 15) (.pointer (some ⟨q, 1, none⟩)) rfl rfl (by kernel_rfl) (by kernel_rfl) (by kernel_rfl) (fun _ _ _ h => h) hS (MR.free rfl) (fun wq hw => by simp [execOp, MR.ev, MR.size, hsz, e4, f4, go_sem]) ?_
    refine MR.takeH (i := 3) (some 16) (.pointer (some ⟨q, 1, none⟩)) rfl rfl (by kernel_rfl) (by kernel_rfl) (by kernel_rfl) (fun _ _ _ h => h) hS (MR.free rfl) (fun wq hw => by simp [execOp, MR.ev, MR.size, hsz, e4, f4, go_sem]) ?_
    refine MR.takeH (i := 4) (some 17) (.agg (MA.tF (PL.sh xs xs.length).th).toArray) rfl rfl (by kernel_rfl) (by kernel_rfl) (by kernel_rfl) (fun _ _ _ h => h) hS (MR.free rfl) (fun w hw => MA.ex_load rfl (by simp [MR.ev, MR.size, hsz, e4, f4]) (MA.range_below hTr hw hq) Try.underlying69 rfl Try.sizeMarks (MA.tF_len _)) ?_
    refine MR.callH (i := 1) (some 14) (46) (#[.agg (stF (.slice (some ⟨g, 0, none⟩) xs.length xs.length) (PL.sh xs xs.length)).toArray]) (by kernel_rfl) rfl rfl (MR.free rfl) (by simp [execOp, MR.ev, MR.size, hsz, e4, f4, go_sem]) ?_
    refine Calls.mono (TO.out _ (hrow.below hS)) ?_
    rintro e w5 ⟨rfl, hb5⟩
    have hS5 : Below W3.heap.size W3 w5 := hS.trans (hb5.mono hS.size)
    refine ⟨_, rfl, hS5, ?_⟩
    refine MR.callH (i := 5) (some 18) (47) (#[.agg (MA.tF (PL.sh xs xs.length).th).toArray]) (by kernel_rfl) rfl rfl (MR.free rfl) (by simp [execOp, MR.ev, MR.size, hsz, e4, f4, go_sem]) ?_
    refine Calls.mono (PLC.out _) ?_
    rintro e w6 ⟨a1, c1, rfl, _, hb6⟩
    have hS6 : Below W3.heap.size W3 w6 := hS5.trans (hb6.mono hS5.size)
    refine ⟨_, rfl, hS6, ?_⟩
    refine MR.takeH (i := 6) (some 19) (.int .i64 ((plF (PL.sh xs xs.length).th 60).length : Int)) rfl rfl (by kernel_rfl) (by kernel_rfl) (by kernel_rfl) (fun _ _ _ h => h) hS6 (MR.free rfl) (fun wq hw => by simp [execOp, MR.ev, MR.size, hsz, e4, f4, go_sem]) ?_
    refine MR.takeH (i := 7) (some 20) (.int .i64 ((PL.total xs : Int) - ((plF (PL.sh xs xs.length).th 60).length : Int))) rfl rfl (by kernel_rfl) (by kernel_rfl) (by kernel_rfl) (fun _ _ _ h => h) hS6 (MR.free rfl) (fun wq hw => by simp [execOp, MR.ev, MR.size, hsz, e4, f4, hwr, go_sem]) ?_
    refine MR.takeH (i := 8) (some 2) (.int .i64 ((PL.total xs : Int) - ((plF (PL.sh xs xs.length).th 60).length : Int))) rfl rfl (by kernel_rfl) (by kernel_rfl) (by kernel_rfl) (fun _ _ _ h => h) hS6 (MR.free rfl) (fun wq hw => by simp [execOp, MR.ev, MR.size, hsz, e4, f4, go_sem]) ?_
    refine MR.takeH (i := 9) (some 3) (.bool true) rfl rfl (by kernel_rfl) (by kernel_rfl) (by kernel_rfl) (fun _ _ _ h => h) hS6 (MR.free rfl) (fun wq hw => by simp [execOp, MR.ev, MR.size, hsz, e4, f4, go_sem]) ?_
    refine wpAnyH_done (by kernel_rfl) ?_ _
    have hB6 : Below w.heap.size w w6 := hB3.trans (hS6.mono hB3.size)
    rw [HA.out]
    clear hS hS5 hS6 hb5 hb6 HA e4 f4 hsz TO PLC hPr hTr hrow hwr HWR
    simp only [Act.put, List.setIfInBounds_toArray, List.set_cons_succ, List.set_cons_zero]
    go_wp2
    go_ret2
    exact ⟨by rw [hM.out, HG.out]; rfl, hB6⟩
end Go.Proofs.Ytdgflhgbcfehhaa
