/- impl.GoodSpray. -/
import Derived.Test.YtgajfpohlemahaaRows
import Derived.Test.YtgajfpohlemahaaMSprG
import Derived.Test.YtgajfpohlemahaaCWith7
import Derived.Test.YtgajfpohlemahaaMRnd
import Derived.RangeFuncBox
namespace Go.Proofs.Ytgajfpohlemahaa
open Go.RowKit Go.Shelf
attribute [local go_sem] Oper.semAt_some RD.wide_fn
theorem SP.bk {W W' : World} {row : Option Nat} {B : Nat} {t : TypeId} {v : Value} (h : Boxed W B t v) (hg : W.grownBy W' row) (hr : ∀ r, row = some r → ∃ o : Obj, W.heap[r]? = some o ∧ o.isCells = false) : Boxed W' B t v :=
  boxed_own B t (fun _ : Unit => v) () W W' row h hg hr
set_option maxHeartbeats 3200000 in
set_option maxRecDepth 100000 in
theorem implGoodSpray_in (a : Option Addr) (cap : Nat) (zs : List Int) (t : Int) (th : Bool) (w : World) (hz : M4.IntsAt w a zs) (h1 : 2 ≤ zs.length ∧ zs.length ≤ 8) (h2 : 0 ≤ t ∧ t ≤ zs.length - 1) :
    CallsIn Fence.wide 10 Try.prog 11 #[.agg #[.slice a zs.length cap, .int .i64 t, .bool th]] w fun e w' => e = .returned (.bool (SP.good zs t)) ∧ Below w.heap.size w w' := by
  have IW : Hid (∀ (n lo hi : Int) (W : World), Calls Try.prog 24 #[.int .i64 n, .int .i64 lo, .int .i64 hi] W fun e w' => e = .returned (.bool (decide (lo ≤ n ∧ n ≤ hi))) ∧ W = w') := fun n lo hi W => within7_any n lo hi W
  have e1 : decide (2 ≤ (zs.length : Int) ∧ (zs.length : Int) ≤ 8) = true := decide_eq_true (by omega)
  have e2 : decide (0 ≤ t ∧ t ≤ (zs.length : Int) - 1) = true := decide_eq_true (by omega)
  obtain ⟨g, off, rfl, hg, hcl⟩ : ∃ b off, a = some ⟨b, off, none⟩ ∧ b < w.heap.size ∧ ∀ j, j < zs.length → w.cell? ⟨b, off + j, none⟩ = some (.int .i64 (zs.getD j 0)) := by
    rcases hz with h | h
    · rw [h] at h1; simp at h1
    · exact h
  refine callsIn_of_wp_marks Try.func11 rfl trivial ?_ rfl
  simp only [Try.ntmps11, List.size_toArray, List.length_cons, List.length_nil, Nat.reduceAdd, Nat.reduceSub, Array.replicate_succ, Array.replicate_zero, List.push_toArray, List.append_toArray, List.nil_append, List.cons_append]
  gi_wp2_with fail
  refine (callsIn_wide.2 (IW.out _ _ _ _)).mono ?_
  rintro e w1 ⟨rfl, rfl⟩
  rw [e1]
  gi_wp2_with fail
  refine (callsIn_wide.2 (IW.out _ _ _ _)).mono ?_
  rintro e w1 ⟨rfl, rfl⟩
  rw [e2]
  gi_wp2_with fail
  refine (callsIn_wide.2 (carriers_any _ _ _ _ _ _)).mono ?_
  rintro e w1 ⟨rfl, hw1⟩
  gi_wp2_with fail
  have hB0 : Below w.heap.size w w1 := by
    rw [hw1, SP.carW]
    exact ((((((Below.refl _ _).alloc (Nat.le_refl _) _).alloc (by simp) _).alloc (by simp; omega) _).alloc (by simp; omega) _).alloc (by simp; omega) _).alloc (by simp; omega) _
  have hsz : w1.heap.size = w.heap.size + 6 := by rw [hw1, SP.carW]; simp
  have c0 : w1.cell? ⟨w.heap.size, 0, none⟩ = some (.slice (some ⟨g, off, none⟩) zs.length cap) := by
    rw [hw1, SP.carW, SP.cell_old (by simp; omega), SP.cell_old (by simp; omega), SP.cell_old (by simp; omega), SP.cell_old (by simp; omega), SP.cell_old (by simp)]
    exact SP.cell_at rfl rfl
  have c1 : w1.cell? ⟨w.heap.size, 1, none⟩ = some (.int .i64 t) := by
    rw [hw1, SP.carW, SP.cell_old (by simp; omega), SP.cell_old (by simp; omega), SP.cell_old (by simp; omega), SP.cell_old (by simp; omega), SP.cell_old (by simp)]
    exact SP.cell_at rfl rfl
  have bR : Boxed w1 (w.heap.size + 1) 4 (.bool false) := by
    rw [hw1, SP.carW]
    have := Boxed.new (w.alloc (.cells #[.slice (some ⟨g, off, none⟩) zs.length cap, .int .i64 t, .bool th] 28)) 4 (.bool false)
    rw [World.size_alloc] at this
    exact (((this.alloc _).alloc _).alloc _).alloc _
  have bS : Boxed w1 (w.heap.size + 1 + 1) 3 (.int .i64 0) := by
    rw [hw1, SP.carW]
    have := Boxed.new ((w.alloc (.cells #[.slice (some ⟨g, off, none⟩) zs.length cap, .int .i64 t, .bool th] 28)).alloc (.cells #[.bool false] 4)) 3 (.int .i64 0)
    rw [World.size_alloc, World.size_alloc] at this
    exact ((this.alloc _).alloc _).alloc _
  have ST := carriers_stops 9 (by omega) (w.heap.size + 3) (some ⟨g, off, none⟩) cap t th zs (w.heap.size + 1) (w.heap.size + 1 + 1) _ w1 (by simp) hw1 (by omega) (hz.below ((((Below.refl _ _).alloc (Nat.le_refl _) _).alloc (by simp) _).alloc (by simp; omega) _)) (by omega) (by omega) (fun g' off' e => by cases e; omega)
  rw [← hw1]
  clear hw1
  refine wpIn_rangeFunc_ownF rfl (by omega) (gf := 38) (lb := #[.pointer (some ⟨w.heap.size + 3 + 1, 0, none⟩), .pointer (some ⟨w.heap.size + 3 + 1 + 1, 0, none⟩)]) rfl trivial (enters_of Try.func38 (by kernel_rfl) rfl)
    ST (fun h k => h.trans k) (fun W l o o' hl _ _ _ => SP.KP.put W l o' (by omega)) (Below.refl _ _) (fun _ => rfl)
    (fun pre W => ((∃ s, SP.st zs t pre = some s ∧ 0 ≤ s ∧ s ≤ 64 ∧ Boxed W (w.heap.size + 1 + 1) 3 (.int .i64 s)) ∧ Boxed W (w.heap.size + 1) 4 (.bool false) ∧ W.cell? ⟨w.heap.size, 0, none⟩ = some (.slice (some ⟨g, off, none⟩) zs.length cap) ∧ W.cell? ⟨w.heap.size, 1, none⟩ = some (.int .i64 t)) ∧ Below w.heap.size w W)
    (fun c pre W => (c = .ret ∧ SP.st zs t pre = none ∧ Boxed W (w.heap.size + 1) 4 (.bool false)) ∧ Below w.heap.size w W)
    (OwnFrom.and (Own.from (fun pre X Y row hs hg hr => ⟨hs.1.elim fun s h => ⟨s, h.1, h.2.1, h.2.2.1, SP.bk h.2.2.2 hg hr⟩, SP.bk hs.2.1 hg hr, cell_kept hs.2.2.1 hg hr, cell_kept hs.2.2.2 hg hr⟩) _) (ownFrom_below (Nat.le_refl _) (by omega)))
    (fun c => OwnFrom.and (Own.from (fun pre X Y row hs hg hr => ⟨hs.1, hs.2.1, SP.bk hs.2.2 hg hr⟩) _) (ownFrom_below (Nat.le_refl _) (by omega)))
    ⟨⟨⟨0, SP.st_nil zs t, by omega, by omega, bS⟩, bR, c0, c1⟩, hB0⟩
    (fun x => { tmps := #[.agg #[.slice (some ⟨g, off, none⟩) zs.length cap, .int .i64 t, .bool th], .pointer (some ⟨w.heap.size, 0, none⟩), .pointer (some ⟨w.heap.size + 1, 0, none⟩), .pointer (some ⟨w.heap.size + 1 + 1, 0, none⟩), .int .i64 (x.val : Int), .pointer (some ⟨w.heap.size, 0, none⟩),
        .slice (some ⟨g, off, none⟩) zs.length cap, .int .i64 zs.length, .bool true, .bool false, .bool false, .pointer (some ⟨w.heap.size, 1, none⟩), .int .i64 t, .pointer (some ⟨w.heap.size, 0, none⟩), .slice (some ⟨g, off, none⟩) zs.length cap, .int .i64 zs.length, .int .i64 ((zs.length : Int) - 1), .bool true, .bool false, .bool false,
        .agg #[.slice (some ⟨g, off, none⟩) zs.length cap, .int .i64 t, .bool th], .func (.func 38) #[] #[.pointer (some ⟨w.heap.size + 1 + 1 + 1 + 1, 0, none⟩), .pointer (some ⟨w.heap.size + 1 + 1 + 1 + 1 + 1, 0, none⟩)],
        .int .i64 (x.val : Int), undef, undef, undef, undef, undef, undef, undef, undef, undef, undef, undef, undef, undef, undef, undef, undef, undef, undef, undef, undef, undef, undef, undef, undef], defers := [] }) ?assign ?body ?done ?stop
  case assign =>
    intro l x W K hK
    gi_wp2
    exact hK
  case body =>
    rintro l pre ⟨k, hk⟩ W ⟨⟨⟨s, hs, hs0, hs1, bS⟩, bR, k0, k1⟩, hB⟩ hlt
    have tc : W.cell? ⟨g, off + k, none⟩ = some (.int .i64 (zs.getD k 0)) := (hB.cell (p := ⟨g, off + k, none⟩) hg).trans (hcl k hk)
    have IWq : Hid (∀ (n lo hi : Int) (m : Nat) (W : World), CallsIn Fence.wide m Try.prog 24 #[.int .i64 n, .int .i64 lo, .int .i64 hi] W fun e w' => e = .returned (.bool (decide (lo ≤ n ∧ n ≤ hi))) ∧ w' = W) := fun n lo hi m W => (callsIn_wide.2 (IW.out n lo hi W)).mono fun e w' h => ⟨h.1, h.2.symm⟩
    have hY := SP.st_yes (x := ⟨k, hk⟩) hs
    have hN := SP.st_no (x := ⟨k, hk⟩) hs
    have HY : Hid _ := hY
    have HN : Hid _ := hN
    have HB : Hid _ := hB
    clear IW ST hB0 hcl hY hN hB hz hs
    dsimp only at *
    generalize hz' : zs.getD k 0 = z at *
    have HZ : Hid _ := hz'
    clear hz'
    generalize zs.length = m at *
    have cS := bS.cell
    by_cases hkt : (k : Int) = t
    · have e3 : ((k : Int) == t) = true := by simp [hkt]
      gi_wp2_with fail
      refine RD.quiet (by kernel_rfl) (by kernel_rfl) (by kernel_rfl) ?_
      repeat (gi_big_quiet_step (fail))
      refine wpQuietIn_nil ?_
      intro _ hw'
      obtain ⟨nq, hw''⟩ := hw'
      subst hw''
      have bR' : Boxed (W.drewN nq) (w.heap.size + 1) 4 (.bool false) := bR
      have cR := bR'.cell
      have fR := bR'.frozen
      gi_wp2
      refine ⟨(RD.keeps_drewN W nq).trans (KeepsOthers.setCell _ _ _), ⟨rfl, HN.out (decide_eq_false fun h => h.1 hkt), bR'.set _⟩, ((HB.out).trans (RD.below_drewN w.heap.size W nq)).setCell (p := ⟨w.heap.size + 1, 0, none⟩) (by simp) _⟩
    · have e3 : ((k : Int) == t) = false := by simp [hkt]
      by_cases hin : 1 ≤ z ∧ z ≤ 64 - s
      · have IWt : Hid (∀ (m : Nat) (W : World), CallsIn Fence.wide m Try.prog 24 #[.int .i64 z, .int .i64 1, .int .i64 (64 - s)] W fun e w' => e = .returned (.bool true) ∧ w' = W) := fun m W => by have := IWq.out z 1 (64 - s) m W; rw [decide_eq_true hin] at this; exact this
        clear IWq
        gi_wp2_with fail
        refine RD.quiet (by kernel_rfl) (by kernel_rfl) (by kernel_rfl) ?_
        repeat (gi_big_quiet_step (exact CallsIn.quiet_of_same (IWt.out _ _)))
        refine wpQuietIn_nil ?_
        intro _ hw'
        obtain ⟨nq, hw''⟩ := hw'
        subst hw''
        have bR' : Boxed (W.drewN nq) (w.heap.size + 1) 4 (.bool false) := bR
        have bS' : Boxed (W.drewN nq) (w.heap.size + 1 + 1) 3 (.int .i64 s) := bS
        have cR := bR'.cell
        have fR := bR'.frozen
        have k0' : (W.drewN nq).cell? ⟨w.heap.size, 0, none⟩ = _ := k0
        have k1' : (W.drewN nq).cell? ⟨w.heap.size, 1, none⟩ = _ := k1
        have tc' : (W.drewN nq).cell? ⟨g, off + k, none⟩ = _ := tc
        have cS' := bS'.cell
        have fS' := bS'.frozen
        have hb1 := (HB.out).trans (RD.below_drewN w.heap.size W nq)
        have HK : Hid _ := RD.keeps_drewN W nq
        have HB1 : Hid _ := hb1
        have HP : Hid (SP.KP (w.heap.size + 1) (w.heap.size + 1 + 1) (w.heap.size + 3 + 3) W (W.drewN nq)) := fun _ _ _ _ => rfl
        have hwr : IntKind.i64.wrap (s + z) = s + z := by rw [IntKind.wrap_i64]; omega
        have FIN : Hid (KeepsOthers W ((W.drewN nq).setCell ⟨w.heap.size + 1 + 1, 0, none⟩ (.int .i64 (IntKind.i64.wrap (s + z)))).drew ∧ SP.KP (w.heap.size + 1) (w.heap.size + 1 + 1) (w.heap.size + 3 + 3) W ((W.drewN nq).setCell ⟨w.heap.size + 1 + 1, 0, none⟩ (.int .i64 (IntKind.i64.wrap (s + z)))).drew ∧ (((∃ s', SP.st zs t (pre ++ [⟨k, hk⟩]) = some s' ∧ 0 ≤ s' ∧ s' ≤ 64 ∧ Boxed ((W.drewN nq).setCell ⟨w.heap.size + 1 + 1, 0, none⟩ (.int .i64 (IntKind.i64.wrap (s + z)))).drew (w.heap.size + 1 + 1) 3 (.int .i64 s')) ∧ Boxed ((W.drewN nq).setCell ⟨w.heap.size + 1 + 1, 0, none⟩ (.int .i64 (IntKind.i64.wrap (s + z)))).drew (w.heap.size + 1) 4 (.bool false) ∧ (((W.drewN nq).setCell ⟨w.heap.size + 1 + 1, 0, none⟩ (.int .i64 (IntKind.i64.wrap (s + z)))).drew).cell? ⟨w.heap.size, 0, none⟩ = some (.slice (some ⟨g, off, none⟩) m cap) ∧ (((W.drewN nq).setCell ⟨w.heap.size + 1 + 1, 0, none⟩ (.int .i64 (IntKind.i64.wrap (s + z)))).drew).cell? ⟨w.heap.size, 1, none⟩ = some (.int .i64 t)) ∧ Below w.heap.size w ((W.drewN nq).setCell ⟨w.heap.size + 1 + 1, 0, none⟩ (.int .i64 (IntKind.i64.wrap (s + z)))).drew)) := by
          rw [hwr]
          exact ⟨((RD.keeps_drewN W nq).trans (KeepsOthers.setCell _ _ _)).trans (KeepsOthers.drew _), HP.out.trans (SP.KP.setB (W.drewN nq) 0 _), ⟨⟨⟨s + z, HY.out (decide_eq_true ⟨hkt, by rw [HZ.out]; exact hin⟩), by omega, by omega, bS'.set _⟩, bR'.other (by omega) _, (World.cell?_setCell_other _ _ _ _ (by simp)).trans k0', (World.cell?_setCell_other _ _ _ _ (by simp)).trans k1'⟩, ((hb1.setCell (p := ⟨w.heap.size + 1 + 1, 0, none⟩) (by simp; omega) _).trans (RD.below_drewN _ _ 1))⟩⟩
        clear hwr HP HK HB1 hb1 HB bR cR fR k0 k1 tc cS bS IWt
        generalize W.drewN nq = V at *
        gi_wp2_with fail
        have hm : Try.prog.follows .mixedOrders = true := by kernel_rfl
        gi_region_elder_o
        all_goals (gi_wp2; exact FIN.out)
      · have IWt : Hid (∀ (m : Nat) (W : World), CallsIn Fence.wide m Try.prog 24 #[.int .i64 z, .int .i64 1, .int .i64 (64 - s)] W fun e w' => e = .returned (.bool false) ∧ w' = W) := fun m W => by have := IWq.out z 1 (64 - s) m W; rw [decide_eq_false hin] at this; exact this
        clear IWq
        gi_wp2_with fail
        refine RD.quiet (by kernel_rfl) (by kernel_rfl) (by kernel_rfl) ?_
        repeat (gi_big_quiet_step (exact CallsIn.quiet_of_same (IWt.out _ _)))
        refine wpQuietIn_nil ?_
        intro _ hw'
        obtain ⟨nq, hw''⟩ := hw'
        subst hw''
        have bR' : Boxed (W.drewN nq) (w.heap.size + 1) 4 (.bool false) := bR
        have bS' : Boxed (W.drewN nq) (w.heap.size + 1 + 1) 3 (.int .i64 s) := bS
        have cR := bR'.cell
        have fR := bR'.frozen
        gi_wp2
        exact ⟨(RD.keeps_drewN W nq).trans (KeepsOthers.setCell _ _ _), ⟨rfl, HN.out (decide_eq_false fun h => hin (by rw [HZ.out] at h; exact h.2)), bR'.set _⟩, ((HB.out).trans (RD.below_drewN w.heap.size W nq)).setCell (p := ⟨w.heap.size + 1, 0, none⟩) (by simp) _⟩
  case done =>
    rintro D ys W hD rfl ⟨⟨⟨s, hs, hs0, hs1, bS⟩, bR, k0, k1⟩, hB⟩ hK
    obtain ⟨hgood, -⟩ := SP.good_some h1 (by omega) hs
    have HG : Hid _ := hgood
    have cS := bS.cell
    have cR := bR.cell
    have fR := bR.frozen
    clear hgood hs ST
    gi_wp2
    have hK' := (KeepsOthers.setCell W ⟨w.heap.size + 1, 0, none⟩ (.bool (decide (0 < s)))).same D _ hK rfl
    refine ⟨by simp, .inl ⟨_, _, rfl, run_takeDeferred hK', ?_⟩⟩
    have hc5 := cell_kept (World.cell?_setCell_same' W ⟨w.heap.size + 1, 0, none⟩ (.bool (decide (0 < s))) (by rw [cR]; rfl)) (grownBy_putObj' _ D (.deferred none)) (fun r e => by cases e; exact ⟨_, hK', rfl⟩)
    refine ⟨.bool (decide (0 < s)), ?_, by rw [HG.out], (hB.setCell (p := ⟨w.heap.size + 1, 0, none⟩) (by simp) _).trans (belowK_b (w := w) (Nat.le_refl _) _ D _ _ (by omega) hK' rfl rfl)⟩
    simp [results, Try.f11, go_sem, hc5]
  case stop =>
    rintro D c pre W hD hpre ⟨⟨rfl, hs, bR⟩, hB⟩ hK
    have hgood := SP.good_none (SP.st_pre hpre hs)
    gi_wp2
    refine ⟨by simp, .inl ⟨_, _, rfl, run_takeDeferred hK, ?_⟩⟩
    have hc5 := cell_kept bR.cell (grownBy_putObj' _ D (.deferred none)) (fun r e => by cases e; exact ⟨_, hK, rfl⟩)
    refine ⟨.bool false, ?_, by rw [hgood], hB.trans (belowK_b (w := w) (Nat.le_refl _) W D _ _ (by omega) hK rfl rfl)⟩
    simp [results, Try.f11, go_sem, hc5]
set_option maxHeartbeats 800000 in
set_option maxRecDepth 100000 in
theorem implGoodSpray_any (a : Option Addr) (cap : Nat) (zs : List Int) (t : Int) (th : Bool) (w : World) (hz : M4.IntsAt w a zs) (hl : zs.length ≤ 1048576) :
    Calls Try.prog 11 #[.agg #[.slice a zs.length cap, .int .i64 t, .bool th]] w fun e w' => e = .returned (.bool (SP.good zs t)) ∧ Below w.heap.size w w' := by
  by_cases h1 : 2 ≤ zs.length ∧ zs.length ≤ 8
  · by_cases h2 : 0 ≤ t ∧ t ≤ zs.length - 1
    · exact callsIn_wide.1 (implGoodSpray_in a cap zs t th w hz h1 h2)
    · have IW : Hid (∀ (n lo hi : Int) (W : World), Calls Try.prog 24 #[.int .i64 n, .int .i64 lo, .int .i64 hi] W fun e w' => e = .returned (.bool (decide (lo ≤ n ∧ n ≤ hi))) ∧ W = w') := fun n lo hi W => within7_any n lo hi W
      have e1 : decide (2 ≤ (zs.length : Int) ∧ (zs.length : Int) ≤ 8) = true := decide_eq_true (by omega)
      have e2 : decide (0 ≤ t ∧ t ≤ (zs.length : Int) - 1) = false := decide_eq_false (by omega)
      have hg : SP.good zs t = false := decide_eq_false fun h => h2 (by have := h.2.1; omega)
      rw [hg]
      clear hg hz h2
      generalize zs.length = m at *
      go_enter Try.func11, Try.ntmps11
      go_wp2_with fail
      refine (IW.out _ _ _ _).mono ?_
      rintro e w1 ⟨rfl, rfl⟩
      rw [e1]
      go_wp2_with fail
      refine (IW.out _ _ _ _).mono ?_
      rintro e w1 ⟨rfl, rfl⟩
      rw [e2]
      go_wp2
      refine bodyPost_ret (v := .bool false) (by simp [results, Try.results11, go_sem]) rfl ⟨rfl, ((Below.refl _ _).alloc (Nat.le_refl _) _).alloc (by simp) _⟩
  · have IW : Hid (∀ (n lo hi : Int) (W : World), Calls Try.prog 24 #[.int .i64 n, .int .i64 lo, .int .i64 hi] W fun e w' => e = .returned (.bool (decide (lo ≤ n ∧ n ≤ hi))) ∧ W = w') := fun n lo hi W => within7_any n lo hi W
    have e1 : decide (2 ≤ (zs.length : Int) ∧ (zs.length : Int) ≤ 8) = false := decide_eq_false (by omega)
    have hg : SP.good zs t = false := decide_eq_false fun h => h1 h.1
    rw [hg]
    clear hg hz h1
    generalize zs.length = m at *
    go_enter Try.func11, Try.ntmps11
    go_wp2_with fail
    refine (IW.out _ _ _ _).mono ?_
    rintro e w1 ⟨rfl, rfl⟩
    rw [e1]
    go_wp2
    refine bodyPost_ret (v := .bool false) (by simp [results, Try.results11, go_sem]) rfl ⟨rfl, ((Below.refl _ _).alloc (Nat.le_refl _) _).alloc (by simp) _⟩
end Go.Proofs.Ytgajfpohlemahaa
