/- Talks: all; whether it is done; the bytes of one where nothing came; the row of an empty link. -/
import Derived.Test.YtjlombnjmpejjaaRows
import Derived.Test.YtjlombnjmpejjaaCS2
import Derived.Deep.QuietTactic
import Derived.BigQuiet
import Derived.WalkKit
import Derived.WalkSpells
import Derived.WalkLawsBesides
import Derived.Outline
namespace Go.Proofs.Ytjlombnjmpejjaa
open Go.RowKit
set_option linter.unusedSimpArgs false in
set_option maxHeartbeats 800000 in
set_option maxRecDepth 100000 in
theorem all_any (k : Nat) (b : ByteArray) (w : World) (hs : b.size ≤ 40) (hc : w.cell? ⟨k, 0, none⟩ = some (.string b)) (hk : k < w.heap.size) :
    Calls Try.prog 77 #[.pointer (some ⟨k, 0, none⟩)] w fun e w' => e = .returned (.agg (SE.t5 (SE.upTo (SE.many b))).toArray) ∧ Below w.heap.size w w' := by
  have hm := SE.many_le hs
  have MN : Hid (∀ W : World, W.cell? ⟨k, 0, none⟩ = some (.string b) → Calls Try.prog 118 #[.pointer (some ⟨k, 0, none⟩)] W fun e w' => e = .returned (.int .i64 (SE.many b : Int)) ∧ W = w') := fun W h => many_any k b W (by omega) h
  have r0 := (MA.Rg.new w (SE.t5 fun _ => false) 125).alloc (.cells (SE.t5 fun _ => false).toArray 125)
  have r1 := MA.Rg.new' (w.alloc (.cells (SE.t5 fun _ => false).toArray 125)) (SE.t5 fun _ => false) 125 (w.heap.size + 1) (by simp)
  have hb : Below w.heap.size w ((w.alloc (.cells (SE.t5 fun _ => false).toArray 125)).alloc (.cells (SE.t5 fun _ => false).toArray 125)) := ((Below.refl _ w).alloc (Nat.le_refl _) _).alloc (by simp) _
  have hc1 := (hb.cell (p := ⟨k, 0, none⟩) hk).trans hc
  have HR : Hid _ := And.intro r0 (And.intro r1 hb)
  clear r0 r1 hb hc
  generalize SE.many b = n at *
  clear hs
  go_enter Try.func77, Try.ntmps77
  go_wp2_with (refine MA.alloc_z rfl 125 rfl _ _ Try.infoTally ?_; simp only [MA.sz_alloc])
  generalize (w.alloc (.cells (SE.t5 fun _ => false).toArray 125)).alloc (.cells (SE.t5 fun _ => false).toArray 125) = W0 at *
  refine (MN.out _ hc1).mono ?_
  rintro e w1 ⟨rfl, rfl⟩
  clear MN hc1
  go_wp2
  go_loopw [4, 7] (fun _ iv wr => ∃ j : Nat, iv = .int .i64 j ∧ j ≤ n ∧ Hid (MA.Rg wr w.heap.size 0 (SE.t5 fun _ => false) ∧ MA.Rg wr (w.heap.size + 1) 0 (SE.t5 fun p => decide (p < j)) ∧ Below w.heap.size w wr)) (fun _ iv _ => (n - intOf iv).toNat)
  case atStart => exact ⟨0, rfl, by omega, ⟨HR.out.1, by simpa using HR.out.2.1, HR.out.2.2⟩⟩
  case round =>
    clear HR
    obtain ⟨j, rfl, hj, HR⟩ := hrel
    by_cases hl : j < n
    · have hj0 : (0 : Int) ≤ (j : Int) := by omega
      have hj1 : (j : Int) < 5 := by omega
      have hjn : (j : Int) < (n : Int) := by omega
      have c := CB.c_of HR.out.2.1 (SE.t5_get _ (show j < 5 by omega))
      have f := CB.f_of HR.out.2.1 (j := j) (by rw [SE.t5_len]; omega)
      have p1 := CB.put1 HR.out.2.1 (j := j) (by rw [SE.t5_len]; omega) (.bool true)
      rw [SE.t5_upto (by omega)] at p1
      have p0 := CB.off1 (j := j) HR.out.1 (q' := w.heap.size + 1) (by omega) (.bool true)
      have p2 := HR.out.2.2.setCell (p := ⟨w.heap.size + 1, j, none⟩) (by simp) (.bool true)
      have HP : Hid _ := And.intro p0 (And.intro p1 p2)
      clear p0 p1 p2 HR
      go_wp2
      go_roundw
      case rel => exact ⟨j + 1, by go_num, by omega, HP⟩
      case measure => simp [intOf]; omega
    · obtain rfl : j = n := by omega
      have HP1 : Hid _ := HR.out.2.1.rng
      have HP0 : Hid _ := HR.out.1
      have HQ : Hid (MA.Rg (wr.setCells w.heap.size 0 (SE.t5 (SE.upTo j))) w.heap.size 0 (SE.t5 (SE.upTo j)) ∧ Below w.heap.size w (wr.setCells w.heap.size 0 (SE.t5 (SE.upTo j)))) := ⟨HR.out.1.put (by rw [SE.t5_len, SE.t5_len]), MA.below_cells (Nat.le_refl _) _ _ _ HR.out.2.2⟩
      clear HR
      go_wp2_with (first
        | (refine MA.load_r rfl 125 _ rfl rfl (cs := SE.t5 (SE.upTo j)) ?_ Try.underlying125 rfl Try.sizeTally (SE.t5_len _) ?_; exact HP1.out)
        | (refine MA.store_m rfl 125 _ _ rfl rfl rfl (vs := SE.t5 (SE.upTo j)) (cs := SE.t5 fun _ => false) ?_ Try.sizeTally (SE.t5_len _) (SE.t5_len _) (SE.t5_one _) ?_; exact HP0.out))
      exact bodyPost_ret (MA.ret_cell rfl rfl (MA.load_rg HQ.out.1 Try.underlying125 rfl Try.sizeTally (SE.t5_len _))) rfl ⟨rfl, HQ.out.2⟩
set_option linter.unusedSimpArgs false in
set_option maxHeartbeats 800000 in
set_option maxRecDepth 100000 in
theorem isDone_any (k : Nat) (b : ByteArray) (f : Nat → Bool) (w : World) (hs : b.size ≤ 40) (hc : w.cell? ⟨k, 0, none⟩ = some (.string b)) (hk : k < w.heap.size) (hr : w.rangeAt k 1 (SE.t5 f)) :
    Calls Try.prog 95 #[.pointer (some ⟨k, 0, none⟩)] w fun e w' => e = .returned (.bool (SE.same5 f (SE.upTo (SE.many b)))) ∧ Below w.heap.size w w' := by
  have AL : Hid (∀ W : World, W.cell? ⟨k, 0, none⟩ = some (.string b) → k < W.heap.size → Calls Try.prog 77 #[.pointer (some ⟨k, 0, none⟩)] W fun e w' => e = .returned (.agg (SE.t5 (SE.upTo (SE.many b))).toArray) ∧ Below W.heap.size W w') := fun W h h' => all_any k b W hs h h'
  have hE : ∀ W, (binOp .eql 125 (.agg (SE.t5 f).toArray) (.agg (SE.t5 (SE.upTo (SE.many b))).toArray)).run Try.prog W = .ok (.bool (SE.same5 f (SE.upTo (SE.many b)))) W := by
    intro W
    obtain ⟨i4, hi4⟩ : ∃ i, Try.prog.info? 4 = some i := Option.isSome_iff_exists.1 (by kernel_rfl)
    have := MA.eql_arr (P := Try.prog) (w := W) Try.underlying125 hi4 (by kernel_rfl) (by go_simp) (fun p => f p == SE.upTo (SE.many b) p) (xs := SE.t5 f) (ys := SE.t5 (SE.upTo (SE.many b))) (fun p hp => ⟨_, _, SE.t5_get _ hp, SE.t5_get _ hp, run_equalIn_bool W 9998 4 _ _ Try.underlying4⟩)
    rw [this]; rfl
  clear hs
  go_enter Try.func95, Try.ntmps95
  go_wp2
  refine MR.frame fun A hA => ?_
  have hsz : A.tmps.size = 10 := by rw [hA]; rfl
  have e0 : A.eval (.tmp 0) = .pointer (some ⟨k, 0, none⟩) := by rw [hA]; rfl
  have f0 := MR.read (t := 0) (by rw [hsz]; decide) e0
  have HA : Hid (A = _) := hA
  clear hA
  have hS : (fun w' : World => Below w.heap.size w w') (World.drew _) := ((Below.refl _ w).drew)
  refine wp_region_held (S := fun w' : World => Below w.heap.size w w') (by kernel_rfl) ?_
  change wpAnyH _ _ _ _ _ _ _ _ (World.drew _)
  refine MR.takeH (i := 0) (some 3) (.pointer (some ⟨k, 0, none⟩)) rfl rfl (by kernel_rfl) (by kernel_rfl) (by kernel_rfl) (fun _ _ _ h => h) hS (MR.free rfl) (fun wq hw => by simp [execOp, MR.ev, MR.size, hsz, e0, f0, go_sem]) ?_
  refine MR.takeH (i := 1) (some 4) (.pointer (some ⟨k, 0, none⟩)) rfl rfl (by kernel_rfl) (by kernel_rfl) (by kernel_rfl) (fun _ _ _ h => h) hS (MR.free rfl) (fun wq hw => by simp [execOp, MR.ev, MR.size, hsz, e0, f0, go_sem]) ?_
  refine MR.takeH (i := 2) (some 5) (.pointer (some ⟨k, 1, none⟩)) rfl rfl (by kernel_rfl) (by kernel_rfl) (by kernel_rfl) (fun _ _ _ h => h) hS (MR.free rfl) (fun wq hw => by simp [execOp, MR.ev, MR.size, hsz, e0, f0, go_sem]) ?_
  refine MR.takeH (i := 3) (some 6) (.agg (SE.t5 f).toArray) rfl rfl (by kernel_rfl) (by kernel_rfl) (by kernel_rfl) (fun _ _ _ h => h) hS (MR.free rfl) (fun w hw => MA.ex_load rfl (by simp [MR.ev, MR.size, hsz, e0, f0]) (MA.range_below hr hw hk) Try.underlying125 rfl Try.sizeTally (SE.t5_len _)) ?_
  refine MR.takeH (i := 4) (some 7) (.pointer (some ⟨k, 0, none⟩)) rfl rfl (by kernel_rfl) (by kernel_rfl) (by kernel_rfl) (fun _ _ _ h => h) hS (MR.free rfl) (fun wq hw => by simp [execOp, MR.ev, MR.size, hsz, e0, f0, go_sem]) ?_
  refine MR.callH (i := 5) (some 8) (77) (#[.pointer (some ⟨k, 0, none⟩)]) (by kernel_rfl) rfl rfl (MR.free rfl) (by simp [execOp, MR.ev, MR.size, hsz, e0, f0, go_sem]) ?_
  refine (AL.out _ (((Below.refl _ w).drew).cell (p := ⟨k, 0, none⟩) hk |>.trans hc) hk).mono ?_
  rintro e w2 ⟨rfl, hb2⟩
  have hS2 : Below w.heap.size w w2 := ((Below.refl _ w).drew).trans hb2
  refine ⟨_, rfl, hS2, ?_⟩
  refine MR.takeH (i := 6) (some 9) (.bool (SE.same5 f (SE.upTo (SE.many b)))) rfl rfl (by kernel_rfl) (by kernel_rfl) (by kernel_rfl) (fun _ _ _ h => h) hS2 (MR.free rfl) (fun wq hw => by simp [execOp, MR.ev, MR.size, hsz, e0, f0, hE, go_sem]) ?_
  refine MR.takeH (i := 7) (some 2) (.bool (SE.same5 f (SE.upTo (SE.many b)))) rfl rfl (by kernel_rfl) (by kernel_rfl) (by kernel_rfl) (fun _ _ _ h => h) hS2 (MR.free rfl) (fun wq hw => by simp [execOp, MR.ev, MR.size, hsz, e0, f0, go_sem]) ?_
  refine wpAnyH_done (by kernel_rfl) ?_ _
  rw [HA.out]
  clear hS HA e0 f0 hsz hE hr AL hb2
  simp only [Act.put, List.setIfInBounds_toArray, List.set_cons_succ, List.set_cons_zero]
  go_wp2
  go_ret
  exact ⟨rfl, hS2⟩
end Go.Proofs.Ytjlombnjmpejjaa
