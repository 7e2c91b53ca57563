/- The laws' eqBundleS, eqPile tell that rows of the same bundles are the same. -/
import Derived.Test.YtjekofjhplhemaaRows
import Derived.Test.YtjekofjhplhemaaCPileLaw
import Derived.Test.YtjekofjhplhemaaMRH
import Derived.WalkKit
import Derived.WalkSpells
import Derived.WalkLawsBesides
import Derived.Outline
namespace Go.Proofs.Ytjekofjhplhemaa
open Go.RowKit
set_option linter.unusedSimpArgs false in
set_option maxHeartbeats 800000 in
set_option maxRecDepth 100000 in
theorem eqBundleS_self (a a2 : Option Addr) (ca cb : Nat) (xs : List Bd) (w : World) (hx : xs.length ≤ 1048576) (h1 : MP.BsAt w a xs) (h2 : MP.BsAt w a2 xs) :
    Calls Try.prog 54 #[.slice a xs.length ca, .slice a2 xs.length cb] w fun e w' => e = .returned (.bool true) ∧ Below w.heap.size w w' := by
  go_enter Try.func54, Try.ntmps54
  go_wp2
  go_loopw [5] (fun iv wr => ∃ k : Nat, iv = .int .i64 k ∧ k ≤ xs.length ∧ Below w.heap.size w wr) (fun iv _ => (xs.length - intOf iv).toNat)
  case atStart => exact ⟨0, rfl, by omega, Below.refl _ _⟩
  case round =>
    obtain ⟨k, rfl, hk, hb⟩ := hrel
    by_cases hl : k < xs.length
    · obtain ⟨b, off, rfl, hlt1, rg1⟩ := MA.row_range (h1.below hb) hl
      obtain ⟨b2, off2, rfl, hlt2, rg2⟩ := MA.row_range (h2.below hb) hl
      generalize MP.at_ xs k = x at *
      have EQ : Hid _ := fun W => eqBundle_self x W
      have hk0 : (0 : Int) ≤ (k : Int) := by omega
      have hkn : (k : Int) < (xs.length : Int) := by omega
      go_wp2
      refine MR.frame fun A hA => ?_
      have hsz : A.tmps.size = 27 := by rw [hA]; rfl
      have e0 : A.eval (.tmp 0) = .slice (some ⟨b, off, none⟩) xs.length ca := by rw [hA]; rfl
      have f0 := MR.read (t := 0) (by rw [hsz]; decide) e0
      have e1 : A.eval (.tmp 1) = .slice (some ⟨b2, off2, none⟩) xs.length cb := by rw [hA]; rfl
      have f1 := MR.read (t := 1) (by rw [hsz]; decide) e1
      have e5 : A.eval (.tmp 5) = .int .i64 (k : Int) := by rw [hA]; rfl
      have f5 := MR.read (t := 5) (by rw [hsz]; decide) e5
      have HA : Hid (A = _) := hA
      clear hA
      have hS : (fun w' : World => Below wr.heap.size wr w') (World.drew _) := ((Below.refl _ wr).drew)
      refine wp_region_held (S := fun w' : World => Below wr.heap.size wr w') (by kernel_rfl) ?_
      change wpAnyH _ _ _ _ _ _ _ _ (World.drew _)
      refine MR.takeH (i := 0) (some 17) (.slice (some ⟨b, off, none⟩) xs.length ca) rfl rfl (by kernel_rfl) (by kernel_rfl) (by kernel_rfl) (fun _ _ _ h => h) hS (MR.free rfl) (fun w hw => by simp [execOp, MR.ev, MR.size, hsz, e0, f0, e1, f1, e5, f5, go_sem]) ?_
      refine MR.takeH (i := 1) (some 18) (.int .i64 (k : Int)) rfl rfl (by kernel_rfl) (by kernel_rfl) (by kernel_rfl) (fun _ _ _ h => h) hS (MR.free rfl) (fun w hw => by simp [execOp, MR.ev, MR.size, hsz, e0, f0, e1, f1, e5, f5, go_sem]) ?_
      refine MR.takeH (i := 2) (some 19) (.pointer (some ⟨b, off + k * 10, none⟩)) rfl rfl (by kernel_rfl) (by kernel_rfl) (by kernel_rfl) (fun _ _ _ h => h) hS (MR.free rfl) (fun w hw => by simp [execOp, MR.ev, MR.size, hsz, e0, f0, e1, f1, e5, f5, hk0, hkn, go_sem]) ?_
      refine MR.takeH (i := 3) (some 20) (x.v) rfl rfl (by kernel_rfl) (by kernel_rfl) (by kernel_rfl) (fun _ _ _ h => h) hS (MR.free rfl) (fun w hw => MA.ex_load rfl (by simp [MR.ev, MR.size, hsz, e0, f0, e1, f1, e5, f5]) (MA.range_below rg1 hw hlt1) Try.underlying35 rfl Try.sizeBundle rfl) ?_
      refine MR.takeH (i := 4) (some 21) (.slice (some ⟨b2, off2, none⟩) xs.length cb) rfl rfl (by kernel_rfl) (by kernel_rfl) (by kernel_rfl) (fun _ _ _ h => h) hS (MR.free rfl) (fun w hw => by simp [execOp, MR.ev, MR.size, hsz, e0, f0, e1, f1, e5, f5, go_sem]) ?_
      refine MR.takeH (i := 5) (some 22) (.int .i64 (k : Int)) rfl rfl (by kernel_rfl) (by kernel_rfl) (by kernel_rfl) (fun _ _ _ h => h) hS (MR.free rfl) (fun w hw => by simp [execOp, MR.ev, MR.size, hsz, e0, f0, e1, f1, e5, f5, go_sem]) ?_
      refine MR.takeH (i := 6) (some 23) (.pointer (some ⟨b2, off2 + k * 10, none⟩)) rfl rfl (by kernel_rfl) (by kernel_rfl) (by kernel_rfl) (fun _ _ _ h => h) hS (MR.free rfl) (fun w hw => by simp [execOp, MR.ev, MR.size, hsz, e0, f0, e1, f1, e5, f5, hk0, hkn, go_sem]) ?_
      refine MR.takeH (i := 7) (some 24) (x.v) rfl rfl (by kernel_rfl) (by kernel_rfl) (by kernel_rfl) (fun _ _ _ h => h) hS (MR.free rfl) (fun w hw => MA.ex_load rfl (by simp [MR.ev, MR.size, hsz, e0, f0, e1, f1, e5, f5]) (MA.range_below rg2 hw hlt2) Try.underlying35 rfl Try.sizeBundle rfl) ?_
      refine MR.callH (i := 8) (some 25) (93) (#[x.v, x.v]) (by kernel_rfl) rfl rfl (MR.free rfl) (by simp [execOp, MR.ev, MR.size, hsz, e0, f0, e1, f1, e5, f5, go_sem]) ?_
      refine Calls.mono (EQ.out _) ?_
      rintro e w2 ⟨rfl, hb2⟩
      have hS2 : Below wr.heap.size wr w2 := hS.trans (hb2.mono hS.size)
      refine ⟨_, rfl, hS2, ?_⟩
      refine MR.takeH (i := 9) (some 26) (.bool false) rfl rfl (by kernel_rfl) (by kernel_rfl) (by kernel_rfl) (fun _ _ _ h => h) hS2 (MR.free rfl) (fun w hw => by simp [execOp, MR.ev, MR.size, hsz, e0, f0, e1, f1, e5, f5, go_sem]) ?_
      refine wpAnyH_done (by kernel_rfl) ?_ _
      have hB2 : Below w.heap.size w w2 := hb.trans (hS2.mono hb.size)
      rw [HA.out]
      clear hS hS2 hb2 HA e0 e1 e5 f0 f1 f5 hsz EQ rg1 rg2
      simp only [Act.put, List.setIfInBounds_toArray, List.set_cons_succ, List.set_cons_zero]
      go_wp2
      go_roundw
      case rel => exact ⟨k + 1, by go_num, by omega, hB2⟩
      case measure => simp [intOf]; omega
    · obtain rfl : k = xs.length := by omega
      go_wp2
      go_ret
      exact ⟨rfl, hb⟩
set_option maxHeartbeats 400000 in
set_option maxRecDepth 100000 in
theorem eqPile_self (a a2 : Option Addr) (ca cb : Nat) (xs : List Bd) (w : World) (hx : xs.length ≤ 1048576) (h1 : MP.BsAt w a xs) (h2 : MP.BsAt w a2 xs) :
    Calls Try.prog 15 #[.agg #[.slice a xs.length ca], .agg #[.slice a2 xs.length cb]] w fun e w' => e = .returned (.bool true) ∧ Below w.heap.size w w' := by
  have EQ : Hid _ := fun W g1 g2 => eqBundleS_self a a2 ca cb xs W hx g1 g2
  have hB : Below w.heap.size w ((w.alloc (.cells #[.slice a xs.length ca] 31)).alloc (.cells #[.slice a2 xs.length cb] 31)) := ((Below.refl _ w).alloc (Nat.le_refl _) _).alloc (by simp) _
  have H1 : Hid (MP.BsAt ((w.alloc (.cells #[.slice a xs.length ca] 31)).alloc (.cells #[.slice a2 xs.length cb] 31)) a xs) := h1.below hB
  have H2 : Hid (MP.BsAt ((w.alloc (.cells #[.slice a xs.length ca] 31)).alloc (.cells #[.slice a2 xs.length cb] 31)) a2 xs) := h2.below hB
  go_enter Try.func15, Try.ntmps15
  go_wp2_with fail
  refine (EQ.out _ H1.out H2.out).mono ?_
  rintro e w2 ⟨rfl, hb2⟩
  have hB2 := hB.trans (hb2.mono hB.size)
  clear EQ H1 H2 hb2 hB
  go_wp2
  go_ret
  exact ⟨rfl, hB2⟩
end Go.Proofs.Ytjekofjhplhemaa
