/- One road on, from all nodes at once: oneRoadOn of the program. -/
import Derived.Test.YtclhfhjkcocdcaaRows
import Derived.Test.YtclhfhjkcocdcaaCRd1
import Derived.Test.YtclhfhjkcocdcaaMRP
import Derived.Test.YtclhfhjkcocdcaaMRH
import Derived.WalkKit
import Derived.WalkSpells
import Derived.WalkLawsBesides
import Derived.Outline
namespace Go.Proofs.Ytclhfhjkcocdcaa
open Go.RowKit
namespace RD
/-- The costs, the result's box, and what is being made. -/
structure N3 (w W : World) (b0 b1 b2 : Nat) (c f : Cs) : Prop where
  c : MA.Rg W b0 0 (il c)
  r : MA.Rg W b1 0 (il zero)
  n : MA.Rg W b2 0 (il f)
  n1 : b0 ≠ b1
  n2 : b0 ≠ b2
  n3 : b1 ≠ b2
  g0 : w.heap.size ≤ b0
  g1 : w.heap.size ≤ b1
  g2 : w.heap.size ≤ b2
  bl : Below w.heap.size w W
theorem N3.kept {w W W' : World} {b0 b1 b2 : Nat} {c f : Cs} (h : N3 w W b0 b1 b2 c f) (hb : Below W.heap.size W W') : N3 w W' b0 b1 b2 c f :=
  ⟨h.c.below hb h.c.lt, h.r.below hb h.r.lt, h.n.below hb h.n.lt, h.n1, h.n2, h.n3, h.g0, h.g1, h.g2, h.bl.trans (hb.mono h.bl.size)⟩
theorem N3.drewN {w W : World} {b0 b1 b2 : Nat} {c f : Cs} (h : N3 w W b0 b1 b2 c f) : N3 w W.drew b0 b1 b2 c f := h.kept (below_drewN (Below.refl _ _) 1)
theorem N3.setn {w W : World} {b0 b1 b2 : Nat} {c f : Cs} (h : N3 w W b0 b1 b2 c f) {i : Nat} (hi : i < 8) (z : Int) : N3 w (W.setCell ⟨b2, i, none⟩ (.int .i64 z)) b0 b1 b2 c (put f i z) :=
  ⟨h.c.other (k' := b2) (o' := i) (vs := [.int .i64 z]) (.inl h.n2), h.r.other (k' := b2) (o' := i) (vs := [.int .i64 z]) (.inl h.n3), rg_set h.n hi z, h.n1, h.n2, h.n3, h.g0, h.g1, h.g2, MA.below_cells h.g2 [.int .i64 z] i W h.bl⟩
theorem n3_new (w : World) (t : TypeId) (c : Cs) : N3 w (((w.alloc (.cells (il c).toArray t)).alloc (.cells (il zero).toArray t)).alloc (.cells (il zero).toArray t)) w.heap.size (w.heap.size + 1) (w.heap.size + 1 + 1) c zero := by
  have r1 := ((MA.Rg.new w (il c) t).alloc (.cells (il zero).toArray t)).alloc (.cells (il zero).toArray t)
  have r2 := (MA.Rg.new' (w.alloc (.cells (il c).toArray t)) (il zero) t (w.heap.size + 1) (by simp)).alloc (.cells (il zero).toArray t)
  have r3 := MA.Rg.new' ((w.alloc (.cells (il c).toArray t)).alloc (.cells (il zero).toArray t)) (il zero) t (w.heap.size + 1 + 1) (by simp)
  exact ⟨r1, r2, r3, by omega, by omega, by omega, Nat.le_refl _, by omega, by omega, (((Below.refl _ w).alloc (Nat.le_refl _) _).alloc (by simp) _).alloc (by simp; omega) _⟩
/-- The first k of f, the rest 0. -/
def upC (f : Cs) (k : Nat) : Cs := fun i => if i < k then f i else 0
theorem upC_zero (f : Cs) : upC f 0 = zero := by funext p; simp [upC, zero]
theorem upC_put (f : Cs) (k : Nat) : put (upC f k) k (f k) = upC f (k + 1) := by
  funext p
  simp only [put, upC]
  by_cases e : p = k
  · subst e; simp
  · rw [if_neg e]
    by_cases h : p < k
    · rw [if_pos h, if_pos (by omega)]
    · rw [if_neg h, if_neg (by omega)]
theorem upC_all (f : Cs) : il (upC f 8) = il f := il_ext fun i hi => by simp [upC, hi]
theorem into_len (xs : List I3) (c : Cs) (v : Nat) : (into xs c v).length ≤ xs.length := by rw [← intoN_all]; exact intoN_len _ _ _ _
end RD
set_option linter.unusedSimpArgs false in
set_option maxHeartbeats 1600000 in
set_option maxRecDepth 100000 in
theorem oneRoadOn_any (c : RD.Cs) (a : Option Addr) (cap : Nat) (xs : List I3) (w : World) (hn : xs.length ≤ 1048576) (hg : RD.Gd xs) (hc : RD.Sm c) (hin : MI3.RowAt w a xs) :
    Calls Try.prog 48 #[.agg (RD.il c).toArray, .slice a xs.length cap] w fun e w' => e = .returned (.agg (RD.il (RD.jac xs c)).toArray) ∧ Below w.heap.size w w' := by
  have HI : Hid (MI3.RowAt w a xs) := hin
  have CI : Hid _ := fun (v : Nat) (W : World) (hr : MI3.RowAt W a xs) => costsInto_any c a cap xs v W hn hg hc hr _ rfl
  have HLn : Hid _ := fun (v : Nat) => RD.into_len xs c v
  have HJ : Hid (∀ k, RD.jac xs c k = RD.lst (c k) (RD.into xs c k)) := fun _ => rfl
  have HN0 : Hid _ := RD.n3_new w 47 c
  obtain ⟨J, hJ⟩ : ∃ J, RD.jac xs c = J := ⟨_, rfl⟩
  rw [hJ] at HJ ⊢
  clear hin hg hc hJ
  go_enter Try.func48, Try.ntmps48
  go_wp2_with (refine MA.alloc_z rfl 47 rfl _ _ Try.infoNC ?_; simp only [MA.sz_alloc])
  generalize ((w.alloc (.cells (RD.il c).toArray 47)).alloc (.cells (RD.il RD.zero).toArray 47)).alloc (.cells (RD.il RD.zero).toArray 47) = W0 at *
  generalize w.heap.size + 1 + 1 = b2 at *
  generalize w.heap.size + 1 = b1 at *
  obtain ⟨b0, hb0⟩ : ∃ b0, w.heap.size = b0 := ⟨_, rfl⟩
  have HB0 : Hid _ := hb0
  go_loopw [7] (fun iv wr => ∃ k : Nat, iv = .int .i64 k ∧ k ≤ 8 ∧ RD.N3 w wr w.heap.size b1 b2 c (RD.upC J k)) (fun iv _ => (8 - intOf iv).toNat)
  case atStart => exact ⟨0, rfl, by omega, by rw [RD.upC_zero]; exact HN0.out⟩
  case round =>
    clear HN0
    obtain ⟨k, rfl, hk, hN⟩ := hrel
    by_cases hl : k < 8
    · have kk : (k : Int) < 8 := by omega
      rw [hb0] at hN ⊢
      go_wp2_with fail
      refine MR.frame fun A hA => ?_
      have hsz : A.tmps.size = 22 := by rw [hA]; rfl
      have e1 : A.eval (.tmp 1) = .slice a xs.length cap := by rw [hA]; rfl
      have f1 := MR.read (t := 1) (by rw [hsz]; decide) e1
      have e2 : A.eval (.tmp 2) = .pointer (some ⟨b0, 0, none⟩) := by rw [hA]; rfl
      have f2 := MR.read (t := 2) (by rw [hsz]; decide) e2
      have e5 : A.eval (.tmp 5) = .pointer (some ⟨b2, 0, none⟩) := by rw [hA]; rfl
      have f5 := MR.read (t := 5) (by rw [hsz]; decide) e5
      have e6 : A.eval (.tmp 6) = .int .i64 (k : Int) := by rw [hA]; rfl
      have f6 := MR.read (t := 6) (by rw [hsz]; decide) e6
      have HA : Hid (A = _) := hA
      clear hA
      have hS : (fun w' => MA.Rg w' b0 0 (RD.il c)) (World.drew _) := hN.c.drew
      refine wp_region_held (S := fun w' => MA.Rg w' b0 0 (RD.il c)) (by kernel_rfl) ?_
      change wpAnyH _ _ _ _ _ _ _ _ (World.drew _)
      refine MR.takeH (i := 0) (some 10) (.int .i64 (k : Int)) rfl rfl (by kernel_rfl) (by kernel_rfl) (by kernel_rfl) (fun _ _ _ h => h) hS (MR.free rfl) (fun wq hw => by simp [execOp, MR.ev, MR.size, hsz, e1, f1, e2, f2, e5, f5, e6, f6, go_sem]) ?_
      refine MR.takeH (i := 1) (some 11) (.int .i64 (k : Int)) rfl rfl (by kernel_rfl) (by kernel_rfl) (by kernel_rfl) (fun _ _ _ h => h) hS (MR.free rfl) (fun wq hw => by simp [execOp, MR.ev, MR.size, hsz, e1, f1, e2, f2, e5, f5, e6, f6, go_sem]) ?_
      refine MR.takeH (i := 2) (some 12) (.pointer (some ⟨b0, k, none⟩)) rfl rfl (by kernel_rfl) (by kernel_rfl) (by kernel_rfl) (fun _ _ _ h => h) hS (MR.free rfl) (fun wq hw => by simp [execOp, MR.ev, MR.size, hsz, e1, f1, e2, f2, e5, f5, e6, f6, Try.underlying47, hl, kk, go_sem]) ?_
      refine MR.takeH (i := 3) (some 13) (.int .i64 (c k)) rfl rfl (by kernel_rfl) (by kernel_rfl) (by kernel_rfl) (fun _ _ _ h => h) hS (MR.free rfl) (fun wq hw => by simp [execOp, MR.ev, MR.size, hsz, e1, f1, e2, f2, e5, f5, e6, f6, (RD.rg_at hw hl).1, go_sem]) ?_
      refine MR.takeH (i := 4) (some 14) (.agg (RD.il c).toArray) rfl rfl (by kernel_rfl) (by kernel_rfl) (by kernel_rfl) (fun _ _ _ h => h) hS (MR.free rfl) (fun wq hw => MA.ex_load rfl (by simp [MR.ev, MR.size, hsz, e1, f1, e2, f2, e5, f5, e6, f6]) hw.rng Try.underlying47 rfl Try.sizeNC (RD.il_len c)) ?_
      refine MR.takeH (i := 5) (some 15) (.slice a xs.length cap) rfl rfl (by kernel_rfl) (by kernel_rfl) (by kernel_rfl) (fun _ _ _ h => h) hS (MR.free rfl) (fun wq hw => by simp [execOp, MR.ev, MR.size, hsz, e1, f1, e2, f2, e5, f5, e6, f6, go_sem]) ?_
      refine MR.takeH (i := 6) (some 16) (.int .i64 (k : Int)) rfl rfl (by kernel_rfl) (by kernel_rfl) (by kernel_rfl) (fun _ _ _ h => h) hS (MR.free rfl) (fun wq hw => by simp [execOp, MR.ev, MR.size, hsz, e1, f1, e2, f2, e5, f5, e6, f6, go_sem]) ?_
      refine MR.callH (i := 7) (some 17) (54) (#[.agg (RD.il c).toArray, .slice a xs.length cap, .int .i64 (k : Int)]) (by kernel_rfl) rfl rfl (MR.free rfl) (by simp [execOp, MR.ev, MR.size, hsz, e1, f1, e2, f2, e5, f5, e6, f6, go_sem]) ?_
      refine Calls.mono (CI.out k _ (HI.out.below ((below_drewN hN.bl 1)))) ?_
      rintro e w2 ⟨a1, c1, rfl, ho2, hb2⟩
      have hN2 := hN.drewN.kept hb2
      have hO2 : M4.IntsAt w2 a1 (RD.into xs c k) := M5.own_ints ho2
      have hlen : (RD.into xs c k).length ≤ 1048576 := Nat.le_trans (HLn.out k) (by omega)
      refine ⟨_, rfl, hN2.c, ?_⟩
      refine MR.callH (i := 8) (some 18) (53) (#[.int .i64 (c k), .slice a1 (RD.into xs c k).length c1]) (by kernel_rfl) rfl rfl (MR.free rfl) (by simp [execOp, MR.ev, MR.size, hsz, e1, f1, e2, f2, e5, f5, e6, f6, go_sem]) ?_
      refine Calls.mono (leastOf_any (c k) a1 c1 (RD.into xs c k) w2 hlen hO2 _ rfl) ?_
      rintro e w3 ⟨rfl, rfl⟩
      refine ⟨_, rfl, hN2.c, ?_⟩
      refine MR.takeH (i := 9) (some 19) (.pointer (some ⟨b2, k, none⟩)) rfl rfl (by kernel_rfl) (by kernel_rfl) (by kernel_rfl) (fun _ _ _ h => h) hN2.c (MR.free rfl) (fun wq hw => by simp [execOp, MR.ev, MR.size, hsz, e1, f1, e2, f2, e5, f5, e6, f6, Try.underlying47, hl, kk, go_sem]) ?_
      have hN3 := hN2.setn hl (RD.lst (c k) (RD.into xs c k))
      obtain ⟨q1, z1⟩ := RD.rg_at hN2.n hl
      have l1 := hN2.n.lt
      refine MR.storeH (w' := w2.setCell ⟨b2, k, none⟩ (.int .i64 (RD.lst (c k) (RD.into xs c k)))) (i := 10) (by kernel_rfl) rfl (MR.free rfl) (by simp [execOp, MR.ev, MR.size, hsz, e1, f1, e2, f2, e5, f5, e6, f6, q1, z1, l1, go_sem]) ⟨hN3.c, ?_⟩
      refine wpAnyH_done (by kernel_rfl) ?_ _
      have hN4 : Hid (RD.N3 w (w2.setCell ⟨b2, k, none⟩ (.int .i64 (RD.lst (c k) (RD.into xs c k)))) b0 b1 b2 c (RD.upC J (k + 1))) := by
        have := hN3
        rw [← HJ.out k, RD.upC_put] at this
        rw [← HJ.out k]; exact this
      rw [HA.out]
      simp only [Act.put, List.setIfInBounds_toArray, List.set_cons_succ, List.set_cons_zero]
      clear hN hN2 hN3 ho2 hb2 hO2 hlen q1 z1 l1 HA hsz e1 f1 e2 f2 e5 f5 e6 f6 hS
      generalize (w2.setCell ⟨b2, k, none⟩ (.int .i64 (RD.lst (c k) (RD.into xs c k)))) = W4 at *
      go_wp2
      go_roundw
      case rel => exact ⟨k + 1, by go_num, by omega, hN4.out⟩
      case measure => simp [intOf]; omega
    · obtain rfl : k = 8 := by omega
      have HRn : Hid (MA.Rg wr b2 0 (RD.il J)) := by have := hN.n; rw [RD.upC_all] at this; exact this
      have HRR : Hid (MA.Rg wr b1 0 (RD.il RD.zero)) := hN.r
      have HRP : Hid (MA.Rg (wr.setCells b1 0 (RD.il J)) b1 0 (RD.il J)) := hN.r.put (by rw [RD.il_len, RD.il_len])
      have HBP : Hid (Below w.heap.size w (wr.setCells b1 0 (RD.il J))) := MA.below_cells hN.g1 _ _ _ hN.bl
      clear hN HI CI HLn HJ HB0 hb0
      go_wp2_with (first
        | (refine MA.load_m rfl 47 _ rfl rfl (cs := RD.il J) ?_ Try.underlying47 rfl Try.sizeNC (RD.il_len _) ?_; exact HRn.out; clear HRn)
        | (refine MA.store_m rfl 47 _ _ rfl rfl rfl (vs := RD.il J) (cs := RD.il RD.zero) ?_ Try.sizeNC (RD.il_len _) (RD.il_len _) (RD.il_one _) ?_; exact HRR.out; clear HRR))
      exact bodyPost_ret (MA.ret_cell rfl rfl (MA.load_rg HRP.out Try.underlying47 rfl Try.sizeNC (RD.il_len _))) rfl ⟨rfl, HBP.out⟩
end Go.Proofs.Ytclhfhjkcocdcaa
