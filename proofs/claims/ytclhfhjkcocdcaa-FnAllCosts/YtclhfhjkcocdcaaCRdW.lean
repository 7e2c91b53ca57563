/- The road back, and the way back: roadBack, wayBack, WayBetween of the program. -/
import Derived.Test.YtclhfhjkcocdcaaRows
import Derived.Test.YtclhfhjkcocdcaaCRd5
import Derived.Test.YtclhfhjkcocdcaaMRW
import Derived.Test.YtclhfhjkcocdcaaMRP
import Derived.Test.YtclhfhjkcocdcaaMRH
import Derived.Test.YtclhfhjkcocdcaaMNR
import Derived.Test.YtclhfhjkcocdcaaCHasI
import Derived.Test.YtclhfhjkcocdcaaCInsertO
import Derived.WalkKit
import Derived.WalkSpells
import Derived.WalkLawsBesides
import Derived.Outline
namespace Go.Proofs.Ytclhfhjkcocdcaa
open Go.RowKit
namespace RD
def bkN : Option Nat → Int
  | none => 0
  | some k => k
def slen : Value → Nat
  | .slice _ n _ => n
  | _ => 0
end RD
set_option linter.unusedSimpArgs false in
set_option maxHeartbeats 3200000 in
set_option maxRecDepth 100000 in
theorem roadBack_any (c : RD.Cs) (a b : Option Addr) (cap cb : Nat) (xs : List I3) (ns : List Int) (at_ : Int) (w : World) (hn : xs.length ≤ 1048576) (hnl : ns.length ≤ 1048576) (hg : RD.Gd xs) (hc : RD.Sm c) (hin : MI3.RowAt w a xs) (hns : M4.IntsAt w b ns) (h0 : ns[0]? = some at_) (O : Option Nat) (hO : Hid (RD.bk xs c at_ ns = O)) :
    Calls Try.prog 46 #[.agg (RD.il c).toArray, .slice a xs.length cap, .slice b ns.length cb] w fun e w' => e = .returned (.tuple #[.int .i64 (RD.bkN O), .bool O.isSome]) ∧ Below w.heap.size w w' := by
  have HG : Hid (∀ k, k < xs.length → RD.Good (MI3.at_ xs k)) := fun k hk => by rw [MI3.at_eq xs k hk]; exact hg _ (List.getElem_mem hk)
  have OV : Hid (∀ (k : Nat), k < xs.length → ∀ W : World, Calls Try.prog 49 #[.agg (RD.il c).toArray, (MI3.at_ xs k).v] W fun e w' => e = .returned (.int .i64 (RD.ov c (MI3.at_ xs k))) ∧ Below W.heap.size W w') := fun k hk W => over_any c _ W (HG.out k hk) hc
  obtain ⟨nb, no, rfl, hnlt, hn0⟩ : ∃ nb no, b = some ⟨nb, no, none⟩ ∧ nb < w.heap.size ∧ w.cell? ⟨nb, no, none⟩ = some (.int .i64 at_) := by
    have hl : 0 < ns.length := (List.getElem?_eq_some_iff.1 h0).1
    obtain ⟨nb, no, e, hlt, hc⟩ := hns.at (k := 0) hl
    rw [List.getD_eq_getElem?_getD, h0, Nat.add_zero] at hc
    exact ⟨nb, no, e, hlt, hc⟩
  have hnp : 0 < ns.length := (List.getElem?_eq_some_iff.1 h0).1
  have hnpi : (0 : Int) < (ns.length : Int) := by omega
  have hb0 : Below w.heap.size w (w.alloc (.cells (RD.il c).toArray 47)) := (Below.refl _ w).alloc (Nat.le_refl _) _
  have hsz : (w.alloc (.cells (RD.il c).toArray 47)).heap.size = w.heap.size + 1 := by simp
  have HJ0 : Hid (MA.Rg (w.alloc (.cells (RD.il c).toArray 47)) w.heap.size 0 (RD.il c)) := MA.Rg.new w (RD.il c) 47
  have HI0 : Hid (MI3.RowAt (w.alloc (.cells (RD.il c).toArray 47)) a xs) := hin.below hb0
  have HN0 : Hid (M4.IntsAt (w.alloc (.cells (RD.il c).toArray 47)) (some ⟨nb, no, none⟩) ns) := hns.below hb0
  have HC0 : Hid ((w.alloc (.cells (RD.il c).toArray 47)).cell? ⟨nb, no, none⟩ = some (.int .i64 at_)) := (hb0.cell (p := ⟨nb, no, none⟩) hnlt).trans hn0
  have HNL : Hid (nb < (w.alloc (.cells (RD.il c).toArray 47)).heap.size) := by show _ < _; rw [hsz]; omega
  have HB0 : Hid _ := hb0
  have HHT : Hid (∀ k, RD.hit xs c at_ ns k = ((decide ((MI3.at_ xs k).a1 = at_) && decide (RD.ov c (MI3.at_ xs k) = c (MI3.at_ xs k).a1.toNat)) && !EG.hasB ns (MI3.at_ xs k).a0)) := fun k => rfl
  have HBS : Hid _ := fun (k : Nat) => @RD.bk_some xs c at_ ns k
  have HBN : Hid _ := @RD.bk_none xs c at_ ns
  have HNS : Hid _ := fun (k : Nat) => @RD.noH_succ xs c at_ ns k
  have HNZ : Hid (RD.noH xs c at_ ns 0) := fun j hj => by omega
  rw [hO.out] at HBS HBN
  clear hin hns hg hc hb0 hsz h0 hn0 hO
  generalize RD.hit xs c at_ ns = ht at *
  generalize RD.noH xs c at_ ns = nh at *
  go_enter Try.func46, Try.ntmps46
  go_wp2
  generalize w.alloc (.cells (RD.il c).toArray 47) = W0 at *
  generalize hcb : w.heap.size = cbx at *
  have HB0' : Hid (Below w.heap.size w W0) := by rw [hcb]; exact HB0.out
  clear HB0
  go_loopw [12] (fun iv wr => ∃ k : Nat, iv = .int .i64 k ∧ k ≤ xs.length ∧ Hid (nh k) ∧ Below W0.heap.size W0 wr) (fun iv _ => (xs.length - intOf iv).toNat)
  case atStart => exact ⟨0, rfl, by omega, HNZ, Below.refl _ _⟩
  case round =>
    clear HNZ
    obtain ⟨k, rfl, hk, hN, hb⟩ := hrel
    by_cases hlk : k < xs.length
    · obtain ⟨b1, off, rfl, hlt, c0, c1, c2⟩ := (HI0.out.below hb).at hlk
      have G := HG.out k hlk
      have OV1 : Hid _ := OV.out k hlk
      have HT1 : Hid _ := HHT.out k
      have HY : Hid _ := HBS.out k hlk hN.out
      have HN1 : Hid _ := HNS.out k hN.out
      generalize ht k = hk1 at *
      generalize RD.ov c (MI3.at_ xs k) = z at *
      generalize MI3.at_ xs k = x at *
      obtain ⟨x0, x1, x2⟩ := x
      obtain ⟨t, ht'⟩ := Int.eq_ofNat_of_zero_le G.t0
      have ht7 := G.t1
      simp only at ht' ht7
      subst ht'
      simp only [show ((t : Int)).toNat = t from by omega] at HT1
      have ht8 : t < 8 := by omega
      have tt8 : (t : Int) < 8 := by omega
      have HBA : Hid (Below W0.heap.size W0 (wr.alloc (.cells #[.int .i64 x0, .int .i64 (t : Int), .int .i64 x2] 37))) := hb.alloc hb.size _
      have F0 : Hid ((wr.alloc (.cells #[.int .i64 x0, .int .i64 (t : Int), .int .i64 x2] 37)).cell? ⟨wr.heap.size, 0, none⟩ = some (.int .i64 x0)) := by show _ = _; simp
      have F1 : Hid ((wr.alloc (.cells #[.int .i64 x0, .int .i64 (t : Int), .int .i64 x2] 37)).cell? ⟨wr.heap.size, 1, none⟩ = some (.int .i64 (t : Int))) := by show _ = _; simp
      have F2 : Hid ((wr.alloc (.cells #[.int .i64 x0, .int .i64 (t : Int), .int .i64 x2] 37)).cell? ⟨wr.heap.size, 2, none⟩ = some (.int .i64 x2)) := by show _ = _; simp
      have F7 : Hid (wr.heap.size < (wr.alloc (.cells #[.int .i64 x0, .int .i64 (t : Int), .int .i64 x2] 37)).heap.size) := by show _ < _; simp
      clear hb hN HHT HBS HNS HI0 OV
      go_wp2_with fail
      clear c0 c1 c2 hlt G
      generalize (wr.alloc (.cells #[.int .i64 x0, .int .i64 (t : Int), .int .i64 x2] 37)) = W1 at *
      generalize wr.heap.size = q at *
      have hJ1 := HJ0.out.below HBA.out HJ0.out.lt
      have j1 := (HBA.out.cell (p := ⟨nb, no, none⟩) HNL.out).trans HC0.out
      have jl : nb < W1.heap.size := Nat.lt_of_lt_of_le HNL.out HBA.out.size
      have CT : Hid (∀ w' : World, Below W1.heap.size W1 w' → Calls Try.prog 50 #[.slice (some ⟨nb, no, none⟩) ns.length cb, .int .i64 x0] w' fun e w'' => e = .returned (.bool (EG.hasB ns x0)) ∧ w' = w'') := fun w' h => containsI_any _ cb ns x0 w' hnl ((HN0.out.below HBA.out).below h)
      have cl := hJ1.lt
      obtain ⟨jt, -⟩ := RD.rg_at hJ1 ht8
      have f0 := F0.out
      have f1 := F1.out
      have f2 := F2.out
      have f7 := F7.out
      generalize EG.hasB ns x0 = hb0 at *
      generalize hct : c t = zc at *
      clear hct F0 F1 F2 F7
      by_cases e1 : (t : Int) = at_
      · subst e1
        rw [decide_eq_true rfl, Bool.true_and] at HT1
        by_cases e2 : z = zc
        · subst e2
          rw [decide_eq_true rfl, Bool.true_and] at HT1
          cases hb0 with
          | false =>
            have HYY : Hid (O = some k) := HY.out HT1.out
            clear HT1 HY HN1
            refine MR.frame fun A hA => ?_
            have hsz : A.tmps.size = 42 := by rw [hA]; rfl
            have e2 : A.eval (.tmp 2) = .slice (some ⟨nb, no, none⟩) ns.length cb := by rw [hA]; rfl
            have f2' := MR.read (t := 2) (by rw [hsz]; decide) e2
            have e3 : A.eval (.tmp 3) = .pointer (some ⟨cbx, 0, none⟩) := by rw [hA]; rfl
            have f3 := MR.read (t := 3) (by rw [hsz]; decide) e3
            have e9 : A.eval (.tmp 9) = .pointer (some ⟨q, 0, none⟩) := by rw [hA]; rfl
            have f9 := MR.read (t := 9) (by rw [hsz]; decide) e9
            have HA : Hid (A = _) := hA
            clear hA
            have hS : (fun w' => Below W1.heap.size W1 w') (World.drew _) := (Below.refl _ W1).drew
            refine wp_region_held (S := fun w' => Below W1.heap.size W1 w') (by kernel_rfl) ?_
            change wpAnyH _ _ _ _ _ _ _ _ (World.drew _)
            refine MR.takeH (i := 0) (some 17) (.pointer (some ⟨q, 1, none⟩)) rfl rfl (by kernel_rfl) (by kernel_rfl) (by kernel_rfl) (fun _ _ _ h => h) hS (MR.free rfl) (fun wq hw => by simp [execOp, MR.ev, MR.size, hsz, e2, f2', e3, f3, e9, f9, go_sem]) ?_
            refine MR.takeH (i := 1) (some 18) (.int .i64 (t : Int)) rfl rfl (by kernel_rfl) (by kernel_rfl) (by kernel_rfl) (fun _ _ _ h => h) hS (MR.free rfl) (fun wq hw => by simp [execOp, MR.ev, MR.size, hsz, e2, f2', e3, f3, e9, f9, (hw.cell (p := ⟨q, 1, none⟩) f7).trans f1, go_sem]) ?_
            refine MR.takeH (i := 2) (some 19) (.slice (some ⟨nb, no, none⟩) ns.length cb) rfl rfl (by kernel_rfl) (by kernel_rfl) (by kernel_rfl) (fun _ _ _ h => h) hS (MR.free rfl) (fun wq hw => by simp [execOp, MR.ev, MR.size, hsz, e2, f2', e3, f3, e9, f9, go_sem]) ?_
            refine MR.takeH (i := 3) (some 20) (.pointer (some ⟨nb, no, none⟩)) rfl rfl (by kernel_rfl) (by kernel_rfl) (by kernel_rfl) (fun _ _ _ h => h) hS (MR.free rfl) (fun wq hw => by simp [execOp, MR.ev, MR.size, hsz, e2, f2', e3, f3, e9, f9, Try.underlying32, hnpi, hnp, go_sem]) ?_
            refine MR.takeH (i := 4) (some 21) (.int .i64 (t : Int)) rfl rfl (by kernel_rfl) (by kernel_rfl) (by kernel_rfl) (fun _ _ _ h => h) hS (MR.free rfl) (fun wq hw => by simp [execOp, MR.ev, MR.size, hsz, e2, f2', e3, f3, e9, f9, (hw.cell (p := ⟨nb, no, none⟩) jl).trans j1, go_sem]) ?_
            refine MR.takeH (i := 5) (some 22) (.bool true) rfl rfl (by kernel_rfl) (by kernel_rfl) (by kernel_rfl) (fun _ _ _ h => h) hS (MR.free rfl) (fun wq hw => by simp [execOp, MR.ev, MR.size, hsz, e2, f2', e3, f3, e9, f9, go_sem]) ?_
            refine MR.takeH (i := 6) (some 23) (.bool true) rfl rfl (by kernel_rfl) (by kernel_rfl) (by kernel_rfl) (fun _ _ _ h => h) hS (MR.free rfl) (fun wq hw => by simp [execOp, MR.ev, MR.size, hsz, e2, f2', e3, f3, e9, f9, go_sem]) ?_
            refine MR.takeH (i := 7) (some 24) (.agg (RD.il c).toArray) rfl rfl (by kernel_rfl) (by kernel_rfl) (by kernel_rfl) (fun _ _ _ h => h) hS (MR.want (d := 23) rfl rfl (by simp [MR.size, hsz]) (by simp [MR.ev, MR.size, hsz, e2, f2', e3, f3, e9, f9])) (fun wq hw => MA.ex_load rfl (by simp [MR.ev, MR.size, hsz, e2, f2', e3, f3, e9, f9]) (MA.range_below hJ1.rng hw cl) Try.underlying47 rfl Try.sizeNC (RD.il_len c)) ?_
            refine MR.takeH (i := 8) (some 25) (.agg #[.int .i64 x0, .int .i64 (t : Int), .int .i64 x2]) rfl rfl (by kernel_rfl) (by kernel_rfl) (by kernel_rfl) (fun _ _ _ h => h) hS (MR.want (d := 23) rfl rfl (by simp [MR.size, hsz]) (by simp [MR.ev, MR.size, hsz, e2, f2', e3, f3, e9, f9])) (fun wq hw => by simp [execOp, MR.ev, MR.size, hsz, e2, f2', e3, f3, e9, f9, go_sem, (hw.cell (p := ⟨q, 0, none⟩) f7).trans f0, (hw.cell (p := ⟨q, 1, none⟩) f7).trans f1, (hw.cell (p := ⟨q, 2, none⟩) f7).trans f2]) ?_
            refine MR.takeH (i := 10) (some 27) (.pointer (some ⟨q, 1, none⟩)) rfl rfl (by kernel_rfl) (by kernel_rfl) (by kernel_rfl) (fun _ _ _ h => h) hS (MR.want (d := 23) rfl rfl (by simp [MR.size, hsz]) (by simp [MR.ev, MR.size, hsz, e2, f2', e3, f3, e9, f9])) (fun wq hw => by simp [execOp, MR.ev, MR.size, hsz, e2, f2', e3, f3, e9, f9, go_sem]) ?_
            refine MR.takeH (i := 11) (some 28) (.int .i64 (t : Int)) rfl rfl (by kernel_rfl) (by kernel_rfl) (by kernel_rfl) (fun _ _ _ h => h) hS (MR.want (d := 23) rfl rfl (by simp [MR.size, hsz]) (by simp [MR.ev, MR.size, hsz, e2, f2', e3, f3, e9, f9])) (fun wq hw => by simp [execOp, MR.ev, MR.size, hsz, e2, f2', e3, f3, e9, f9, (hw.cell (p := ⟨q, 1, none⟩) f7).trans f1, go_sem]) ?_
            refine MR.takeH (i := 12) (some 29) (.pointer (some ⟨cbx, t, none⟩)) rfl rfl (by kernel_rfl) (by kernel_rfl) (by kernel_rfl) (fun _ _ _ h => h) hS (MR.want (d := 23) rfl rfl (by simp [MR.size, hsz]) (by simp [MR.ev, MR.size, hsz, e2, f2', e3, f3, e9, f9])) (fun wq hw => by simp [execOp, MR.ev, MR.size, hsz, e2, f2', e3, f3, e9, f9, Try.underlying47, tt8, go_sem]) ?_
            refine MR.takeH (i := 13) (some 30) (.int .i64 z) rfl rfl (by kernel_rfl) (by kernel_rfl) (by kernel_rfl) (fun _ _ _ h => h) hS (MR.want (d := 23) rfl rfl (by simp [MR.size, hsz]) (by simp [MR.ev, MR.size, hsz, e2, f2', e3, f3, e9, f9])) (fun wq hw => by simp [execOp, MR.ev, MR.size, hsz, e2, f2', e3, f3, e9, f9, (hw.cell (p := ⟨cbx, t, none⟩) cl).trans jt, go_sem]) ?_
            refine MR.callH (i := 9) (some 26) (49) (#[.agg (RD.il c).toArray, .agg #[.int .i64 x0, .int .i64 (t : Int), .int .i64 x2]]) (by kernel_rfl) rfl rfl (MR.want (d := 23) rfl rfl (by simp [MR.size, hsz]) (by simp [MR.ev, MR.size, hsz, e2, f2', e3, f3, e9, f9])) (by simp [execOp, MR.ev, MR.size, hsz, e2, f2', e3, f3, e9, f9, go_sem]) ?_
            refine (OV1.out _).mono ?_
            rintro e w2 ⟨rfl, hb2⟩
            have hS2 : Below W1.heap.size W1 w2 := hS.trans (hb2.mono hS.size)
            refine ⟨_, rfl, hS2, ?_⟩
            refine MR.takeH (i := 14) (some 31) (.bool true) rfl rfl (by kernel_rfl) (by kernel_rfl) (by kernel_rfl) (fun _ _ _ h => h) hS2 (MR.want (d := 23) rfl rfl (by simp [MR.size, hsz]) (by simp [MR.ev, MR.size, hsz, e2, f2', e3, f3, e9, f9])) (fun wq hw => by simp [execOp, MR.ev, MR.size, hsz, e2, f2', e3, f3, e9, f9, go_sem]) ?_
            refine MR.takeH (i := 15) (some 32) (.bool true) rfl rfl (by kernel_rfl) (by kernel_rfl) (by kernel_rfl) (fun _ _ _ h => h) hS2 (MR.free rfl) (fun wq hw => by simp [execOp, MR.ev, MR.size, hsz, e2, f2', e3, f3, e9, f9, go_sem]) ?_
            refine MR.takeH (i := 16) (some 33) (.bool true) rfl rfl (by kernel_rfl) (by kernel_rfl) (by kernel_rfl) (fun _ _ _ h => h) hS2 (MR.free rfl) (fun wq hw => by simp [execOp, MR.ev, MR.size, hsz, e2, f2', e3, f3, e9, f9, go_sem]) ?_
            refine MR.takeH (i := 17) (some 34) (.slice (some ⟨nb, no, none⟩) ns.length cb) rfl rfl (by kernel_rfl) (by kernel_rfl) (by kernel_rfl) (fun _ _ _ h => h) hS2 (MR.want (d := 33) rfl rfl (by simp [MR.size, hsz]) (by simp [MR.ev, MR.size, hsz, e2, f2', e3, f3, e9, f9])) (fun wq hw => by simp [execOp, MR.ev, MR.size, hsz, e2, f2', e3, f3, e9, f9, go_sem]) ?_
            refine MR.takeH (i := 18) (some 35) (.pointer (some ⟨q, 0, none⟩)) rfl rfl (by kernel_rfl) (by kernel_rfl) (by kernel_rfl) (fun _ _ _ h => h) hS2 (MR.want (d := 33) rfl rfl (by simp [MR.size, hsz]) (by simp [MR.ev, MR.size, hsz, e2, f2', e3, f3, e9, f9])) (fun wq hw => by simp [execOp, MR.ev, MR.size, hsz, e2, f2', e3, f3, e9, f9, go_sem]) ?_
            refine MR.takeH (i := 19) (some 36) (.int .i64 x0) rfl rfl (by kernel_rfl) (by kernel_rfl) (by kernel_rfl) (fun _ _ _ h => h) hS2 (MR.want (d := 33) rfl rfl (by simp [MR.size, hsz]) (by simp [MR.ev, MR.size, hsz, e2, f2', e3, f3, e9, f9])) (fun wq hw => by simp [execOp, MR.ev, MR.size, hsz, e2, f2', e3, f3, e9, f9, (hw.cell (p := ⟨q, 0, none⟩) f7).trans f0, go_sem]) ?_
            refine MR.callH (i := 20) (some 37) (50) (#[.slice (some ⟨nb, no, none⟩) ns.length cb, .int .i64 x0]) (by kernel_rfl) rfl rfl (MR.want (d := 33) rfl rfl (by simp [MR.size, hsz]) (by simp [MR.ev, MR.size, hsz, e2, f2', e3, f3, e9, f9])) (by simp [execOp, MR.ev, MR.size, hsz, e2, f2', e3, f3, e9, f9, go_sem]) ?_
            refine (CT.out _ hS2).mono ?_
            rintro e w3 ⟨rfl, rfl⟩
            refine ⟨_, rfl, hS2, ?_⟩
            refine MR.takeH (i := 21) (some 38) (.bool true) rfl rfl (by kernel_rfl) (by kernel_rfl) (by kernel_rfl) (fun _ _ _ h => h) hS2 (MR.want (d := 33) rfl rfl (by simp [MR.size, hsz]) (by simp [MR.ev, MR.size, hsz, e2, f2', e3, f3, e9, f9])) (fun wq hw => by simp [execOp, MR.ev, MR.size, hsz, e2, f2', e3, f3, e9, f9, go_sem]) ?_
            refine MR.takeH (i := 22) (some 39) (.bool true) rfl rfl (by kernel_rfl) (by kernel_rfl) (by kernel_rfl) (fun _ _ _ h => h) hS2 (MR.free rfl) (fun wq hw => by simp [execOp, MR.ev, MR.size, hsz, e2, f2', e3, f3, e9, f9, go_sem]) ?_
            refine wpAnyH_done (by kernel_rfl) ?_ _
            rw [HA.out]
            simp only [Act.put, List.setIfInBounds_toArray, List.set_cons_succ, List.set_cons_zero]
            have HB3 : Hid (Below W0.heap.size W0 w2) := HBA.out.trans (hS2.mono HBA.out.size)
            have HB2 : Hid (Below cbx w w2) := (show Below cbx w W0 from hcb ▸ HB0'.out).trans (HB3.out.mono (by have := HB0'.out.size; omega))
            clear HB3
            clear HA hsz e2 f2' e3 f3 e9 f9 hS hS2 hb2
            clear HBA hJ1 j1 jt f0 f1 f2 f7 OV1 CT
            obtain rfl : O = some k := HYY.out
            go_wp2
            go_ret2
            exact ⟨rfl, HB2.out⟩
          | true =>
            have HNN : Hid (nh (k + 1)) := HN1.out HT1.out
            clear HT1 HY HN1
            refine MR.frame fun A hA => ?_
            have hsz : A.tmps.size = 42 := by rw [hA]; rfl
            have e2 : A.eval (.tmp 2) = .slice (some ⟨nb, no, none⟩) ns.length cb := by rw [hA]; rfl
            have f2' := MR.read (t := 2) (by rw [hsz]; decide) e2
            have e3 : A.eval (.tmp 3) = .pointer (some ⟨cbx, 0, none⟩) := by rw [hA]; rfl
            have f3 := MR.read (t := 3) (by rw [hsz]; decide) e3
            have e9 : A.eval (.tmp 9) = .pointer (some ⟨q, 0, none⟩) := by rw [hA]; rfl
            have f9 := MR.read (t := 9) (by rw [hsz]; decide) e9
            have HA : Hid (A = _) := hA
            clear hA
            have hS : (fun w' => Below W1.heap.size W1 w') (World.drew _) := (Below.refl _ W1).drew
            refine wp_region_held (S := fun w' => Below W1.heap.size W1 w') (by kernel_rfl) ?_
            change wpAnyH _ _ _ _ _ _ _ _ (World.drew _)
            refine MR.takeH (i := 0) (some 17) (.pointer (some ⟨q, 1, none⟩)) rfl rfl (by kernel_rfl) (by kernel_rfl) (by kernel_rfl) (fun _ _ _ h => h) hS (MR.free rfl) (fun wq hw => by simp [execOp, MR.ev, MR.size, hsz, e2, f2', e3, f3, e9, f9, go_sem]) ?_
            refine MR.takeH (i := 1) (some 18) (.int .i64 (t : Int)) rfl rfl (by kernel_rfl) (by kernel_rfl) (by kernel_rfl) (fun _ _ _ h => h) hS (MR.free rfl) (fun wq hw => by simp [execOp, MR.ev, MR.size, hsz, e2, f2', e3, f3, e9, f9, (hw.cell (p := ⟨q, 1, none⟩) f7).trans f1, go_sem]) ?_
            refine MR.takeH (i := 2) (some 19) (.slice (some ⟨nb, no, none⟩) ns.length cb) rfl rfl (by kernel_rfl) (by kernel_rfl) (by kernel_rfl) (fun _ _ _ h => h) hS (MR.free rfl) (fun wq hw => by simp [execOp, MR.ev, MR.size, hsz, e2, f2', e3, f3, e9, f9, go_sem]) ?_
            refine MR.takeH (i := 3) (some 20) (.pointer (some ⟨nb, no, none⟩)) rfl rfl (by kernel_rfl) (by kernel_rfl) (by kernel_rfl) (fun _ _ _ h => h) hS (MR.free rfl) (fun wq hw => by simp [execOp, MR.ev, MR.size, hsz, e2, f2', e3, f3, e9, f9, Try.underlying32, hnpi, hnp, go_sem]) ?_
            refine MR.takeH (i := 4) (some 21) (.int .i64 (t : Int)) rfl rfl (by kernel_rfl) (by kernel_rfl) (by kernel_rfl) (fun _ _ _ h => h) hS (MR.free rfl) (fun wq hw => by simp [execOp, MR.ev, MR.size, hsz, e2, f2', e3, f3, e9, f9, (hw.cell (p := ⟨nb, no, none⟩) jl).trans j1, go_sem]) ?_
            refine MR.takeH (i := 5) (some 22) (.bool true) rfl rfl (by kernel_rfl) (by kernel_rfl) (by kernel_rfl) (fun _ _ _ h => h) hS (MR.free rfl) (fun wq hw => by simp [execOp, MR.ev, MR.size, hsz, e2, f2', e3, f3, e9, f9, go_sem]) ?_
            refine MR.takeH (i := 6) (some 23) (.bool true) rfl rfl (by kernel_rfl) (by kernel_rfl) (by kernel_rfl) (fun _ _ _ h => h) hS (MR.free rfl) (fun wq hw => by simp [execOp, MR.ev, MR.size, hsz, e2, f2', e3, f3, e9, f9, go_sem]) ?_
            refine MR.takeH (i := 7) (some 24) (.agg (RD.il c).toArray) rfl rfl (by kernel_rfl) (by kernel_rfl) (by kernel_rfl) (fun _ _ _ h => h) hS (MR.want (d := 23) rfl rfl (by simp [MR.size, hsz]) (by simp [MR.ev, MR.size, hsz, e2, f2', e3, f3, e9, f9])) (fun wq hw => MA.ex_load rfl (by simp [MR.ev, MR.size, hsz, e2, f2', e3, f3, e9, f9]) (MA.range_below hJ1.rng hw cl) Try.underlying47 rfl Try.sizeNC (RD.il_len c)) ?_
            refine MR.takeH (i := 8) (some 25) (.agg #[.int .i64 x0, .int .i64 (t : Int), .int .i64 x2]) rfl rfl (by kernel_rfl) (by kernel_rfl) (by kernel_rfl) (fun _ _ _ h => h) hS (MR.want (d := 23) rfl rfl (by simp [MR.size, hsz]) (by simp [MR.ev, MR.size, hsz, e2, f2', e3, f3, e9, f9])) (fun wq hw => by simp [execOp, MR.ev, MR.size, hsz, e2, f2', e3, f3, e9, f9, go_sem, (hw.cell (p := ⟨q, 0, none⟩) f7).trans f0, (hw.cell (p := ⟨q, 1, none⟩) f7).trans f1, (hw.cell (p := ⟨q, 2, none⟩) f7).trans f2]) ?_
            refine MR.takeH (i := 10) (some 27) (.pointer (some ⟨q, 1, none⟩)) rfl rfl (by kernel_rfl) (by kernel_rfl) (by kernel_rfl) (fun _ _ _ h => h) hS (MR.want (d := 23) rfl rfl (by simp [MR.size, hsz]) (by simp [MR.ev, MR.size, hsz, e2, f2', e3, f3, e9, f9])) (fun wq hw => by simp [execOp, MR.ev, MR.size, hsz, e2, f2', e3, f3, e9, f9, go_sem]) ?_
            refine MR.takeH (i := 11) (some 28) (.int .i64 (t : Int)) rfl rfl (by kernel_rfl) (by kernel_rfl) (by kernel_rfl) (fun _ _ _ h => h) hS (MR.want (d := 23) rfl rfl (by simp [MR.size, hsz]) (by simp [MR.ev, MR.size, hsz, e2, f2', e3, f3, e9, f9])) (fun wq hw => by simp [execOp, MR.ev, MR.size, hsz, e2, f2', e3, f3, e9, f9, (hw.cell (p := ⟨q, 1, none⟩) f7).trans f1, go_sem]) ?_
            refine MR.takeH (i := 12) (some 29) (.pointer (some ⟨cbx, t, none⟩)) rfl rfl (by kernel_rfl) (by kernel_rfl) (by kernel_rfl) (fun _ _ _ h => h) hS (MR.want (d := 23) rfl rfl (by simp [MR.size, hsz]) (by simp [MR.ev, MR.size, hsz, e2, f2', e3, f3, e9, f9])) (fun wq hw => by simp [execOp, MR.ev, MR.size, hsz, e2, f2', e3, f3, e9, f9, Try.underlying47, tt8, go_sem]) ?_
            refine MR.takeH (i := 13) (some 30) (.int .i64 z) rfl rfl (by kernel_rfl) (by kernel_rfl) (by kernel_rfl) (fun _ _ _ h => h) hS (MR.want (d := 23) rfl rfl (by simp [MR.size, hsz]) (by simp [MR.ev, MR.size, hsz, e2, f2', e3, f3, e9, f9])) (fun wq hw => by simp [execOp, MR.ev, MR.size, hsz, e2, f2', e3, f3, e9, f9, (hw.cell (p := ⟨cbx, t, none⟩) cl).trans jt, go_sem]) ?_
            refine MR.callH (i := 9) (some 26) (49) (#[.agg (RD.il c).toArray, .agg #[.int .i64 x0, .int .i64 (t : Int), .int .i64 x2]]) (by kernel_rfl) rfl rfl (MR.want (d := 23) rfl rfl (by simp [MR.size, hsz]) (by simp [MR.ev, MR.size, hsz, e2, f2', e3, f3, e9, f9])) (by simp [execOp, MR.ev, MR.size, hsz, e2, f2', e3, f3, e9, f9, go_sem]) ?_
            refine (OV1.out _).mono ?_
            rintro e w2 ⟨rfl, hb2⟩
            have hS2 : Below W1.heap.size W1 w2 := hS.trans (hb2.mono hS.size)
            refine ⟨_, rfl, hS2, ?_⟩
            refine MR.takeH (i := 14) (some 31) (.bool true) rfl rfl (by kernel_rfl) (by kernel_rfl) (by kernel_rfl) (fun _ _ _ h => h) hS2 (MR.want (d := 23) rfl rfl (by simp [MR.size, hsz]) (by simp [MR.ev, MR.size, hsz, e2, f2', e3, f3, e9, f9])) (fun wq hw => by simp [execOp, MR.ev, MR.size, hsz, e2, f2', e3, f3, e9, f9, go_sem]) ?_
            refine MR.takeH (i := 15) (some 32) (.bool true) rfl rfl (by kernel_rfl) (by kernel_rfl) (by kernel_rfl) (fun _ _ _ h => h) hS2 (MR.free rfl) (fun wq hw => by simp [execOp, MR.ev, MR.size, hsz, e2, f2', e3, f3, e9, f9, go_sem]) ?_
            refine MR.takeH (i := 16) (some 33) (.bool true) rfl rfl (by kernel_rfl) (by kernel_rfl) (by kernel_rfl) (fun _ _ _ h => h) hS2 (MR.free rfl) (fun wq hw => by simp [execOp, MR.ev, MR.size, hsz, e2, f2', e3, f3, e9, f9, go_sem]) ?_
            refine MR.takeH (i := 17) (some 34) (.slice (some ⟨nb, no, none⟩) ns.length cb) rfl rfl (by kernel_rfl) (by kernel_rfl) (by kernel_rfl) (fun _ _ _ h => h) hS2 (MR.want (d := 33) rfl rfl (by simp [MR.size, hsz]) (by simp [MR.ev, MR.size, hsz, e2, f2', e3, f3, e9, f9])) (fun wq hw => by simp [execOp, MR.ev, MR.size, hsz, e2, f2', e3, f3, e9, f9, go_sem]) ?_
            refine MR.takeH (i := 18) (some 35) (.pointer (some ⟨q, 0, none⟩)) rfl rfl (by kernel_rfl) (by kernel_rfl) (by kernel_rfl) (fun _ _ _ h => h) hS2 (MR.want (d := 33) rfl rfl (by simp [MR.size, hsz]) (by simp [MR.ev, MR.size, hsz, e2, f2', e3, f3, e9, f9])) (fun wq hw => by simp [execOp, MR.ev, MR.size, hsz, e2, f2', e3, f3, e9, f9, go_sem]) ?_
            refine MR.takeH (i := 19) (some 36) (.int .i64 x0) rfl rfl (by kernel_rfl) (by kernel_rfl) (by kernel_rfl) (fun _ _ _ h => h) hS2 (MR.want (d := 33) rfl rfl (by simp [MR.size, hsz]) (by simp [MR.ev, MR.size, hsz, e2, f2', e3, f3, e9, f9])) (fun wq hw => by simp [execOp, MR.ev, MR.size, hsz, e2, f2', e3, f3, e9, f9, (hw.cell (p := ⟨q, 0, none⟩) f7).trans f0, go_sem]) ?_
            refine MR.callH (i := 20) (some 37) (50) (#[.slice (some ⟨nb, no, none⟩) ns.length cb, .int .i64 x0]) (by kernel_rfl) rfl rfl (MR.want (d := 33) rfl rfl (by simp [MR.size, hsz]) (by simp [MR.ev, MR.size, hsz, e2, f2', e3, f3, e9, f9])) (by simp [execOp, MR.ev, MR.size, hsz, e2, f2', e3, f3, e9, f9, go_sem]) ?_
            refine (CT.out _ hS2).mono ?_
            rintro e w3 ⟨rfl, rfl⟩
            refine ⟨_, rfl, hS2, ?_⟩
            refine MR.takeH (i := 21) (some 38) (.bool false) rfl rfl (by kernel_rfl) (by kernel_rfl) (by kernel_rfl) (fun _ _ _ h => h) hS2 (MR.want (d := 33) rfl rfl (by simp [MR.size, hsz]) (by simp [MR.ev, MR.size, hsz, e2, f2', e3, f3, e9, f9])) (fun wq hw => by simp [execOp, MR.ev, MR.size, hsz, e2, f2', e3, f3, e9, f9, go_sem]) ?_
            refine MR.takeH (i := 22) (some 39) (.bool false) rfl rfl (by kernel_rfl) (by kernel_rfl) (by kernel_rfl) (fun _ _ _ h => h) hS2 (MR.free rfl) (fun wq hw => by simp [execOp, MR.ev, MR.size, hsz, e2, f2', e3, f3, e9, f9, go_sem]) ?_
            refine wpAnyH_done (by kernel_rfl) ?_ _
            rw [HA.out]
            simp only [Act.put, List.setIfInBounds_toArray, List.set_cons_succ, List.set_cons_zero]
            have HB3 : Hid (Below W0.heap.size W0 w2) := HBA.out.trans (hS2.mono HBA.out.size)
            clear HA hsz e2 f2' e3 f3 e9 f9 hS hS2 hb2
            clear HBA hJ1 j1 jt f0 f1 f2 f7 OV1 CT
            go_wp2
            go_roundw
            case rel => exact ⟨k + 1, by go_num, by omega, HNN, HB3.out⟩
            case measure => simp [intOf]; omega
        · have e2' : (z == zc) = false := by simpa using e2
          rw [decide_eq_false e2, Bool.false_and] at HT1
          have HNN : Hid (nh (k + 1)) := HN1.out HT1.out
          clear HT1 HY HN1
          refine MR.frame fun A hA => ?_
          have hsz : A.tmps.size = 42 := by rw [hA]; rfl
          have e2 : A.eval (.tmp 2) = .slice (some ⟨nb, no, none⟩) ns.length cb := by rw [hA]; rfl
          have f2' := MR.read (t := 2) (by rw [hsz]; decide) e2
          have e3 : A.eval (.tmp 3) = .pointer (some ⟨cbx, 0, none⟩) := by rw [hA]; rfl
          have f3 := MR.read (t := 3) (by rw [hsz]; decide) e3
          have e9 : A.eval (.tmp 9) = .pointer (some ⟨q, 0, none⟩) := by rw [hA]; rfl
          have f9 := MR.read (t := 9) (by rw [hsz]; decide) e9
          have HA : Hid (A = _) := hA
          clear hA
          have hS : (fun w' => Below W1.heap.size W1 w') (World.drew _) := (Below.refl _ W1).drew
          refine wp_region_held (S := fun w' => Below W1.heap.size W1 w') (by kernel_rfl) ?_
          change wpAnyH _ _ _ _ _ _ _ _ (World.drew _)
          refine MR.takeH (i := 0) (some 17) (.pointer (some ⟨q, 1, none⟩)) rfl rfl (by kernel_rfl) (by kernel_rfl) (by kernel_rfl) (fun _ _ _ h => h) hS (MR.free rfl) (fun wq hw => by simp [execOp, MR.ev, MR.size, hsz, e2, f2', e3, f3, e9, f9, go_sem]) ?_
          refine MR.takeH (i := 1) (some 18) (.int .i64 (t : Int)) rfl rfl (by kernel_rfl) (by kernel_rfl) (by kernel_rfl) (fun _ _ _ h => h) hS (MR.free rfl) (fun wq hw => by simp [execOp, MR.ev, MR.size, hsz, e2, f2', e3, f3, e9, f9, (hw.cell (p := ⟨q, 1, none⟩) f7).trans f1, go_sem]) ?_
          refine MR.takeH (i := 2) (some 19) (.slice (some ⟨nb, no, none⟩) ns.length cb) rfl rfl (by kernel_rfl) (by kernel_rfl) (by kernel_rfl) (fun _ _ _ h => h) hS (MR.free rfl) (fun wq hw => by simp [execOp, MR.ev, MR.size, hsz, e2, f2', e3, f3, e9, f9, go_sem]) ?_
          refine MR.takeH (i := 3) (some 20) (.pointer (some ⟨nb, no, none⟩)) rfl rfl (by kernel_rfl) (by kernel_rfl) (by kernel_rfl) (fun _ _ _ h => h) hS (MR.free rfl) (fun wq hw => by simp [execOp, MR.ev, MR.size, hsz, e2, f2', e3, f3, e9, f9, Try.underlying32, hnpi, hnp, go_sem]) ?_
          refine MR.takeH (i := 4) (some 21) (.int .i64 (t : Int)) rfl rfl (by kernel_rfl) (by kernel_rfl) (by kernel_rfl) (fun _ _ _ h => h) hS (MR.free rfl) (fun wq hw => by simp [execOp, MR.ev, MR.size, hsz, e2, f2', e3, f3, e9, f9, (hw.cell (p := ⟨nb, no, none⟩) jl).trans j1, go_sem]) ?_
          refine MR.takeH (i := 5) (some 22) (.bool true) rfl rfl (by kernel_rfl) (by kernel_rfl) (by kernel_rfl) (fun _ _ _ h => h) hS (MR.free rfl) (fun wq hw => by simp [execOp, MR.ev, MR.size, hsz, e2, f2', e3, f3, e9, f9, go_sem]) ?_
          refine MR.takeH (i := 6) (some 23) (.bool true) rfl rfl (by kernel_rfl) (by kernel_rfl) (by kernel_rfl) (fun _ _ _ h => h) hS (MR.free rfl) (fun wq hw => by simp [execOp, MR.ev, MR.size, hsz, e2, f2', e3, f3, e9, f9, go_sem]) ?_
          refine MR.takeH (i := 7) (some 24) (.agg (RD.il c).toArray) rfl rfl (by kernel_rfl) (by kernel_rfl) (by kernel_rfl) (fun _ _ _ h => h) hS (MR.want (d := 23) rfl rfl (by simp [MR.size, hsz]) (by simp [MR.ev, MR.size, hsz, e2, f2', e3, f3, e9, f9])) (fun wq hw => MA.ex_load rfl (by simp [MR.ev, MR.size, hsz, e2, f2', e3, f3, e9, f9]) (MA.range_below hJ1.rng hw cl) Try.underlying47 rfl Try.sizeNC (RD.il_len c)) ?_
          refine MR.takeH (i := 8) (some 25) (.agg #[.int .i64 x0, .int .i64 (t : Int), .int .i64 x2]) rfl rfl (by kernel_rfl) (by kernel_rfl) (by kernel_rfl) (fun _ _ _ h => h) hS (MR.want (d := 23) rfl rfl (by simp [MR.size, hsz]) (by simp [MR.ev, MR.size, hsz, e2, f2', e3, f3, e9, f9])) (fun wq hw => by simp [execOp, MR.ev, MR.size, hsz, e2, f2', e3, f3, e9, f9, go_sem, (hw.cell (p := ⟨q, 0, none⟩) f7).trans f0, (hw.cell (p := ⟨q, 1, none⟩) f7).trans f1, (hw.cell (p := ⟨q, 2, none⟩) f7).trans f2]) ?_
          refine MR.takeH (i := 10) (some 27) (.pointer (some ⟨q, 1, none⟩)) rfl rfl (by kernel_rfl) (by kernel_rfl) (by kernel_rfl) (fun _ _ _ h => h) hS (MR.want (d := 23) rfl rfl (by simp [MR.size, hsz]) (by simp [MR.ev, MR.size, hsz, e2, f2', e3, f3, e9, f9])) (fun wq hw => by simp [execOp, MR.ev, MR.size, hsz, e2, f2', e3, f3, e9, f9, go_sem]) ?_
          refine MR.takeH (i := 11) (some 28) (.int .i64 (t : Int)) rfl rfl (by kernel_rfl) (by kernel_rfl) (by kernel_rfl) (fun _ _ _ h => h) hS (MR.want (d := 23) rfl rfl (by simp [MR.size, hsz]) (by simp [MR.ev, MR.size, hsz, e2, f2', e3, f3, e9, f9])) (fun wq hw => by simp [execOp, MR.ev, MR.size, hsz, e2, f2', e3, f3, e9, f9, (hw.cell (p := ⟨q, 1, none⟩) f7).trans f1, go_sem]) ?_
          refine MR.takeH (i := 12) (some 29) (.pointer (some ⟨cbx, t, none⟩)) rfl rfl (by kernel_rfl) (by kernel_rfl) (by kernel_rfl) (fun _ _ _ h => h) hS (MR.want (d := 23) rfl rfl (by simp [MR.size, hsz]) (by simp [MR.ev, MR.size, hsz, e2, f2', e3, f3, e9, f9])) (fun wq hw => by simp [execOp, MR.ev, MR.size, hsz, e2, f2', e3, f3, e9, f9, Try.underlying47, tt8, go_sem]) ?_
          refine MR.takeH (i := 13) (some 30) (.int .i64 zc) rfl rfl (by kernel_rfl) (by kernel_rfl) (by kernel_rfl) (fun _ _ _ h => h) hS (MR.want (d := 23) rfl rfl (by simp [MR.size, hsz]) (by simp [MR.ev, MR.size, hsz, e2, f2', e3, f3, e9, f9])) (fun wq hw => by simp [execOp, MR.ev, MR.size, hsz, e2, f2', e3, f3, e9, f9, (hw.cell (p := ⟨cbx, t, none⟩) cl).trans jt, go_sem]) ?_
          refine MR.callH (i := 9) (some 26) (49) (#[.agg (RD.il c).toArray, .agg #[.int .i64 x0, .int .i64 (t : Int), .int .i64 x2]]) (by kernel_rfl) rfl rfl (MR.want (d := 23) rfl rfl (by simp [MR.size, hsz]) (by simp [MR.ev, MR.size, hsz, e2, f2', e3, f3, e9, f9])) (by simp [execOp, MR.ev, MR.size, hsz, e2, f2', e3, f3, e9, f9, go_sem]) ?_
          refine (OV1.out _).mono ?_
          rintro e w2 ⟨rfl, hb2⟩
          have hS2 : Below W1.heap.size W1 w2 := hS.trans (hb2.mono hS.size)
          refine ⟨_, rfl, hS2, ?_⟩
          refine MR.takeH (i := 14) (some 31) (.bool false) rfl rfl (by kernel_rfl) (by kernel_rfl) (by kernel_rfl) (fun _ _ _ h => h) hS2 (MR.want (d := 23) rfl rfl (by simp [MR.size, hsz]) (by simp [MR.ev, MR.size, hsz, e2, f2', e3, f3, e9, f9])) (fun wq hw => by simp [execOp, MR.ev, MR.size, hsz, e2, f2', e3, f3, e9, f9, e2', go_sem]) ?_
          refine MR.takeH (i := 15) (some 32) (.bool false) rfl rfl (by kernel_rfl) (by kernel_rfl) (by kernel_rfl) (fun _ _ _ h => h) hS2 (MR.free rfl) (fun wq hw => by simp [execOp, MR.ev, MR.size, hsz, e2, f2', e3, f3, e9, f9, go_sem]) ?_
          refine MR.takeH (i := 16) (some 33) (.bool false) rfl rfl (by kernel_rfl) (by kernel_rfl) (by kernel_rfl) (fun _ _ _ h => h) hS2 (MR.free rfl) (fun wq hw => by simp [execOp, MR.ev, MR.size, hsz, e2, f2', e3, f3, e9, f9, go_sem]) ?_
          refine MR.skipH (i := 17) (some 34) rfl rfl (by kernel_rfl) (by kernel_rfl) (by kernel_rfl) (fun _ _ _ h => h) hS2 (MR.unwant (d := 33) (b' := false) rfl rfl (by simp [MR.size, hsz]) (by simp [MR.ev, MR.size, hsz, e2, f2', e3, f3, e9, f9]) (by decide)) ?_
          refine MR.skipH (i := 18) (some 35) rfl rfl (by kernel_rfl) (by kernel_rfl) (by kernel_rfl) (fun _ _ _ h => h) hS2 (MR.unwant (d := 33) (b' := false) rfl rfl (by simp [MR.size, hsz]) (by simp [MR.ev, MR.size, hsz, e2, f2', e3, f3, e9, f9]) (by decide)) ?_
          refine MR.skipH (i := 19) (some 36) rfl rfl (by kernel_rfl) (by kernel_rfl) (by kernel_rfl) (fun _ _ _ h => h) hS2 (MR.unwant (d := 33) (b' := false) rfl rfl (by simp [MR.size, hsz]) (by simp [MR.ev, MR.size, hsz, e2, f2', e3, f3, e9, f9]) (by decide)) ?_
          refine MR.skipH (i := 20) (some 37) rfl rfl (by kernel_rfl) (by kernel_rfl) (by kernel_rfl) (fun _ _ _ h => h) hS2 (MR.unwant (d := 33) (b' := false) rfl rfl (by simp [MR.size, hsz]) (by simp [MR.ev, MR.size, hsz, e2, f2', e3, f3, e9, f9]) (by decide)) ?_
          refine MR.skipH (i := 21) (some 38) rfl rfl (by kernel_rfl) (by kernel_rfl) (by kernel_rfl) (fun _ _ _ h => h) hS2 (MR.unwant (d := 33) (b' := false) rfl rfl (by simp [MR.size, hsz]) (by simp [MR.ev, MR.size, hsz, e2, f2', e3, f3, e9, f9]) (by decide)) ?_
          refine MR.takeH (i := 22) (some 39) (.bool false) rfl rfl (by kernel_rfl) (by kernel_rfl) (by kernel_rfl) (fun _ _ _ h => h) hS2 (MR.free rfl) (fun wq hw => by simp [execOp, MR.ev, MR.size, hsz, e2, f2', e3, f3, e9, f9, go_sem]) ?_
          refine wpAnyH_done (by kernel_rfl) ?_ _
          rw [HA.out]
          simp only [Act.put, List.setIfInBounds_toArray, List.set_cons_succ, List.set_cons_zero]
          have HB3 : Hid (Below W0.heap.size W0 w2) := HBA.out.trans (hS2.mono HBA.out.size)
          clear HA hsz e2 f2' e3 f3 e9 f9 hS hS2 hb2
          clear HBA hJ1 j1 jt f0 f1 f2 f7 OV1 CT
          go_wp2
          go_roundw
          case rel => exact ⟨k + 1, by go_num, by omega, HNN, HB3.out⟩
          case measure => simp [intOf]; omega
      · have e1' : ((t : Int) == at_) = false := by simpa using e1
        rw [decide_eq_false e1, Bool.false_and, Bool.false_and] at HT1
        have HNN : Hid (nh (k + 1)) := HN1.out HT1.out
        clear HT1 HY HN1
        refine MR.frame fun A hA => ?_
        have hsz : A.tmps.size = 42 := by rw [hA]; rfl
        have e2 : A.eval (.tmp 2) = .slice (some ⟨nb, no, none⟩) ns.length cb := by rw [hA]; rfl
        have f2' := MR.read (t := 2) (by rw [hsz]; decide) e2
        have e3 : A.eval (.tmp 3) = .pointer (some ⟨cbx, 0, none⟩) := by rw [hA]; rfl
        have f3 := MR.read (t := 3) (by rw [hsz]; decide) e3
        have e9 : A.eval (.tmp 9) = .pointer (some ⟨q, 0, none⟩) := by rw [hA]; rfl
        have f9 := MR.read (t := 9) (by rw [hsz]; decide) e9
        have HA : Hid (A = _) := hA
        clear hA
        have hS : (fun w' => Below W1.heap.size W1 w') (World.drew _) := (Below.refl _ W1).drew
        refine wp_region_held (S := fun w' => Below W1.heap.size W1 w') (by kernel_rfl) ?_
        change wpAnyH _ _ _ _ _ _ _ _ (World.drew _)
        refine MR.takeH (i := 0) (some 17) (.pointer (some ⟨q, 1, none⟩)) rfl rfl (by kernel_rfl) (by kernel_rfl) (by kernel_rfl) (fun _ _ _ h => h) hS (MR.free rfl) (fun wq hw => by simp [execOp, MR.ev, MR.size, hsz, e2, f2', e3, f3, e9, f9, go_sem]) ?_
        refine MR.takeH (i := 1) (some 18) (.int .i64 (t : Int)) rfl rfl (by kernel_rfl) (by kernel_rfl) (by kernel_rfl) (fun _ _ _ h => h) hS (MR.free rfl) (fun wq hw => by simp [execOp, MR.ev, MR.size, hsz, e2, f2', e3, f3, e9, f9, (hw.cell (p := ⟨q, 1, none⟩) f7).trans f1, go_sem]) ?_
        refine MR.takeH (i := 2) (some 19) (.slice (some ⟨nb, no, none⟩) ns.length cb) rfl rfl (by kernel_rfl) (by kernel_rfl) (by kernel_rfl) (fun _ _ _ h => h) hS (MR.free rfl) (fun wq hw => by simp [execOp, MR.ev, MR.size, hsz, e2, f2', e3, f3, e9, f9, go_sem]) ?_
        refine MR.takeH (i := 3) (some 20) (.pointer (some ⟨nb, no, none⟩)) rfl rfl (by kernel_rfl) (by kernel_rfl) (by kernel_rfl) (fun _ _ _ h => h) hS (MR.free rfl) (fun wq hw => by simp [execOp, MR.ev, MR.size, hsz, e2, f2', e3, f3, e9, f9, Try.underlying32, hnpi, hnp, go_sem]) ?_
        refine MR.takeH (i := 4) (some 21) (.int .i64 at_) rfl rfl (by kernel_rfl) (by kernel_rfl) (by kernel_rfl) (fun _ _ _ h => h) hS (MR.free rfl) (fun wq hw => by simp [execOp, MR.ev, MR.size, hsz, e2, f2', e3, f3, e9, f9, (hw.cell (p := ⟨nb, no, none⟩) jl).trans j1, go_sem]) ?_
        refine MR.takeH (i := 5) (some 22) (.bool false) rfl rfl (by kernel_rfl) (by kernel_rfl) (by kernel_rfl) (fun _ _ _ h => h) hS (MR.free rfl) (fun wq hw => by simp [execOp, MR.ev, MR.size, hsz, e2, f2', e3, f3, e9, f9, e1', go_sem]) ?_
        refine MR.takeH (i := 6) (some 23) (.bool false) rfl rfl (by kernel_rfl) (by kernel_rfl) (by kernel_rfl) (fun _ _ _ h => h) hS (MR.free rfl) (fun wq hw => by simp [execOp, MR.ev, MR.size, hsz, e2, f2', e3, f3, e9, f9, go_sem]) ?_
        refine MR.skipH (i := 7) (some 24) rfl rfl (by kernel_rfl) (by kernel_rfl) (by kernel_rfl) (fun _ _ _ h => h) hS (MR.unwant (d := 23) (b' := false) rfl rfl (by simp [MR.size, hsz]) (by simp [MR.ev, MR.size, hsz, e2, f2', e3, f3, e9, f9]) (by decide)) ?_
        refine MR.skipH (i := 8) (some 25) rfl rfl (by kernel_rfl) (by kernel_rfl) (by kernel_rfl) (fun _ _ _ h => h) hS (MR.unwant (d := 23) (b' := false) rfl rfl (by simp [MR.size, hsz]) (by simp [MR.ev, MR.size, hsz, e2, f2', e3, f3, e9, f9]) (by decide)) ?_
        refine MR.skipH (i := 9) (some 26) rfl rfl (by kernel_rfl) (by kernel_rfl) (by kernel_rfl) (fun _ _ _ h => h) hS (MR.unwant (d := 23) (b' := false) rfl rfl (by simp [MR.size, hsz]) (by simp [MR.ev, MR.size, hsz, e2, f2', e3, f3, e9, f9]) (by decide)) ?_
        refine MR.skipH (i := 10) (some 27) rfl rfl (by kernel_rfl) (by kernel_rfl) (by kernel_rfl) (fun _ _ _ h => h) hS (MR.unwant (d := 23) (b' := false) rfl rfl (by simp [MR.size, hsz]) (by simp [MR.ev, MR.size, hsz, e2, f2', e3, f3, e9, f9]) (by decide)) ?_
        refine MR.skipH (i := 11) (some 28) rfl rfl (by kernel_rfl) (by kernel_rfl) (by kernel_rfl) (fun _ _ _ h => h) hS (MR.unwant (d := 23) (b' := false) rfl rfl (by simp [MR.size, hsz]) (by simp [MR.ev, MR.size, hsz, e2, f2', e3, f3, e9, f9]) (by decide)) ?_
        refine MR.skipH (i := 12) (some 29) rfl rfl (by kernel_rfl) (by kernel_rfl) (by kernel_rfl) (fun _ _ _ h => h) hS (MR.unwant (d := 23) (b' := false) rfl rfl (by simp [MR.size, hsz]) (by simp [MR.ev, MR.size, hsz, e2, f2', e3, f3, e9, f9]) (by decide)) ?_
        refine MR.skipH (i := 13) (some 30) rfl rfl (by kernel_rfl) (by kernel_rfl) (by kernel_rfl) (fun _ _ _ h => h) hS (MR.unwant (d := 23) (b' := false) rfl rfl (by simp [MR.size, hsz]) (by simp [MR.ev, MR.size, hsz, e2, f2', e3, f3, e9, f9]) (by decide)) ?_
        refine MR.skipH (i := 14) (some 31) rfl rfl (by kernel_rfl) (by kernel_rfl) (by kernel_rfl) (fun _ _ _ h => h) hS (MR.unwant (d := 23) (b' := false) rfl rfl (by simp [MR.size, hsz]) (by simp [MR.ev, MR.size, hsz, e2, f2', e3, f3, e9, f9]) (by decide)) ?_
        refine MR.takeH (i := 15) (some 32) (.bool false) rfl rfl (by kernel_rfl) (by kernel_rfl) (by kernel_rfl) (fun _ _ _ h => h) hS (MR.free rfl) (fun wq hw => by simp [execOp, MR.ev, MR.size, hsz, e2, f2', e3, f3, e9, f9, go_sem]) ?_
        refine MR.takeH (i := 16) (some 33) (.bool false) rfl rfl (by kernel_rfl) (by kernel_rfl) (by kernel_rfl) (fun _ _ _ h => h) hS (MR.free rfl) (fun wq hw => by simp [execOp, MR.ev, MR.size, hsz, e2, f2', e3, f3, e9, f9, go_sem]) ?_
        refine MR.skipH (i := 17) (some 34) rfl rfl (by kernel_rfl) (by kernel_rfl) (by kernel_rfl) (fun _ _ _ h => h) hS (MR.unwant (d := 33) (b' := false) rfl rfl (by simp [MR.size, hsz]) (by simp [MR.ev, MR.size, hsz, e2, f2', e3, f3, e9, f9]) (by decide)) ?_
        refine MR.skipH (i := 18) (some 35) rfl rfl (by kernel_rfl) (by kernel_rfl) (by kernel_rfl) (fun _ _ _ h => h) hS (MR.unwant (d := 33) (b' := false) rfl rfl (by simp [MR.size, hsz]) (by simp [MR.ev, MR.size, hsz, e2, f2', e3, f3, e9, f9]) (by decide)) ?_
        refine MR.skipH (i := 19) (some 36) rfl rfl (by kernel_rfl) (by kernel_rfl) (by kernel_rfl) (fun _ _ _ h => h) hS (MR.unwant (d := 33) (b' := false) rfl rfl (by simp [MR.size, hsz]) (by simp [MR.ev, MR.size, hsz, e2, f2', e3, f3, e9, f9]) (by decide)) ?_
        refine MR.skipH (i := 20) (some 37) rfl rfl (by kernel_rfl) (by kernel_rfl) (by kernel_rfl) (fun _ _ _ h => h) hS (MR.unwant (d := 33) (b' := false) rfl rfl (by simp [MR.size, hsz]) (by simp [MR.ev, MR.size, hsz, e2, f2', e3, f3, e9, f9]) (by decide)) ?_
        refine MR.skipH (i := 21) (some 38) rfl rfl (by kernel_rfl) (by kernel_rfl) (by kernel_rfl) (fun _ _ _ h => h) hS (MR.unwant (d := 33) (b' := false) rfl rfl (by simp [MR.size, hsz]) (by simp [MR.ev, MR.size, hsz, e2, f2', e3, f3, e9, f9]) (by decide)) ?_
        refine MR.takeH (i := 22) (some 39) (.bool false) rfl rfl (by kernel_rfl) (by kernel_rfl) (by kernel_rfl) (fun _ _ _ h => h) hS (MR.free rfl) (fun wq hw => by simp [execOp, MR.ev, MR.size, hsz, e2, f2', e3, f3, e9, f9, go_sem]) ?_
        refine wpAnyH_done (by kernel_rfl) ?_ _
        rw [HA.out]
        simp only [Act.put, List.setIfInBounds_toArray, List.set_cons_succ, List.set_cons_zero]
        have HB3 : Hid (Below W0.heap.size W0 W1.drew) := HBA.out.trans (hS.mono HBA.out.size)
        clear HA hsz e2 f2' e3 f3 e9 f9 hS 
        generalize World.drew W1 = W5 at *
        clear HBA hJ1 j1 jt f0 f1 f2 f7 OV1 CT
        go_wp2
        go_roundw
        case rel => exact ⟨k + 1, by go_num, by omega, HNN, HB3.out⟩
        case measure => simp [intOf]; omega
    · obtain rfl : k = xs.length := by omega
      obtain rfl : O = none := HBN.out hN.out
      have HBW : Hid _ := HB0'.out.trans (hb.mono HB0'.out.size)
      clear hN HHT HBS HNS HI0 OV HBN HJ0 HN0 HC0 HNL HG hb
      go_wp2
      go_ret2
      exact ⟨rfl, HBW.out⟩
namespace RD
/-- The way and the nodes in two rows of the call's own, the costs in a box. -/
structure WB (w W : World) (B cb gw cw gn cn : Nat) (c : Cs) (way ns : List Int) : Prop where
  wy : W.ownsRow B 3 1 (.slice (some ⟨gw, 0, none⟩) way.length cw) way.length (M4.iv way)
  nd : W.ownsRow B 3 1 (.slice (some ⟨gn, 0, none⟩) ns.length cn) ns.length (M4.iv ns)
  ne : gw ≠ gn
  c : MA.Rg W cb 0 (il c)
  lt : cb < B
  le : w.heap.size ≤ B
  sz : B ≤ W.heap.size
  bl : Below w.heap.size w W
theorem WB.kept {w W W' : World} {B cb gw cw gn cn : Nat} {c : Cs} {way ns : List Int} (h : WB w W B cb gw cw gn cn c way ns) (hb : Below W.heap.size W W') : WB w W' B cb gw cw gn cn c way ns :=
  ⟨M5.own_below h.wy hb, M5.own_below h.nd hb, h.ne, h.c.below hb h.c.lt, h.lt, h.le, Nat.le_trans h.sz hb.size, h.bl.trans (hb.mono h.bl.size)⟩
theorem WB.way {w W W' : World} {B cb gw cw gn cn g1 c1 : Nat} {c : Cs} {way ns : List Int} {k : Int} (h : WB w W B cb gw cw gn cn c way ns) (ho : W'.ownsRow B 3 1 (.slice (some ⟨g1, 0, none⟩) (way.length + 1) c1) (way.length + 1) (M4.iv (k :: way))) (hg : g1 = gw ∨ W.heap.size ≤ g1) (hO : MC.Only gw W W') : WB w W' B cb g1 c1 gn cn c (k :: way) ns := by
  have h1 := (h.wy.lt gw rfl).1
  have h2 := h.nd.lt gn rfl
  have h3 := h.le
  have hb : Below B W W' := hO.below h1 h.sz
  refine ⟨ho, NR.own_only h.nd hO (fun e => by simp only [Value.ownBlock, Option.some.injEq] at e; exact h.ne e.symm), ?_, h.c.below hb h.lt, h.lt, h.le, Nat.le_trans h.sz hO.size, h.bl.trans (hb.mono h.le)⟩
  rcases hg with rfl | hg
  · exact h.ne
  · omega
theorem WB.nodes {w W W' : World} {B cb gw cw gn cn g1 c1 : Nat} {c : Cs} {way ns : List Int} {k : Int} (h : WB w W B cb gw cw gn cn c way ns) (ho : W'.ownsRow B 3 1 (.slice (some ⟨g1, 0, none⟩) (ns.length + 1) c1) (ns.length + 1) (M4.iv (k :: ns))) (hg : g1 = gn ∨ W.heap.size ≤ g1) (hO : MC.Only gn W W') : WB w W' B cb gw cw g1 c1 c way (k :: ns) := by
  have h1 := (h.nd.lt gn rfl).1
  have h2 := h.wy.lt gw rfl
  have h3 := h.le
  have hb : Below B W W' := hO.below h1 h.sz
  refine ⟨NR.own_only h.wy hO (fun e => by simp only [Value.ownBlock, Option.some.injEq] at e; exact h.ne e), ho, ?_, h.c.below hb h.lt, h.lt, h.le, Nat.le_trans h.sz hO.size, h.bl.trans (hb.mono h.le)⟩
  rcases hg with rfl | hg
  · exact h.ne
  · omega
theorem wb_new (w : World) (t : TypeId) (c : Cs) (to : Int) : WB w (((w.alloc (.cells (il c).toArray t)).alloc (.cells #[] 3)).alloc (.cells #[.int .i64 to] 3)) (w.heap.size + 1) w.heap.size (w.heap.size + 1) 0 (w.heap.size + 1 + 1) 1 c [] [to] := by
  have s1 : (w.alloc (.cells (il c).toArray t)).heap.size = w.heap.size + 1 := by simp
  have s2 : ((w.alloc (.cells (il c).toArray t)).alloc (.cells #[] 3)).heap.size = w.heap.size + 1 + 1 := by simp
  have o1 := (World.ownsRow_lit (base := w.heap.size + 1) (e := 3) (size := 1) (w.alloc (.cells (il c).toArray t)) #[] 0 (by rw [s1]; omega) (by unfold maxLen; omega) (by simp)).alloc (.cells #[.int .i64 to] 3)
  have o2 := World.ownsRow_lit (base := w.heap.size + 1) (e := 3) (size := 1) ((w.alloc (.cells (il c).toArray t)).alloc (.cells #[] 3)) #[.int .i64 to] 1 (by rw [s2]; omega) (by unfold maxLen; omega) (by simp)
  rw [s1] at o1
  rw [s2] at o2
  exact ⟨by simpa [M4.iv] using o1, by simpa [M4.iv] using o2, by omega, ((MA.Rg.new w (il c) t).alloc _).alloc _, by omega, by omega, by simp <;> omega, (((Below.refl _ w).alloc (Nat.le_refl _) _).alloc (by simp) _).alloc (by simp <;> omega) _⟩
end RD
set_option linter.unusedSimpArgs false in
set_option maxHeartbeats 3200000 in
set_option maxRecDepth 100000 in
theorem wayBack_any (c : RD.Cs) (a : Option Addr) (cap : Nat) (xs : List I3) (f t : Int) (w : World) (hn : xs.length ≤ 1048576) (hg : RD.Gd xs) (hc : RD.Sm c) (hin : MI3.RowAt w a xs) (h0 : 0 ≤ t) (h1 : t ≤ 7) (hnf : c t.toNat ≠ RD.far) (R : Option (List Int)) (hR : Hid (RD.wy xs c f 8 t [] [t] = R)) :
    Calls Try.prog 35 #[.agg (RD.il c).toArray, .slice a xs.length cap, .int .i64 f, .int .i64 t] w fun e w' => ∃ a1 c1, e = .returned (.tuple #[.slice a1 (R.getD []).length c1, .bool R.isSome]) ∧ w'.ownsRow w.heap.size 3 1 (.slice a1 (R.getD []).length c1) (R.getD []).length (M4.iv (R.getD [])) ∧ Below w.heap.size w w' := by
  have HI : Hid (MI3.RowAt w a xs) := hin
  have RB : Hid _ := fun (b : Option Addr) (cb : Nat) (ns : List Int) (at_ : Int) (W : World) (hnl : ns.length ≤ 1048576) (hr : MI3.RowAt W a xs) (hs : M4.IntsAt W b ns) (h0 : ns[0]? = some at_) => roadBack_any c a b cap cb xs ns at_ W hn hnl hg hc hr hs h0 _ rfl
  have HON : Hid (RD.On xs c f R t [] [t]) := by rw [← hR.out]; exact RD.on_start h0 h1 hnf
  have HST : Hid _ := fun (at_ : Int) (way ns : List Int) (h : RD.On xs c f R at_ way ns) (hf : at_ ≠ f) (k : Nat) (hb : RD.bk xs c at_ ns = some k) => RD.On.step hg h hf hb
  have HW0 : Hid _ := RD.wb_new w 47 c t
  clear hin hg hc h0 h1 hnf hR
  go_enter Try.func35, Try.ntmps35
  go_wp2
  generalize ((w.alloc (.cells (RD.il c).toArray 47)).alloc (.cells #[] 3)).alloc (.cells #[.int .i64 t] 3) = W0 at *
  generalize w.heap.size + 1 + 1 = gn0 at *
  generalize hB : w.heap.size + 1 = B at *
  obtain ⟨cbx, hcb⟩ : ∃ cbx, w.heap.size = cbx := ⟨_, rfl⟩
  have HW1 : Hid (RD.WB w W0 B cbx B 0 gn0 1 c [] [t]) := by rw [← hcb]; exact HW0.out
  clear HW0
  go_loopw [10, 11] (fun wv nv wr => ∃ (way ns : List Int) (at_ : Int) (gw cw gn cn : Nat), wv = .slice (some ⟨gw, 0, none⟩) way.length cw ∧ nv = .slice (some ⟨gn, 0, none⟩) ns.length cn ∧ Hid (RD.On xs c f R at_ way ns) ∧ Hid (RD.WB w wr B w.heap.size gw cw gn cn c way ns)) (fun _ nv _ => 9 - RD.slen nv)
  case atStart => exact ⟨[], [t], t, B, 0, gn0, 1, rfl, rfl, HON, by rw [hcb]; exact HW1⟩
  case round =>
    clear HW1 HON hB
    obtain ⟨way, ns, at_, gw, cw, gn, cn, rfl, rfl, hON, hWB⟩ := hrel
    rw [hcb] at hWB ⊢
    have hle := hON.out.le
    have hlen := hON.out.len
    have hwl : way.length ≤ 7 := by omega
    have hnp : 0 < ns.length := by omega
    have hnpi : (0 : Int) < (ns.length : Int) := by omega
    have hns8 : (ns.length : Int) ≤ 8 := by omega
    have HLen : Hid _ := hlen
    have hgn := (hWB.out.nd.lt gn rfl).2
    have h0c : wr.cell? ⟨gn, 0, none⟩ = some (.int .i64 at_) := by
      rw [hWB.out.nd.cellAt 0 (by omega)]
      exact M4.iv_get _ _ _ hON.out.hd
    clear hlen
    by_cases hf : at_ = f
    · have hR : R = some way := by subst hf; exact hON.out.end
      subst hf
      have HO : Hid _ := RD.own_base hWB.out.wy hWB.out.le
      have HB : Hid _ := hWB.out.bl
      clear RB HST HI hON hWB
      have HRR : Hid (R = some way) := hR
      clear hR
      generalize hwl2 : way.length = wl at *
      have HWL : Hid _ := hwl2
      clear hwl2
      go_wp2
      go_ret2
      obtain rfl : R = some way := HRR.out
      exact ⟨_, cw, by rw [show (some way).getD [] = way from rfl, HWL.out]; rfl, by rw [show (some way).getD [] = way from rfl, HWL.out]; exact HO.out, HB.out⟩
    · have hf' : (at_ == f) = false := by simpa using hf
      have HRc : Hid (MA.Rg wr cbx 0 (RD.il c)) := hWB.out.c
      have RB1 : Hid _ := RB.out (some ⟨gn, 0, none⟩) cn ns at_ wr (by omega) (HI.out.below hWB.out.bl) (M5.own_ints hWB.out.nd) hON.out.hd
      go_wp2_with (refine MA.load_m rfl 47 _ rfl rfl (cs := RD.il c) ?_ Try.underlying47 rfl Try.sizeNC (RD.il_len _) ?_; exact HRc.out; clear HRc)
      refine Calls.mono RB1.out ?_
      rintro e w2 ⟨rfl, hb2⟩
      clear RB1 h0c hgn
      have HW2 : Hid _ := hWB.out.kept hb2
      clear hb2 hWB
      cases hbk : RD.bk xs c at_ ns with
      | none =>
        have HRN : Hid (R = none) := hON.out.stop hf hbk
        have HB : Hid _ := HW2.out.bl
        clear hbk hON RB HST HI HW2
        rw [show RD.bkN none = 0 from rfl, show (none : Option Nat).isSome = false from rfl]
        go_wp2
        go_ret2
        obtain rfl : R = none := HRN.out
        exact ⟨none, 0, rfl, World.ownsRow_nil _ _ _ _, HB.out⟩
      | some k =>
        have HON2 : Hid _ := HST.out at_ way ns hON.out hf k hbk
        have hkx : k < xs.length := (RD.bk_is hbk).1
        have hkxi : (k : Int) < (xs.length : Int) := by omega
        clear hbk hON
        rw [show RD.bkN (some k) = (k : Int) from rfl, show (some k).isSome = true from rfl]
        have IN1 : Hid _ := insertsO B gw cw way (k : Int) w2 HW2.out.sz HW2.out.wy (by omega)
        generalize hwl2 : way.length = wl at *
        generalize hnl2 : ns.length = nl at *
        have HWL : Hid _ := hwl2
        have HNL : Hid _ := hnl2
        clear hwl2 hnl2
        go_wp2_with fail
        refine Calls.mono IN1.out ?_
        rintro e w3 ⟨g1, c1, rfl, ho3, hg3, hO3⟩
        have HW3 : Hid (RD.WB w w3 B cbx g1 c1 gn cn c ((k : Int) :: way) ns) := HW2.out.way (by rw [HWL.out]; exact ho3) hg3 hO3
        clear ho3 hg3 hO3 IN1 HW2
        obtain ⟨b1, off, hab, hlt, c0, -, -⟩ := (HI.out.below HW3.out.bl).at hkx
        generalize (MI3.at_ xs k).a0 = x0 at *
        subst hab
        have IN2 : Hid _ := insertsO B gn cn ns x0 w3 HW3.out.sz HW3.out.nd (by have := HNL.out; omega)
        rw [HNL.out] at IN2
        go_wp2_with fail
        refine Calls.mono IN2.out ?_
        rintro e w4 ⟨g2, c2, rfl, ho4, hg4, hO4⟩
        have HW4 : Hid (RD.WB w w4 B cbx g1 c1 g2 c2 c ((k : Int) :: way) (x0 :: ns)) := HW3.out.nodes (by rw [HNL.out]; exact ho4) hg4 hO4
        clear ho4 hg4 hO4 IN2 HW3 c0 hlt
        go_wp2
        go_roundw
        case rel => exact ⟨(k : Int) :: way, x0 :: ns, x0, g1, c1, g2, c2, by rw [List.length_cons, HWL.out], by rw [List.length_cons, HNL.out], HON2, HW4⟩
        case measure => have := HNL.out; simp only [RD.slen]; omega
end Go.Proofs.Ytclhfhjkcocdcaa
