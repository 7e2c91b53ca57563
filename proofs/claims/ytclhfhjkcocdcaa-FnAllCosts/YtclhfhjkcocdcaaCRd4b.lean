/- Costs from a node: costsFrom of the program. -/
import Derived.Test.YtclhfhjkcocdcaaRows
import Derived.Test.YtclhfhjkcocdcaaCRd4
import Derived.WalkKit
import Derived.WalkSpells
import Derived.WalkLawsBesides
import Derived.Outline
namespace Go.Proofs.Ytclhfhjkcocdcaa
open Go.RowKit
set_option linter.unusedSimpArgs false in
set_option maxHeartbeats 1600000 in
set_option maxRecDepth 100000 in
theorem costsFrom_any (a : Option Addr) (cap : Nat) (xs : List I3) (fn : Nat) (w : World) (hn : xs.length ≤ 1048576) (hg : RD.Gd xs) (hfn : fn < 8) (hin : MI3.RowAt w a xs) (F : RD.Cs) (hF : Hid ((RD.settle xs 8 (RD.start fn)).1 = F)) :
    Calls Try.prog 25 #[.slice a xs.length cap, .int .i64 (fn : Int)] w fun e w' => e = .returned (.agg (RD.il F).toArray) ∧ Below w.heap.size w w' := by
  have SE : Hid _ := fun (W : World) (hr : MI3.RowAt W a xs) => settled_any (RD.start fn) a cap xs W hn hg (RD.start_bd fn) hr F (RD.settle xs 8 (RD.start fn)).2 (show _ = _ by rw [← hF.out])
  have HI : Hid _ := hin
  have HN0 : Hid _ := RD.n2_new' w 47
  have ff1 : (fn : Int) < 8 := by omega
  have HPS : Hid (RD.il (RD.put (RD.upC (fun _ => RD.far) 8) fn 0) = RD.il (RD.start fn)) := RD.il_ext fun i hi => by simp [RD.put, RD.upC, RD.start, hi]
  have HUP : Hid (∀ k, RD.put (RD.upC (fun _ => RD.far) k) k 1000000000 = RD.upC (fun _ => RD.far) (k + 1)) := fun k => RD.upC_put (fun _ => RD.far) k
  generalize (RD.settle xs 8 (RD.start fn)).2 = B at *
  generalize RD.start fn = st at *
  clear hin hF hg
  go_enter Try.func25, Try.ntmps25
  go_wp2_with (refine MA.alloc_z rfl 47 rfl _ _ Try.infoNC ?_; simp only [MA.sz_alloc])
  generalize (w.alloc (.cells (RD.il RD.zero).toArray 47)).alloc (.cells (RD.il RD.zero).toArray 47) = W0 at *
  generalize w.heap.size + 1 = b0 at *
  go_loopw [7] (fun iv wr => ∃ k : Nat, iv = .int .i64 k ∧ k ≤ 8 ∧ RD.N2 w wr b0 w.heap.size (RD.upC (fun _ => RD.far) k)) (fun iv _ => (8 - intOf iv).toNat)
  case atStart => exact ⟨0, rfl, by omega, by rw [RD.upC_zero]; exact HN0.out⟩
  case round =>
    clear HN0
    obtain ⟨k, rfl, hk, hN⟩ := hrel
    by_cases hl : k < 8
    · obtain ⟨q1, z1⟩ := RD.rg_at hN.c hl
      have hl1 := hN.c.lt
      have hN2 := hN.set1 hl 1000000000
      rw [HUP.out k] at hN2
      have HN2 : Hid _ := hN2
      have kk : (k : Int) < 8 := by omega
      clear hN hN2
      go_wp2
      go_roundw
      case rel => exact ⟨k + 1, by go_num, by omega, HN2.out⟩
      case measure => simp [intOf]; omega
    · obtain rfl : k = 8 := by omega
      obtain ⟨q1, z1⟩ := RD.rg_at hN.c hfn
      have hl1 := hN.c.lt
      have hN2 := hN.set1 hfn 0
      have HN2 : Hid _ := hN2
      have HRc : Hid (MA.Rg (wr.setCell ⟨b0, fn, none⟩ (.int .i64 0)) b0 0 (RD.il st)) := by have := hN2.c; rw [HPS.out] at this; exact this
      have HI1 : Hid _ := HI.out.below hN2.bl
      clear hN hN2 HUP HI HPS
      generalize RD.put (RD.upC (fun _ => RD.far) 8) fn 0 = pc at *
      go_wp2_with (refine MA.load_m rfl 47 _ rfl rfl (cs := RD.il st) ?_ Try.underlying47 rfl Try.sizeNC (RD.il_len _) ?_; exact HRc.out; clear HRc)
      refine (SE.out _ HI1.out).mono ?_
      clear q1 z1 hl1 SE HI1
      generalize wr.setCell ⟨b0, fn, none⟩ (.int .i64 0) = W1 at *
      rintro e w2 ⟨rfl, hb2⟩
      have HN3 : Hid _ := HN2.out.kept hb2
      have HN4 : Hid _ := HN3.out.setc F
      have HRF : Hid _ := HN4.out.c
      have HRR : Hid _ := HN4.out.r
      have HRP : Hid (MA.Rg ((w2.setCells b0 0 (RD.il F)).setCells w.heap.size 0 (RD.il F)) w.heap.size 0 (RD.il F)) := HN4.out.r.put (by rw [RD.il_len, RD.il_len])
      have HBP : Hid (Below w.heap.size w ((w2.setCells b0 0 (RD.il F)).setCells w.heap.size 0 (RD.il F))) := MA.below_cells (Nat.le_refl _) _ _ _ HN4.out.bl
      have HRq : Hid (MA.Rg w2 b0 0 (RD.il pc)) := HN3.out.c
      clear hb2 HN2 HN4 HN3
      go_wp2_with (first
        | (refine MA.store_m rfl 47 _ _ rfl rfl rfl (vs := RD.il F) (cs := RD.il pc) ?_ Try.sizeNC (RD.il_len _) (RD.il_len _) (RD.il_one _) ?_; exact HRq.out; clear HRq; generalize World.setCells _ b0 _ _ = W5 at *)
        | (refine MA.load_m rfl 47 _ rfl rfl (cs := RD.il F) ?_ Try.underlying47 rfl Try.sizeNC (RD.il_len _) ?_; exact HRF.out; clear HRF)
        | (refine MA.store_m rfl 47 _ _ rfl rfl rfl (vs := RD.il F) (cs := RD.il RD.zero) ?_ Try.sizeNC (RD.il_len _) (RD.il_len _) (RD.il_one _) ?_; exact HRR.out; clear HRR))
      exact bodyPost_ret (MA.ret_cell rfl rfl (MA.load_rg HRP.out Try.underlying47 rfl Try.sizeNC (RD.il_len _))) rfl ⟨rfl, HBP.out⟩
end Go.Proofs.Ytclhfhjkcocdcaa
