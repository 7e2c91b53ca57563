/- spec.GoodPile, at any pile. -/
import Derived.Test.YtdgflhgbcfehhaaRows
import Derived.Test.YtdgflhgbcfehhaaCSpecPiece
import Derived.Test.YtdgflhgbcfehhaaMA2
import Derived.Test.YtdgflhgbcfehhaaCBundleInfo
import Derived.WalkKit
import Derived.WalkSpells
import Derived.WalkLawsBesides
import Derived.Outline
namespace Go.Proofs.Ytdgflhgbcfehhaa
open Go.RowKit
theorem new_bundle (W : World) (x : Bd) (t : TypeId) : Below W.heap.size W ((W.alloc (.cells (Bd.cs B1.zero).toArray t)).setCells W.heap.size 0 x.cs) ∧ MA.Rg ((W.alloc (.cells (Bd.cs B1.zero).toArray t)).setCells W.heap.size 0 x.cs) W.heap.size 0 x.cs :=
  ⟨MA.below_cells (Nat.le_refl _) _ _ _ ((Below.refl _ W).alloc (Nat.le_refl _) _), (MA.Rg.new W (Bd.cs B1.zero) t).put rfl⟩
theorem good_step {xs : List Bd} {k : Nat} (hk : k < xs.length) (h : PL.stepS xs k = false) : false = PL.good xs := by
  simp [PL.good, PL.upto_no hk h]
theorem stepS_no {xs : List Bd} {k : Nat} (h : PL.pg (MP.at_ xs k) = false ∨ PL.one (MP.at_ xs k) (MP.at_ xs 0) = false ∨ (k ≠ 0 ∧ PL.ahead (MP.at_ xs (k - 1)) (MP.at_ xs k) = false)) : PL.stepS xs k = false := by
  unfold PL.stepS
  rcases h with h | h | ⟨h0, h⟩ <;> simp [h]
  simp [h0]
set_option linter.unusedSimpArgs false in
set_option maxHeartbeats 12800000 in
set_option maxRecDepth 100000 in
theorem specGoodPile_any (a : Option Addr) (cap : Nat) (xs : List Bd) (w0 : World) (hn : xs.length ≤ 1048576) (ht : Hid (∀ k, k < xs.length → (MP.at_ xs k).py.size ≤ 1048576)) (hin : MP.BsAt w0 a xs) (hcap : xs.length ≤ cap) :
    Calls Try.prog 20 #[.agg #[.slice a xs.length cap]] w0 fun e w' => e = .returned (.bool (PL.good xs)) ∧ Below w0.heap.size w0 w' := by
  go_enter Try.func20, Try.ntmps20
  have hB0 : Below w0.heap.size w0 (w0.alloc (.cells #[.slice a xs.length cap] 31)) := (Below.refl _ w0).alloc (Nat.le_refl _) _
  go_wp2
  go_loopw [10] (fun iv wr => ∃ k : Nat, iv = .int .i64 k ∧ k ≤ xs.length ∧ Hid (PL.upto (PL.stepS xs) k = true) ∧ wr.cell? ⟨w0.heap.size, 0, none⟩ = some (.slice a xs.length cap) ∧ w0.heap.size < wr.heap.size ∧ Below w0.heap.size w0 wr) (fun iv _ => (xs.length - intOf iv).toNat)
  case atStart => exact ⟨0, rfl, by omega, PL.upto_zero _, by simp, by simp, hB0⟩
  case round =>
    clear hB0
    obtain ⟨k, rfl, hk, hU, hcr, hwr, hb⟩ := hrel
    by_cases hl : k < xs.length
    · obtain ⟨b, off, rfl, hbl0, rg⟩ := MA.row_range (hin.below hb) hl
      obtain ⟨x, hx⟩ : ∃ x, MP.at_ xs k = x := ⟨_, rfl⟩
      have hpx : x.py.size ≤ 1048576 := hx ▸ ht.out k hl
      rw [hx] at rg
      have RG : Hid _ := rg
      have HXX : Hid (MP.at_ xs k = x) := hx
      clear hx rg
      have HW : Hid _ := new_bundle wr x 24
      have RN : Hid _ := MA.Rg.new wr (Bd.cs B1.zero) 24
      have hk0 : (0 : Int) ≤ (k : Int) := by omega
      have hkn : (k : Int) < (xs.length : Int) := by omega
      go_wp2_with (first
        | (refine MA.load_r rfl 24 _ rfl rfl (cs := x.cs) ?_ Try.underlying24 rfl Try.sizeBundle rfl ?_; exact RG.out)
        | (refine MA.alloc_z rfl 24 rfl _ _ Try.infoBundle ?_; simp only [MA.sz_alloc])
        | (refine MA.store_m rfl 24 _ _ rfl rfl rfl (cs := Bd.cs B1.zero) ?_ Try.sizeBundle rfl rfl (MA.cs_one x) ?_; exact RN.out; clear RN RG; generalize World.setCells _ _ _ _ = W at *))
      obtain ⟨hW1, hW2⟩ := HW.out
      have hXr := hW2.rng
      have hq := hW2.lt
      have hrow := (hin.below hb).below hW1
      have hbW : Below w0.heap.size w0 W := hb.trans (hW1.mono hb.size)
      have hwl : w0.heap.size < W.heap.size := Nat.lt_of_lt_of_le hwr hW1.size
      have hcell : W.cell? ⟨w0.heap.size, 0, none⟩ = some (.slice (some ⟨b, off, none⟩) xs.length cap) := (hW1.cell (p := ⟨w0.heap.size, 0, none⟩) hwr).trans hcr
      have htl : W.cell? ⟨wr.heap.size, 8, none⟩ = some (.int .i64 x.tl) := by have := hW2.cell (j := 8) (v := .int .i64 x.tl) rfl; rwa [Nat.zero_add] at this
      obtain ⟨b', off', hab, hbl, hZr⟩ := MA.row_range hrow (k := 0) (by omega)
      cases hab
      obtain ⟨z, hz⟩ : ∃ z, MP.at_ xs 0 = z := ⟨_, rfl⟩
      rw [hz, Nat.zero_mul, Nat.add_zero] at hZr
      have HZZ : Hid (MP.at_ xs 0 = z) := hz
      have hn0 : 0 < xs.length := by omega
      clear HW hW1 hW2 hz hcr hb hwr
      cases hg : B1.good x with
      | false =>
        have GB : Hid _ := fun W => specGoodBundle_any x W hpx false hg
        have LS : Hid True := trivial
        have LB : Hid True := trivial
        have hF : Hid (false = PL.good xs) := good_step hl (stepS_no (.inl (by rw [HXX.out]; simp [PL.pg, hg])))
        clear hg HXX hrow hZr HZZ
        refine MR.frame fun A hA => ?_
        have hsz : A.tmps.size = 66 := by rw [hA]; rfl
        have e1 : A.eval (.tmp 1) = .pointer (some ⟨w0.heap.size, 0, none⟩) := by rw [hA]; rfl
        have f1 := MR.read (t := 1) (by rw [hsz]; decide) e1
        have e3 : A.eval (.tmp 3) = .int .i64 (k : Int) := by rw [hA]; rfl
        have f3 := MR.read (t := 3) (by rw [hsz]; decide) e3
        have e4 : A.eval (.tmp 4) = .pointer (some ⟨wr.heap.size, 0, none⟩) := by rw [hA]; rfl
        have f4 := MR.read (t := 4) (by rw [hsz]; decide) e4
        have HA : Hid (A = _) := hA
        clear hA
        have hS : (fun w' : World => Below W.heap.size W w') (World.drew _) := ((Below.refl _ W).drew)
        refine wp_region_held (S := fun w' : World => Below W.heap.size W w') (by kernel_rfl) ?_
        change wpAnyH _ _ _ _ _ _ _ _ (World.drew _)
        refine MR.takeH (i := 0) (some 15) (x.v) rfl rfl (by kernel_rfl) (by kernel_rfl) (by kernel_rfl) (fun _ _ _ h => h) hS (MR.free rfl) (fun w hw => MA.ex_load rfl (by simp [MR.ev, MR.size, hsz, e1, f1, e3, f3, e4, f4]) (MA.range_below hXr hw hq) Try.underlying24 rfl Try.sizeBundle rfl) ?_
        refine MR.callH (i := 1) (some 16) (36) (#[x.v]) (by kernel_rfl) rfl rfl (MR.free rfl) (by simp [execOp, MR.ev, MR.size, hsz, e1, f1, e3, f3, e4, f4, go_sem]) ?_
        refine Calls.mono (GB.out _) ?_
        rintro e w2 ⟨rfl, hb2⟩
        have hS2 : Below W.heap.size W w2 := hS.trans (hb2.mono hS.size)
        refine ⟨_, rfl, hS2, ?_⟩
        refine MR.takeH (i := 2) (some 17) (.bool true) rfl rfl (by kernel_rfl) (by kernel_rfl) (by kernel_rfl) (fun _ _ _ h => h) hS2 (MR.free rfl) (fun w hw => by simp [execOp, MR.ev, MR.size, hsz, e1, f1, e3, f3, e4, f4, go_sem]) ?_
        refine MR.takeH (i := 3) (some 18) (.bool true) rfl rfl (by kernel_rfl) (by kernel_rfl) (by kernel_rfl) (fun _ _ _ h => h) hS2 (MR.free rfl) (fun w hw => by simp [execOp, MR.ev, MR.size, hsz, e1, f1, e3, f3, e4, f4, go_sem]) ?_
        refine MR.skipH (i := 4) (some 19) rfl rfl (by kernel_rfl) (by kernel_rfl) (by kernel_rfl) (fun _ _ _ h => h) hS2 (MR.unwant (d := 18) (b' := true) rfl rfl (by simp [MR.size, hsz]) (by simp [MR.ev, MR.size, hsz, e1, f1, e3, f3, e4, f4]) (by decide)) ?_
        refine MR.skipH (i := 5) (some 20) rfl rfl (by kernel_rfl) (by kernel_rfl) (by kernel_rfl) (fun _ _ _ h => h) hS2 (MR.unwant (d := 18) (b' := true) rfl rfl (by simp [MR.size, hsz]) (by simp [MR.ev, MR.size, hsz, e1, f1, e3, f3, e4, f4]) (by decide)) ?_
        refine MR.skipH (i := 6) (some 21) rfl rfl (by kernel_rfl) (by kernel_rfl) (by kernel_rfl) (fun _ _ _ h => h) hS2 (MR.unwant (d := 18) (b' := true) rfl rfl (by simp [MR.size, hsz]) (by simp [MR.ev, MR.size, hsz, e1, f1, e3, f3, e4, f4]) (by decide)) ?_
        refine MR.takeH (i := 7) (some 22) (.bool true) rfl rfl (by kernel_rfl) (by kernel_rfl) (by kernel_rfl) (fun _ _ _ h => h) hS2 (MR.free rfl) (fun w hw => by simp [execOp, MR.ev, MR.size, hsz, e1, f1, e3, f3, e4, f4, go_sem]) ?_
        refine MR.takeH (i := 8) (some 23) (.bool true) rfl rfl (by kernel_rfl) (by kernel_rfl) (by kernel_rfl) (fun _ _ _ h => h) hS2 (MR.free rfl) (fun w hw => by simp [execOp, MR.ev, MR.size, hsz, e1, f1, e3, f3, e4, f4, go_sem]) ?_
        refine MR.skipH (i := 9) (some 24) rfl rfl (by kernel_rfl) (by kernel_rfl) (by kernel_rfl) (fun _ _ _ h => h) hS2 (MR.unwant (d := 23) (b' := true) rfl rfl (by simp [MR.size, hsz]) (by simp [MR.ev, MR.size, hsz, e1, f1, e3, f3, e4, f4]) (by decide)) ?_
        refine MR.skipH (i := 10) (some 25) rfl rfl (by kernel_rfl) (by kernel_rfl) (by kernel_rfl) (fun _ _ _ h => h) hS2 (MR.unwant (d := 23) (b' := true) rfl rfl (by simp [MR.size, hsz]) (by simp [MR.ev, MR.size, hsz, e1, f1, e3, f3, e4, f4]) (by decide)) ?_
        refine MR.skipH (i := 11) (some 26) rfl rfl (by kernel_rfl) (by kernel_rfl) (by kernel_rfl) (fun _ _ _ h => h) hS2 (MR.unwant (d := 23) (b' := true) rfl rfl (by simp [MR.size, hsz]) (by simp [MR.ev, MR.size, hsz, e1, f1, e3, f3, e4, f4]) (by decide)) ?_
        refine MR.skipH (i := 12) (some 27) rfl rfl (by kernel_rfl) (by kernel_rfl) (by kernel_rfl) (fun _ _ _ h => h) hS2 (MR.unwant (d := 23) (b' := true) rfl rfl (by simp [MR.size, hsz]) (by simp [MR.ev, MR.size, hsz, e1, f1, e3, f3, e4, f4]) (by decide)) ?_
        refine MR.skipH (i := 13) (some 28) rfl rfl (by kernel_rfl) (by kernel_rfl) (by kernel_rfl) (fun _ _ _ h => h) hS2 (MR.unwant (d := 23) (b' := true) rfl rfl (by simp [MR.size, hsz]) (by simp [MR.ev, MR.size, hsz, e1, f1, e3, f3, e4, f4]) (by decide)) ?_
        refine MR.skipH (i := 14) (some 29) rfl rfl (by kernel_rfl) (by kernel_rfl) (by kernel_rfl) (fun _ _ _ h => h) hS2 (MR.unwant (d := 23) (b' := true) rfl rfl (by simp [MR.size, hsz]) (by simp [MR.ev, MR.size, hsz, e1, f1, e3, f3, e4, f4]) (by decide)) ?_
        refine MR.skipH (i := 15) (some 30) rfl rfl (by kernel_rfl) (by kernel_rfl) (by kernel_rfl) (fun _ _ _ h => h) hS2 (MR.unwant (d := 23) (b' := true) rfl rfl (by simp [MR.size, hsz]) (by simp [MR.ev, MR.size, hsz, e1, f1, e3, f3, e4, f4]) (by decide)) ?_
        refine MR.takeH (i := 16) (some 31) (.bool true) rfl rfl (by kernel_rfl) (by kernel_rfl) (by kernel_rfl) (fun _ _ _ h => h) hS2 (MR.free rfl) (fun w hw => by simp [execOp, MR.ev, MR.size, hsz, e1, f1, e3, f3, e4, f4, go_sem]) ?_
        refine MR.takeH (i := 17) (some 32) (.bool true) rfl rfl (by kernel_rfl) (by kernel_rfl) (by kernel_rfl) (fun _ _ _ h => h) hS2 (MR.free rfl) (fun w hw => by simp [execOp, MR.ev, MR.size, hsz, e1, f1, e3, f3, e4, f4, go_sem]) ?_
        refine MR.skipH (i := 18) (some 33) rfl rfl (by kernel_rfl) (by kernel_rfl) (by kernel_rfl) (fun _ _ _ h => h) hS2 (MR.unwant (d := 32) (b' := true) rfl rfl (by simp [MR.size, hsz]) (by simp [MR.ev, MR.size, hsz, e1, f1, e3, f3, e4, f4]) (by decide)) ?_
        refine MR.skipH (i := 19) (some 34) rfl rfl (by kernel_rfl) (by kernel_rfl) (by kernel_rfl) (fun _ _ _ h => h) hS2 (MR.unwant (d := 32) (b' := true) rfl rfl (by simp [MR.size, hsz]) (by simp [MR.ev, MR.size, hsz, e1, f1, e3, f3, e4, f4]) (by decide)) ?_
        refine MR.skipH (i := 20) (some 35) rfl rfl (by kernel_rfl) (by kernel_rfl) (by kernel_rfl) (fun _ _ _ h => h) hS2 (MR.unwant (d := 32) (b' := true) rfl rfl (by simp [MR.size, hsz]) (by simp [MR.ev, MR.size, hsz, e1, f1, e3, f3, e4, f4]) (by decide)) ?_
        refine MR.skipH (i := 21) (some 36) rfl rfl (by kernel_rfl) (by kernel_rfl) (by kernel_rfl) (fun _ _ _ h => h) hS2 (MR.unwantU (d := 35) rfl rfl (by simp [MR.size, hsz]) (by simp [MR.ev, MR.size, hsz, e1, f1, e3, f3, e4, f4])) ?_
        refine MR.skipH (i := 22) (some 37) rfl rfl (by kernel_rfl) (by kernel_rfl) (by kernel_rfl) (fun _ _ _ h => h) hS2 (MR.unwantU (d := 35) rfl rfl (by simp [MR.size, hsz]) (by simp [MR.ev, MR.size, hsz, e1, f1, e3, f3, e4, f4])) ?_
        refine MR.skipH (i := 23) (some 38) rfl rfl (by kernel_rfl) (by kernel_rfl) (by kernel_rfl) (fun _ _ _ h => h) hS2 (MR.unwantU (d := 35) rfl rfl (by simp [MR.size, hsz]) (by simp [MR.ev, MR.size, hsz, e1, f1, e3, f3, e4, f4])) ?_
        refine MR.skipH (i := 24) (some 39) rfl rfl (by kernel_rfl) (by kernel_rfl) (by kernel_rfl) (fun _ _ _ h => h) hS2 (MR.unwantU (d := 35) rfl rfl (by simp [MR.size, hsz]) (by simp [MR.ev, MR.size, hsz, e1, f1, e3, f3, e4, f4])) ?_
        refine MR.skipH (i := 25) (some 40) rfl rfl (by kernel_rfl) (by kernel_rfl) (by kernel_rfl) (fun _ _ _ h => h) hS2 (MR.unwantU (d := 35) rfl rfl (by simp [MR.size, hsz]) (by simp [MR.ev, MR.size, hsz, e1, f1, e3, f3, e4, f4])) ?_
        refine MR.skipH (i := 26) (some 41) rfl rfl (by kernel_rfl) (by kernel_rfl) (by kernel_rfl) (fun _ _ _ h => h) hS2 (MR.unwantU (d := 35) rfl rfl (by simp [MR.size, hsz]) (by simp [MR.ev, MR.size, hsz, e1, f1, e3, f3, e4, f4])) ?_
        refine MR.skipH (i := 27) (some 42) rfl rfl (by kernel_rfl) (by kernel_rfl) (by kernel_rfl) (fun _ _ _ h => h) hS2 (MR.unwantU (d := 35) rfl rfl (by simp [MR.size, hsz]) (by simp [MR.ev, MR.size, hsz, e1, f1, e3, f3, e4, f4])) ?_
        refine MR.skipH (i := 28) (some 43) rfl rfl (by kernel_rfl) (by kernel_rfl) (by kernel_rfl) (fun _ _ _ h => h) hS2 (MR.unwantU (d := 35) rfl rfl (by simp [MR.size, hsz]) (by simp [MR.ev, MR.size, hsz, e1, f1, e3, f3, e4, f4])) ?_
        refine MR.skipH (i := 29) (some 44) rfl rfl (by kernel_rfl) (by kernel_rfl) (by kernel_rfl) (fun _ _ _ h => h) hS2 (MR.unwantU (d := 35) rfl rfl (by simp [MR.size, hsz]) (by simp [MR.ev, MR.size, hsz, e1, f1, e3, f3, e4, f4])) ?_
        refine MR.skipH (i := 30) (some 45) rfl rfl (by kernel_rfl) (by kernel_rfl) (by kernel_rfl) (fun _ _ _ h => h) hS2 (MR.unwant (d := 32) (b' := true) rfl rfl (by simp [MR.size, hsz]) (by simp [MR.ev, MR.size, hsz, e1, f1, e3, f3, e4, f4]) (by decide)) ?_
        refine MR.takeH (i := 31) (some 46) (.bool true) rfl rfl (by kernel_rfl) (by kernel_rfl) (by kernel_rfl) (fun _ _ _ h => h) hS2 (MR.free rfl) (fun w hw => by simp [execOp, MR.ev, MR.size, hsz, e1, f1, e3, f3, e4, f4, go_sem]) ?_
        refine wpAnyH_done (by kernel_rfl) ?_ _
        have hB7 : Below W.heap.size W w2 := hS2
        rw [HA.out]
        clear hS  hS2 HA e1 e3 e4 f1 f3 f4 hsz hb2 GB LS LB hn0
        generalize w2 = W7 at *
        simp only [Act.put, List.setIfInBounds_toArray, List.set_cons_succ, List.set_cons_zero]
        have hb : Below w0.heap.size w0 W7 := hbW.trans (hB7.mono hbW.size)
        clear hB7 hXr hU hcell htl hbW
        go_wp2
        go_ret
        exact ⟨retBs hF.out, hb⟩
      | true =>
        have GB : Hid _ := fun W => specGoodBundle_any x W hpx true hg
        by_cases hx0 : x.tl = 0
        · have LS : Hid True := trivial
          have LB : Hid True := trivial
          have hF : Hid (false = PL.good xs) := good_step hl (stepS_no (.inl (by rw [HXX.out]; simp [PL.pg, hx0])))
          clear hg HXX hrow hZr HZZ
          refine MR.frame fun A hA => ?_
          have hsz : A.tmps.size = 66 := by rw [hA]; rfl
          have e1 : A.eval (.tmp 1) = .pointer (some ⟨w0.heap.size, 0, none⟩) := by rw [hA]; rfl
          have f1 := MR.read (t := 1) (by rw [hsz]; decide) e1
          have e3 : A.eval (.tmp 3) = .int .i64 (k : Int) := by rw [hA]; rfl
          have f3 := MR.read (t := 3) (by rw [hsz]; decide) e3
          have e4 : A.eval (.tmp 4) = .pointer (some ⟨wr.heap.size, 0, none⟩) := by rw [hA]; rfl
          have f4 := MR.read (t := 4) (by rw [hsz]; decide) e4
          have HA : Hid (A = _) := hA
          clear hA
          have hS : (fun w' : World => Below W.heap.size W w') (World.drew _) := ((Below.refl _ W).drew)
          refine wp_region_held (S := fun w' : World => Below W.heap.size W w') (by kernel_rfl) ?_
          change wpAnyH _ _ _ _ _ _ _ _ (World.drew _)
          refine MR.takeH (i := 0) (some 15) (x.v) rfl rfl (by kernel_rfl) (by kernel_rfl) (by kernel_rfl) (fun _ _ _ h => h) hS (MR.free rfl) (fun w hw => MA.ex_load rfl (by simp [MR.ev, MR.size, hsz, e1, f1, e3, f3, e4, f4]) (MA.range_below hXr hw hq) Try.underlying24 rfl Try.sizeBundle rfl) ?_
          refine MR.callH (i := 1) (some 16) (36) (#[x.v]) (by kernel_rfl) rfl rfl (MR.free rfl) (by simp [execOp, MR.ev, MR.size, hsz, e1, f1, e3, f3, e4, f4, go_sem]) ?_
          refine Calls.mono (GB.out _) ?_
          rintro e w2 ⟨rfl, hb2⟩
          have hS2 : Below W.heap.size W w2 := hS.trans (hb2.mono hS.size)
          refine ⟨_, rfl, hS2, ?_⟩
          refine MR.takeH (i := 2) (some 17) (.bool false) rfl rfl (by kernel_rfl) (by kernel_rfl) (by kernel_rfl) (fun _ _ _ h => h) hS2 (MR.free rfl) (fun w hw => by simp [execOp, MR.ev, MR.size, hsz, e1, f1, e3, f3, e4, f4, go_sem]) ?_
          refine MR.takeH (i := 3) (some 18) (.bool false) rfl rfl (by kernel_rfl) (by kernel_rfl) (by kernel_rfl) (fun _ _ _ h => h) hS2 (MR.free rfl) (fun w hw => by simp [execOp, MR.ev, MR.size, hsz, e1, f1, e3, f3, e4, f4, go_sem]) ?_
          refine MR.takeH (i := 4) (some 19) (.pointer (some ⟨wr.heap.size, 8, none⟩)) rfl rfl (by kernel_rfl) (by kernel_rfl) (by kernel_rfl) (fun _ _ _ h => h) hS2 (MR.want (d := 18) rfl rfl (by simp [MR.size, hsz]) (by simp [MR.ev, MR.size, hsz, e1, f1, e3, f3, e4, f4])) (fun w hw => by simp [execOp, MR.ev, MR.size, hsz, e1, f1, e3, f3, e4, f4, go_sem]) ?_
          refine MR.takeH (i := 5) (some 20) (.int .i64 x.tl) rfl rfl (by kernel_rfl) (by kernel_rfl) (by kernel_rfl) (fun _ _ _ h => h) hS2 (MR.want (d := 18) rfl rfl (by simp [MR.size, hsz]) (by simp [MR.ev, MR.size, hsz, e1, f1, e3, f3, e4, f4])) (fun w hw => by simp [execOp, MR.ev, MR.size, hsz, e1, f1, e3, f3, e4, f4, (hw.cell (p := ⟨wr.heap.size, 8, none⟩) hq).trans htl, go_sem]) ?_
          refine MR.takeH (i := 6) (some 21) (.bool true) rfl rfl (by kernel_rfl) (by kernel_rfl) (by kernel_rfl) (fun _ _ _ h => h) hS2 (MR.want (d := 18) rfl rfl (by simp [MR.size, hsz]) (by simp [MR.ev, MR.size, hsz, e1, f1, e3, f3, e4, f4])) (fun w hw => by simp [execOp, MR.ev, MR.size, hsz, e1, f1, e3, f3, e4, f4, hx0, go_sem]) ?_
          refine MR.takeH (i := 7) (some 22) (.bool true) rfl rfl (by kernel_rfl) (by kernel_rfl) (by kernel_rfl) (fun _ _ _ h => h) hS2 (MR.free rfl) (fun w hw => by simp [execOp, MR.ev, MR.size, hsz, e1, f1, e3, f3, e4, f4, go_sem]) ?_
          refine MR.takeH (i := 8) (some 23) (.bool true) rfl rfl (by kernel_rfl) (by kernel_rfl) (by kernel_rfl) (fun _ _ _ h => h) hS2 (MR.free rfl) (fun w hw => by simp [execOp, MR.ev, MR.size, hsz, e1, f1, e3, f3, e4, f4, go_sem]) ?_
          refine MR.skipH (i := 9) (some 24) rfl rfl (by kernel_rfl) (by kernel_rfl) (by kernel_rfl) (fun _ _ _ h => h) hS2 (MR.unwant (d := 23) (b' := true) rfl rfl (by simp [MR.size, hsz]) (by simp [MR.ev, MR.size, hsz, e1, f1, e3, f3, e4, f4]) (by decide)) ?_
          refine MR.skipH (i := 10) (some 25) rfl rfl (by kernel_rfl) (by kernel_rfl) (by kernel_rfl) (fun _ _ _ h => h) hS2 (MR.unwant (d := 23) (b' := true) rfl rfl (by simp [MR.size, hsz]) (by simp [MR.ev, MR.size, hsz, e1, f1, e3, f3, e4, f4]) (by decide)) ?_
          refine MR.skipH (i := 11) (some 26) rfl rfl (by kernel_rfl) (by kernel_rfl) (by kernel_rfl) (fun _ _ _ h => h) hS2 (MR.unwant (d := 23) (b' := true) rfl rfl (by simp [MR.size, hsz]) (by simp [MR.ev, MR.size, hsz, e1, f1, e3, f3, e4, f4]) (by decide)) ?_
          refine MR.skipH (i := 12) (some 27) rfl rfl (by kernel_rfl) (by kernel_rfl) (by kernel_rfl) (fun _ _ _ h => h) hS2 (MR.unwant (d := 23) (b' := true) rfl rfl (by simp [MR.size, hsz]) (by simp [MR.ev, MR.size, hsz, e1, f1, e3, f3, e4, f4]) (by decide)) ?_
          refine MR.skipH (i := 13) (some 28) rfl rfl (by kernel_rfl) (by kernel_rfl) (by kernel_rfl) (fun _ _ _ h => h) hS2 (MR.unwant (d := 23) (b' := true) rfl rfl (by simp [MR.size, hsz]) (by simp [MR.ev, MR.size, hsz, e1, f1, e3, f3, e4, f4]) (by decide)) ?_
          refine MR.skipH (i := 14) (some 29) rfl rfl (by kernel_rfl) (by kernel_rfl) (by kernel_rfl) (fun _ _ _ h => h) hS2 (MR.unwant (d := 23) (b' := true) rfl rfl (by simp [MR.size, hsz]) (by simp [MR.ev, MR.size, hsz, e1, f1, e3, f3, e4, f4]) (by decide)) ?_
          refine MR.skipH (i := 15) (some 30) rfl rfl (by kernel_rfl) (by kernel_rfl) (by kernel_rfl) (fun _ _ _ h => h) hS2 (MR.unwant (d := 23) (b' := true) rfl rfl (by simp [MR.size, hsz]) (by simp [MR.ev, MR.size, hsz, e1, f1, e3, f3, e4, f4]) (by decide)) ?_
          refine MR.takeH (i := 16) (some 31) (.bool true) rfl rfl (by kernel_rfl) (by kernel_rfl) (by kernel_rfl) (fun _ _ _ h => h) hS2 (MR.free rfl) (fun w hw => by simp [execOp, MR.ev, MR.size, hsz, e1, f1, e3, f3, e4, f4, go_sem]) ?_
          refine MR.takeH (i := 17) (some 32) (.bool true) rfl rfl (by kernel_rfl) (by kernel_rfl) (by kernel_rfl) (fun _ _ _ h => h) hS2 (MR.free rfl) (fun w hw => by simp [execOp, MR.ev, MR.size, hsz, e1, f1, e3, f3, e4, f4, go_sem]) ?_
          refine MR.skipH (i := 18) (some 33) rfl rfl (by kernel_rfl) (by kernel_rfl) (by kernel_rfl) (fun _ _ _ h => h) hS2 (MR.unwant (d := 32) (b' := true) rfl rfl (by simp [MR.size, hsz]) (by simp [MR.ev, MR.size, hsz, e1, f1, e3, f3, e4, f4]) (by decide)) ?_
          refine MR.skipH (i := 19) (some 34) rfl rfl (by kernel_rfl) (by kernel_rfl) (by kernel_rfl) (fun _ _ _ h => h) hS2 (MR.unwant (d := 32) (b' := true) rfl rfl (by simp [MR.size, hsz]) (by simp [MR.ev, MR.size, hsz, e1, f1, e3, f3, e4, f4]) (by decide)) ?_
          refine MR.skipH (i := 20) (some 35) rfl rfl (by kernel_rfl) (by kernel_rfl) (by kernel_rfl) (fun _ _ _ h => h) hS2 (MR.unwant (d := 32) (b' := true) rfl rfl (by simp [MR.size, hsz]) (by simp [MR.ev, MR.size, hsz, e1, f1, e3, f3, e4, f4]) (by decide)) ?_
          refine MR.skipH (i := 21) (some 36) rfl rfl (by kernel_rfl) (by kernel_rfl) (by kernel_rfl) (fun _ _ _ h => h) hS2 (MR.unwantU (d := 35) rfl rfl (by simp [MR.size, hsz]) (by simp [MR.ev, MR.size, hsz, e1, f1, e3, f3, e4, f4])) ?_
          refine MR.skipH (i := 22) (some 37) rfl rfl (by kernel_rfl) (by kernel_rfl) (by kernel_rfl) (fun _ _ _ h => h) hS2 (MR.unwantU (d := 35) rfl rfl (by simp [MR.size, hsz]) (by simp [MR.ev, MR.size, hsz, e1, f1, e3, f3, e4, f4])) ?_
          refine MR.skipH (i := 23) (some 38) rfl rfl (by kernel_rfl) (by kernel_rfl) (by kernel_rfl) (fun _ _ _ h => h) hS2 (MR.unwantU (d := 35) rfl rfl (by simp [MR.size, hsz]) (by simp [MR.ev, MR.size, hsz, e1, f1, e3, f3, e4, f4])) ?_
          refine MR.skipH (i := 24) (some 39) rfl rfl (by kernel_rfl) (by kernel_rfl) (by kernel_rfl) (fun _ _ _ h => h) hS2 (MR.unwantU (d := 35) rfl rfl (by simp [MR.size, hsz]) (by simp [MR.ev, MR.size, hsz, e1, f1, e3, f3, e4, f4])) ?_
          refine MR.skipH (i := 25) (some 40) rfl rfl (by kernel_rfl) (by kernel_rfl) (by kernel_rfl) (fun _ _ _ h => h) hS2 (MR.unwantU (d := 35) rfl rfl (by simp [MR.size, hsz]) (by simp [MR.ev, MR.size, hsz, e1, f1, e3, f3, e4, f4])) ?_
          refine MR.skipH (i := 26) (some 41) rfl rfl (by kernel_rfl) (by kernel_rfl) (by kernel_rfl) (fun _ _ _ h => h) hS2 (MR.unwantU (d := 35) rfl rfl (by simp [MR.size, hsz]) (by simp [MR.ev, MR.size, hsz, e1, f1, e3, f3, e4, f4])) ?_
          refine MR.skipH (i := 27) (some 42) rfl rfl (by kernel_rfl) (by kernel_rfl) (by kernel_rfl) (fun _ _ _ h => h) hS2 (MR.unwantU (d := 35) rfl rfl (by simp [MR.size, hsz]) (by simp [MR.ev, MR.size, hsz, e1, f1, e3, f3, e4, f4])) ?_
          refine MR.skipH (i := 28) (some 43) rfl rfl (by kernel_rfl) (by kernel_rfl) (by kernel_rfl) (fun _ _ _ h => h) hS2 (MR.unwantU (d := 35) rfl rfl (by simp [MR.size, hsz]) (by simp [MR.ev, MR.size, hsz, e1, f1, e3, f3, e4, f4])) ?_
          refine MR.skipH (i := 29) (some 44) rfl rfl (by kernel_rfl) (by kernel_rfl) (by kernel_rfl) (fun _ _ _ h => h) hS2 (MR.unwantU (d := 35) rfl rfl (by simp [MR.size, hsz]) (by simp [MR.ev, MR.size, hsz, e1, f1, e3, f3, e4, f4])) ?_
          refine MR.skipH (i := 30) (some 45) rfl rfl (by kernel_rfl) (by kernel_rfl) (by kernel_rfl) (fun _ _ _ h => h) hS2 (MR.unwant (d := 32) (b' := true) rfl rfl (by simp [MR.size, hsz]) (by simp [MR.ev, MR.size, hsz, e1, f1, e3, f3, e4, f4]) (by decide)) ?_
          refine MR.takeH (i := 31) (some 46) (.bool true) rfl rfl (by kernel_rfl) (by kernel_rfl) (by kernel_rfl) (fun _ _ _ h => h) hS2 (MR.free rfl) (fun w hw => by simp [execOp, MR.ev, MR.size, hsz, e1, f1, e3, f3, e4, f4, go_sem]) ?_
          refine wpAnyH_done (by kernel_rfl) ?_ _
          have hB7 : Below W.heap.size W w2 := hS2
          rw [HA.out]
          clear hS  hS2 HA e1 e3 e4 f1 f3 f4 hsz hb2 hx0 GB LS LB hn0
          generalize w2 = W7 at *
          simp only [Act.put, List.setIfInBounds_toArray, List.set_cons_succ, List.set_cons_zero]
          have hb : Below w0.heap.size w0 W7 := hbW.trans (hB7.mono hbW.size)
          clear hB7 hXr hU hcell htl hbW
          go_wp2
          go_ret
          exact ⟨retBs hF.out, hb⟩
        · have HPG : Hid (PL.pg x = true) := by simp [Hid, PL.pg, hg, hx0]
          clear hg
          cases ho : PL.one x z with
          | false =>
            have LS : Hid _ := fun W => l4Same_any x z W false ho
            have LB : Hid True := trivial
            have hF : Hid (false = PL.good xs) := good_step hl (stepS_no (.inr (.inl (by rw [HXX.out, HZZ.out]; exact ho))))
            clear ho HXX hrow HZZ HPG
            refine MR.frame fun A hA => ?_
            have hsz : A.tmps.size = 66 := by rw [hA]; rfl
            have e1 : A.eval (.tmp 1) = .pointer (some ⟨w0.heap.size, 0, none⟩) := by rw [hA]; rfl
            have f1 := MR.read (t := 1) (by rw [hsz]; decide) e1
            have e3 : A.eval (.tmp 3) = .int .i64 (k : Int) := by rw [hA]; rfl
            have f3 := MR.read (t := 3) (by rw [hsz]; decide) e3
            have e4 : A.eval (.tmp 4) = .pointer (some ⟨wr.heap.size, 0, none⟩) := by rw [hA]; rfl
            have f4 := MR.read (t := 4) (by rw [hsz]; decide) e4
            have HA : Hid (A = _) := hA
            clear hA
            have hS : (fun w' : World => Below W.heap.size W w') (World.drew _) := ((Below.refl _ W).drew)
            refine wp_region_held (S := fun w' : World => Below W.heap.size W w') (by kernel_rfl) ?_
            change wpAnyH _ _ _ _ _ _ _ _ (World.drew _)
            refine MR.takeH (i := 0) (some 15) (x.v) rfl rfl (by kernel_rfl) (by kernel_rfl) (by kernel_rfl) (fun _ _ _ h => h) hS (MR.free rfl) (fun w hw => MA.ex_load rfl (by simp [MR.ev, MR.size, hsz, e1, f1, e3, f3, e4, f4]) (MA.range_below hXr hw hq) Try.underlying24 rfl Try.sizeBundle rfl) ?_
            refine MR.callH (i := 1) (some 16) (36) (#[x.v]) (by kernel_rfl) rfl rfl (MR.free rfl) (by simp [execOp, MR.ev, MR.size, hsz, e1, f1, e3, f3, e4, f4, go_sem]) ?_
            refine Calls.mono (GB.out _) ?_
            rintro e w2 ⟨rfl, hb2⟩
            have hS2 : Below W.heap.size W w2 := hS.trans (hb2.mono hS.size)
            refine ⟨_, rfl, hS2, ?_⟩
            refine MR.takeH (i := 2) (some 17) (.bool false) rfl rfl (by kernel_rfl) (by kernel_rfl) (by kernel_rfl) (fun _ _ _ h => h) hS2 (MR.free rfl) (fun w hw => by simp [execOp, MR.ev, MR.size, hsz, e1, f1, e3, f3, e4, f4, go_sem]) ?_
            refine MR.takeH (i := 3) (some 18) (.bool false) rfl rfl (by kernel_rfl) (by kernel_rfl) (by kernel_rfl) (fun _ _ _ h => h) hS2 (MR.free rfl) (fun w hw => by simp [execOp, MR.ev, MR.size, hsz, e1, f1, e3, f3, e4, f4, go_sem]) ?_
            refine MR.takeH (i := 4) (some 19) (.pointer (some ⟨wr.heap.size, 8, none⟩)) rfl rfl (by kernel_rfl) (by kernel_rfl) (by kernel_rfl) (fun _ _ _ h => h) hS2 (MR.want (d := 18) rfl rfl (by simp [MR.size, hsz]) (by simp [MR.ev, MR.size, hsz, e1, f1, e3, f3, e4, f4])) (fun w hw => by simp [execOp, MR.ev, MR.size, hsz, e1, f1, e3, f3, e4, f4, go_sem]) ?_
            refine MR.takeH (i := 5) (some 20) (.int .i64 x.tl) rfl rfl (by kernel_rfl) (by kernel_rfl) (by kernel_rfl) (fun _ _ _ h => h) hS2 (MR.want (d := 18) rfl rfl (by simp [MR.size, hsz]) (by simp [MR.ev, MR.size, hsz, e1, f1, e3, f3, e4, f4])) (fun w hw => by simp [execOp, MR.ev, MR.size, hsz, e1, f1, e3, f3, e4, f4, (hw.cell (p := ⟨wr.heap.size, 8, none⟩) hq).trans htl, go_sem]) ?_
            refine MR.takeH (i := 6) (some 21) (.bool false) rfl rfl (by kernel_rfl) (by kernel_rfl) (by kernel_rfl) (fun _ _ _ h => h) hS2 (MR.want (d := 18) rfl rfl (by simp [MR.size, hsz]) (by simp [MR.ev, MR.size, hsz, e1, f1, e3, f3, e4, f4])) (fun w hw => by simp [execOp, MR.ev, MR.size, hsz, e1, f1, e3, f3, e4, f4, hx0, go_sem]) ?_
            refine MR.takeH (i := 7) (some 22) (.bool false) rfl rfl (by kernel_rfl) (by kernel_rfl) (by kernel_rfl) (fun _ _ _ h => h) hS2 (MR.free rfl) (fun w hw => by simp [execOp, MR.ev, MR.size, hsz, e1, f1, e3, f3, e4, f4, go_sem]) ?_
            refine MR.takeH (i := 8) (some 23) (.bool false) rfl rfl (by kernel_rfl) (by kernel_rfl) (by kernel_rfl) (fun _ _ _ h => h) hS2 (MR.free rfl) (fun w hw => by simp [execOp, MR.ev, MR.size, hsz, e1, f1, e3, f3, e4, f4, go_sem]) ?_
            refine MR.takeH (i := 9) (some 24) (x.v) rfl rfl (by kernel_rfl) (by kernel_rfl) (by kernel_rfl) (fun _ _ _ h => h) hS2 (MR.want (d := 23) rfl rfl (by simp [MR.size, hsz]) (by simp [MR.ev, MR.size, hsz, e1, f1, e3, f3, e4, f4])) (fun w hw => MA.ex_load rfl (by simp [MR.ev, MR.size, hsz, e1, f1, e3, f3, e4, f4]) (MA.range_below hXr hw hq) Try.underlying24 rfl Try.sizeBundle rfl) ?_
            refine MR.takeH (i := 10) (some 25) (.pointer (some ⟨w0.heap.size, 0, none⟩)) rfl rfl (by kernel_rfl) (by kernel_rfl) (by kernel_rfl) (fun _ _ _ h => h) hS2 (MR.want (d := 23) rfl rfl (by simp [MR.size, hsz]) (by simp [MR.ev, MR.size, hsz, e1, f1, e3, f3, e4, f4])) (fun w hw => by simp [execOp, MR.ev, MR.size, hsz, e1, f1, e3, f3, e4, f4, go_sem]) ?_
            refine MR.takeH (i := 11) (some 26) (.slice (some ⟨b, off, none⟩) xs.length cap) rfl rfl (by kernel_rfl) (by kernel_rfl) (by kernel_rfl) (fun _ _ _ h => h) hS2 (MR.want (d := 23) rfl rfl (by simp [MR.size, hsz]) (by simp [MR.ev, MR.size, hsz, e1, f1, e3, f3, e4, f4])) (fun w hw => by simp [execOp, MR.ev, MR.size, hsz, e1, f1, e3, f3, e4, f4, (hw.cell (p := ⟨w0.heap.size, 0, none⟩) hwl).trans hcell, go_sem]) ?_
            refine MR.takeH (i := 12) (some 27) (.pointer (some ⟨b, off, none⟩)) rfl rfl (by kernel_rfl) (by kernel_rfl) (by kernel_rfl) (fun _ _ _ h => h) hS2 (MR.want (d := 23) rfl rfl (by simp [MR.size, hsz]) (by simp [MR.ev, MR.size, hsz, e1, f1, e3, f3, e4, f4])) (fun w hw => by simp [execOp, MR.ev, MR.size, hsz, e1, f1, e3, f3, e4, f4, hn0, go_sem]) ?_
            refine MR.takeH (i := 13) (some 28) (z.v) rfl rfl (by kernel_rfl) (by kernel_rfl) (by kernel_rfl) (fun _ _ _ h => h) hS2 (MR.want (d := 23) rfl rfl (by simp [MR.size, hsz]) (by simp [MR.ev, MR.size, hsz, e1, f1, e3, f3, e4, f4])) (fun w hw => MA.ex_load rfl (by simp [MR.ev, MR.size, hsz, e1, f1, e3, f3, e4, f4]) (MA.range_below hZr hw hbl) Try.underlying24 rfl Try.sizeBundle rfl) ?_
            refine MR.callH (i := 14) (some 29) (52) (#[x.v, z.v]) (by kernel_rfl) rfl rfl (MR.want (d := 23) rfl rfl (by simp [MR.size, hsz]) (by simp [MR.ev, MR.size, hsz, e1, f1, e3, f3, e4, f4])) (by simp [execOp, MR.ev, MR.size, hsz, e1, f1, e3, f3, e4, f4, go_sem]) ?_
            refine Calls.mono (LS.out _) ?_
            rintro e w3 ⟨rfl, hb3⟩
            have hS3 : Below W.heap.size W w3 := hS2.trans (hb3.mono hS2.size)
            refine ⟨_, rfl, hS3, ?_⟩
            refine MR.takeH (i := 15) (some 30) (.bool true) rfl rfl (by kernel_rfl) (by kernel_rfl) (by kernel_rfl) (fun _ _ _ h => h) hS3 (MR.want (d := 23) rfl rfl (by simp [MR.size, hsz]) (by simp [MR.ev, MR.size, hsz, e1, f1, e3, f3, e4, f4])) (fun w hw => by simp [execOp, MR.ev, MR.size, hsz, e1, f1, e3, f3, e4, f4, go_sem]) ?_
            refine MR.takeH (i := 16) (some 31) (.bool true) rfl rfl (by kernel_rfl) (by kernel_rfl) (by kernel_rfl) (fun _ _ _ h => h) hS3 (MR.free rfl) (fun w hw => by simp [execOp, MR.ev, MR.size, hsz, e1, f1, e3, f3, e4, f4, go_sem]) ?_
            refine MR.takeH (i := 17) (some 32) (.bool true) rfl rfl (by kernel_rfl) (by kernel_rfl) (by kernel_rfl) (fun _ _ _ h => h) hS3 (MR.free rfl) (fun w hw => by simp [execOp, MR.ev, MR.size, hsz, e1, f1, e3, f3, e4, f4, go_sem]) ?_
            refine MR.skipH (i := 18) (some 33) rfl rfl (by kernel_rfl) (by kernel_rfl) (by kernel_rfl) (fun _ _ _ h => h) hS3 (MR.unwant (d := 32) (b' := true) rfl rfl (by simp [MR.size, hsz]) (by simp [MR.ev, MR.size, hsz, e1, f1, e3, f3, e4, f4]) (by decide)) ?_
            refine MR.skipH (i := 19) (some 34) rfl rfl (by kernel_rfl) (by kernel_rfl) (by kernel_rfl) (fun _ _ _ h => h) hS3 (MR.unwant (d := 32) (b' := true) rfl rfl (by simp [MR.size, hsz]) (by simp [MR.ev, MR.size, hsz, e1, f1, e3, f3, e4, f4]) (by decide)) ?_
            refine MR.skipH (i := 20) (some 35) rfl rfl (by kernel_rfl) (by kernel_rfl) (by kernel_rfl) (fun _ _ _ h => h) hS3 (MR.unwant (d := 32) (b' := true) rfl rfl (by simp [MR.size, hsz]) (by simp [MR.ev, MR.size, hsz, e1, f1, e3, f3, e4, f4]) (by decide)) ?_
            refine MR.skipH (i := 21) (some 36) rfl rfl (by kernel_rfl) (by kernel_rfl) (by kernel_rfl) (fun _ _ _ h => h) hS3 (MR.unwantU (d := 35) rfl rfl (by simp [MR.size, hsz]) (by simp [MR.ev, MR.size, hsz, e1, f1, e3, f3, e4, f4])) ?_
            refine MR.skipH (i := 22) (some 37) rfl rfl (by kernel_rfl) (by kernel_rfl) (by kernel_rfl) (fun _ _ _ h => h) hS3 (MR.unwantU (d := 35) rfl rfl (by simp [MR.size, hsz]) (by simp [MR.ev, MR.size, hsz, e1, f1, e3, f3, e4, f4])) ?_
            refine MR.skipH (i := 23) (some 38) rfl rfl (by kernel_rfl) (by kernel_rfl) (by kernel_rfl) (fun _ _ _ h => h) hS3 (MR.unwantU (d := 35) rfl rfl (by simp [MR.size, hsz]) (by simp [MR.ev, MR.size, hsz, e1, f1, e3, f3, e4, f4])) ?_
            refine MR.skipH (i := 24) (some 39) rfl rfl (by kernel_rfl) (by kernel_rfl) (by kernel_rfl) (fun _ _ _ h => h) hS3 (MR.unwantU (d := 35) rfl rfl (by simp [MR.size, hsz]) (by simp [MR.ev, MR.size, hsz, e1, f1, e3, f3, e4, f4])) ?_
            refine MR.skipH (i := 25) (some 40) rfl rfl (by kernel_rfl) (by kernel_rfl) (by kernel_rfl) (fun _ _ _ h => h) hS3 (MR.unwantU (d := 35) rfl rfl (by simp [MR.size, hsz]) (by simp [MR.ev, MR.size, hsz, e1, f1, e3, f3, e4, f4])) ?_
            refine MR.skipH (i := 26) (some 41) rfl rfl (by kernel_rfl) (by kernel_rfl) (by kernel_rfl) (fun _ _ _ h => h) hS3 (MR.unwantU (d := 35) rfl rfl (by simp [MR.size, hsz]) (by simp [MR.ev, MR.size, hsz, e1, f1, e3, f3, e4, f4])) ?_
            refine MR.skipH (i := 27) (some 42) rfl rfl (by kernel_rfl) (by kernel_rfl) (by kernel_rfl) (fun _ _ _ h => h) hS3 (MR.unwantU (d := 35) rfl rfl (by simp [MR.size, hsz]) (by simp [MR.ev, MR.size, hsz, e1, f1, e3, f3, e4, f4])) ?_
            refine MR.skipH (i := 28) (some 43) rfl rfl (by kernel_rfl) (by kernel_rfl) (by kernel_rfl) (fun _ _ _ h => h) hS3 (MR.unwantU (d := 35) rfl rfl (by simp [MR.size, hsz]) (by simp [MR.ev, MR.size, hsz, e1, f1, e3, f3, e4, f4])) ?_
            refine MR.skipH (i := 29) (some 44) rfl rfl (by kernel_rfl) (by kernel_rfl) (by kernel_rfl) (fun _ _ _ h => h) hS3 (MR.unwantU (d := 35) rfl rfl (by simp [MR.size, hsz]) (by simp [MR.ev, MR.size, hsz, e1, f1, e3, f3, e4, f4])) ?_
            refine MR.skipH (i := 30) (some 45) rfl rfl (by kernel_rfl) (by kernel_rfl) (by kernel_rfl) (fun _ _ _ h => h) hS3 (MR.unwant (d := 32) (b' := true) rfl rfl (by simp [MR.size, hsz]) (by simp [MR.ev, MR.size, hsz, e1, f1, e3, f3, e4, f4]) (by decide)) ?_
            refine MR.takeH (i := 31) (some 46) (.bool true) rfl rfl (by kernel_rfl) (by kernel_rfl) (by kernel_rfl) (fun _ _ _ h => h) hS3 (MR.free rfl) (fun w hw => by simp [execOp, MR.ev, MR.size, hsz, e1, f1, e3, f3, e4, f4, go_sem]) ?_
            refine wpAnyH_done (by kernel_rfl) ?_ _
            have hB7 : Below W.heap.size W w3 := hS3
            rw [HA.out]
            clear hS hS2 hS3 HA e1 e3 e4 f1 f3 f4 hsz hb2 hb3 hx0 hZr GB LS LB hn0
            generalize w3 = W7 at *
            simp only [Act.put, List.setIfInBounds_toArray, List.set_cons_succ, List.set_cons_zero]
            have hb : Below w0.heap.size w0 W7 := hbW.trans (hB7.mono hbW.size)
            clear hB7 hXr hU hcell htl hbW
            go_wp2
            go_ret
            exact ⟨retBs hF.out, hb⟩
          | true =>
            have LS : Hid _ := fun W => l4Same_any x z W true ho
            by_cases hz : k = 0
            · have LB : Hid True := trivial
              have HST : Hid (PL.stepS xs k = PL.upto (fun j => PL.agr x (MP.at_ xs j)) k) := by show _ = _; unfold PL.stepS; rw [HXX.out, HZZ.out, HPG.out, ho]; simp [hz]
              clear ho HZZ hrow
              refine MR.frame fun A hA => ?_
              have hsz : A.tmps.size = 66 := by rw [hA]; rfl
              have e1 : A.eval (.tmp 1) = .pointer (some ⟨w0.heap.size, 0, none⟩) := by rw [hA]; rfl
              have f1 := MR.read (t := 1) (by rw [hsz]; decide) e1
              have e3 : A.eval (.tmp 3) = .int .i64 (k : Int) := by rw [hA]; rfl
              have f3 := MR.read (t := 3) (by rw [hsz]; decide) e3
              have e4 : A.eval (.tmp 4) = .pointer (some ⟨wr.heap.size, 0, none⟩) := by rw [hA]; rfl
              have f4 := MR.read (t := 4) (by rw [hsz]; decide) e4
              have HA : Hid (A = _) := hA
              clear hA
              have hS : (fun w' : World => Below W.heap.size W w') (World.drew _) := ((Below.refl _ W).drew)
              refine wp_region_held (S := fun w' : World => Below W.heap.size W w') (by kernel_rfl) ?_
              change wpAnyH _ _ _ _ _ _ _ _ (World.drew _)
              refine MR.takeH (i := 0) (some 15) (x.v) rfl rfl (by kernel_rfl) (by kernel_rfl) (by kernel_rfl) (fun _ _ _ h => h) hS (MR.free rfl) (fun w hw => MA.ex_load rfl (by simp [MR.ev, MR.size, hsz, e1, f1, e3, f3, e4, f4]) (MA.range_below hXr hw hq) Try.underlying24 rfl Try.sizeBundle rfl) ?_
              refine MR.callH (i := 1) (some 16) (36) (#[x.v]) (by kernel_rfl) rfl rfl (MR.free rfl) (by simp [execOp, MR.ev, MR.size, hsz, e1, f1, e3, f3, e4, f4, go_sem]) ?_
              refine Calls.mono (GB.out _) ?_
              rintro e w2 ⟨rfl, hb2⟩
              have hS2 : Below W.heap.size W w2 := hS.trans (hb2.mono hS.size)
              refine ⟨_, rfl, hS2, ?_⟩
              refine MR.takeH (i := 2) (some 17) (.bool false) rfl rfl (by kernel_rfl) (by kernel_rfl) (by kernel_rfl) (fun _ _ _ h => h) hS2 (MR.free rfl) (fun w hw => by simp [execOp, MR.ev, MR.size, hsz, e1, f1, e3, f3, e4, f4, go_sem]) ?_
              refine MR.takeH (i := 3) (some 18) (.bool false) rfl rfl (by kernel_rfl) (by kernel_rfl) (by kernel_rfl) (fun _ _ _ h => h) hS2 (MR.free rfl) (fun w hw => by simp [execOp, MR.ev, MR.size, hsz, e1, f1, e3, f3, e4, f4, go_sem]) ?_
              refine MR.takeH (i := 4) (some 19) (.pointer (some ⟨wr.heap.size, 8, none⟩)) rfl rfl (by kernel_rfl) (by kernel_rfl) (by kernel_rfl) (fun _ _ _ h => h) hS2 (MR.want (d := 18) rfl rfl (by simp [MR.size, hsz]) (by simp [MR.ev, MR.size, hsz, e1, f1, e3, f3, e4, f4])) (fun w hw => by simp [execOp, MR.ev, MR.size, hsz, e1, f1, e3, f3, e4, f4, go_sem]) ?_
              refine MR.takeH (i := 5) (some 20) (.int .i64 x.tl) rfl rfl (by kernel_rfl) (by kernel_rfl) (by kernel_rfl) (fun _ _ _ h => h) hS2 (MR.want (d := 18) rfl rfl (by simp [MR.size, hsz]) (by simp [MR.ev, MR.size, hsz, e1, f1, e3, f3, e4, f4])) (fun w hw => by simp [execOp, MR.ev, MR.size, hsz, e1, f1, e3, f3, e4, f4, (hw.cell (p := ⟨wr.heap.size, 8, none⟩) hq).trans htl, go_sem]) ?_
              refine MR.takeH (i := 6) (some 21) (.bool false) rfl rfl (by kernel_rfl) (by kernel_rfl) (by kernel_rfl) (fun _ _ _ h => h) hS2 (MR.want (d := 18) rfl rfl (by simp [MR.size, hsz]) (by simp [MR.ev, MR.size, hsz, e1, f1, e3, f3, e4, f4])) (fun w hw => by simp [execOp, MR.ev, MR.size, hsz, e1, f1, e3, f3, e4, f4, hx0, go_sem]) ?_
              refine MR.takeH (i := 7) (some 22) (.bool false) rfl rfl (by kernel_rfl) (by kernel_rfl) (by kernel_rfl) (fun _ _ _ h => h) hS2 (MR.free rfl) (fun w hw => by simp [execOp, MR.ev, MR.size, hsz, e1, f1, e3, f3, e4, f4, go_sem]) ?_
              refine MR.takeH (i := 8) (some 23) (.bool false) rfl rfl (by kernel_rfl) (by kernel_rfl) (by kernel_rfl) (fun _ _ _ h => h) hS2 (MR.free rfl) (fun w hw => by simp [execOp, MR.ev, MR.size, hsz, e1, f1, e3, f3, e4, f4, go_sem]) ?_
              refine MR.takeH (i := 9) (some 24) (x.v) rfl rfl (by kernel_rfl) (by kernel_rfl) (by kernel_rfl) (fun _ _ _ h => h) hS2 (MR.want (d := 23) rfl rfl (by simp [MR.size, hsz]) (by simp [MR.ev, MR.size, hsz, e1, f1, e3, f3, e4, f4])) (fun w hw => MA.ex_load rfl (by simp [MR.ev, MR.size, hsz, e1, f1, e3, f3, e4, f4]) (MA.range_below hXr hw hq) Try.underlying24 rfl Try.sizeBundle rfl) ?_
              refine MR.takeH (i := 10) (some 25) (.pointer (some ⟨w0.heap.size, 0, none⟩)) rfl rfl (by kernel_rfl) (by kernel_rfl) (by kernel_rfl) (fun _ _ _ h => h) hS2 (MR.want (d := 23) rfl rfl (by simp [MR.size, hsz]) (by simp [MR.ev, MR.size, hsz, e1, f1, e3, f3, e4, f4])) (fun w hw => by simp [execOp, MR.ev, MR.size, hsz, e1, f1, e3, f3, e4, f4, go_sem]) ?_
              refine MR.takeH (i := 11) (some 26) (.slice (some ⟨b, off, none⟩) xs.length cap) rfl rfl (by kernel_rfl) (by kernel_rfl) (by kernel_rfl) (fun _ _ _ h => h) hS2 (MR.want (d := 23) rfl rfl (by simp [MR.size, hsz]) (by simp [MR.ev, MR.size, hsz, e1, f1, e3, f3, e4, f4])) (fun w hw => by simp [execOp, MR.ev, MR.size, hsz, e1, f1, e3, f3, e4, f4, (hw.cell (p := ⟨w0.heap.size, 0, none⟩) hwl).trans hcell, go_sem]) ?_
              refine MR.takeH (i := 12) (some 27) (.pointer (some ⟨b, off, none⟩)) rfl rfl (by kernel_rfl) (by kernel_rfl) (by kernel_rfl) (fun _ _ _ h => h) hS2 (MR.want (d := 23) rfl rfl (by simp [MR.size, hsz]) (by simp [MR.ev, MR.size, hsz, e1, f1, e3, f3, e4, f4])) (fun w hw => by simp [execOp, MR.ev, MR.size, hsz, e1, f1, e3, f3, e4, f4, hn0, go_sem]) ?_
              refine MR.takeH (i := 13) (some 28) (z.v) rfl rfl (by kernel_rfl) (by kernel_rfl) (by kernel_rfl) (fun _ _ _ h => h) hS2 (MR.want (d := 23) rfl rfl (by simp [MR.size, hsz]) (by simp [MR.ev, MR.size, hsz, e1, f1, e3, f3, e4, f4])) (fun w hw => MA.ex_load rfl (by simp [MR.ev, MR.size, hsz, e1, f1, e3, f3, e4, f4]) (MA.range_below hZr hw hbl) Try.underlying24 rfl Try.sizeBundle rfl) ?_
              refine MR.callH (i := 14) (some 29) (52) (#[x.v, z.v]) (by kernel_rfl) rfl rfl (MR.want (d := 23) rfl rfl (by simp [MR.size, hsz]) (by simp [MR.ev, MR.size, hsz, e1, f1, e3, f3, e4, f4])) (by simp [execOp, MR.ev, MR.size, hsz, e1, f1, e3, f3, e4, f4, go_sem]) ?_
              refine Calls.mono (LS.out _) ?_
              rintro e w3 ⟨rfl, hb3⟩
              have hS3 : Below W.heap.size W w3 := hS2.trans (hb3.mono hS2.size)
              refine ⟨_, rfl, hS3, ?_⟩
              refine MR.takeH (i := 15) (some 30) (.bool false) rfl rfl (by kernel_rfl) (by kernel_rfl) (by kernel_rfl) (fun _ _ _ h => h) hS3 (MR.want (d := 23) rfl rfl (by simp [MR.size, hsz]) (by simp [MR.ev, MR.size, hsz, e1, f1, e3, f3, e4, f4])) (fun w hw => by simp [execOp, MR.ev, MR.size, hsz, e1, f1, e3, f3, e4, f4, go_sem]) ?_
              refine MR.takeH (i := 16) (some 31) (.bool false) rfl rfl (by kernel_rfl) (by kernel_rfl) (by kernel_rfl) (fun _ _ _ h => h) hS3 (MR.free rfl) (fun w hw => by simp [execOp, MR.ev, MR.size, hsz, e1, f1, e3, f3, e4, f4, go_sem]) ?_
              refine MR.takeH (i := 17) (some 32) (.bool false) rfl rfl (by kernel_rfl) (by kernel_rfl) (by kernel_rfl) (fun _ _ _ h => h) hS3 (MR.free rfl) (fun w hw => by simp [execOp, MR.ev, MR.size, hsz, e1, f1, e3, f3, e4, f4, go_sem]) ?_
              refine MR.takeH (i := 18) (some 33) (.int .i64 (k : Int)) rfl rfl (by kernel_rfl) (by kernel_rfl) (by kernel_rfl) (fun _ _ _ h => h) hS3 (MR.want (d := 32) rfl rfl (by simp [MR.size, hsz]) (by simp [MR.ev, MR.size, hsz, e1, f1, e3, f3, e4, f4])) (fun w hw => by simp [execOp, MR.ev, MR.size, hsz, e1, f1, e3, f3, e4, f4, go_sem]) ?_
              refine MR.takeH (i := 19) (some 34) (.bool false) rfl rfl (by kernel_rfl) (by kernel_rfl) (by kernel_rfl) (fun _ _ _ h => h) hS3 (MR.want (d := 32) rfl rfl (by simp [MR.size, hsz]) (by simp [MR.ev, MR.size, hsz, e1, f1, e3, f3, e4, f4])) (fun w hw => by simp [execOp, MR.ev, MR.size, hsz, e1, f1, e3, f3, e4, f4, hz, go_sem]) ?_
              refine MR.takeH (i := 20) (some 35) (.bool false) rfl rfl (by kernel_rfl) (by kernel_rfl) (by kernel_rfl) (fun _ _ _ h => h) hS3 (MR.want (d := 32) rfl rfl (by simp [MR.size, hsz]) (by simp [MR.ev, MR.size, hsz, e1, f1, e3, f3, e4, f4])) (fun w hw => by simp [execOp, MR.ev, MR.size, hsz, e1, f1, e3, f3, e4, f4, go_sem]) ?_
              refine MR.skipH (i := 21) (some 36) rfl rfl (by kernel_rfl) (by kernel_rfl) (by kernel_rfl) (fun _ _ _ h => h) hS3 (MR.unwant (d := 35) (b' := false) rfl rfl (by simp [MR.size, hsz]) (by simp [MR.ev, MR.size, hsz, e1, f1, e3, f3, e4, f4]) (by decide)) ?_
              refine MR.skipH (i := 22) (some 37) rfl rfl (by kernel_rfl) (by kernel_rfl) (by kernel_rfl) (fun _ _ _ h => h) hS3 (MR.unwant (d := 35) (b' := false) rfl rfl (by simp [MR.size, hsz]) (by simp [MR.ev, MR.size, hsz, e1, f1, e3, f3, e4, f4]) (by decide)) ?_
              refine MR.skipH (i := 23) (some 38) rfl rfl (by kernel_rfl) (by kernel_rfl) (by kernel_rfl) (fun _ _ _ h => h) hS3 (MR.unwant (d := 35) (b' := false) rfl rfl (by simp [MR.size, hsz]) (by simp [MR.ev, MR.size, hsz, e1, f1, e3, f3, e4, f4]) (by decide)) ?_
              refine MR.skipH (i := 24) (some 39) rfl rfl (by kernel_rfl) (by kernel_rfl) (by kernel_rfl) (fun _ _ _ h => h) hS3 (MR.unwant (d := 35) (b' := false) rfl rfl (by simp [MR.size, hsz]) (by simp [MR.ev, MR.size, hsz, e1, f1, e3, f3, e4, f4]) (by decide)) ?_
              refine MR.skipH (i := 25) (some 40) rfl rfl (by kernel_rfl) (by kernel_rfl) (by kernel_rfl) (fun _ _ _ h => h) hS3 (MR.unwant (d := 35) (b' := false) rfl rfl (by simp [MR.size, hsz]) (by simp [MR.ev, MR.size, hsz, e1, f1, e3, f3, e4, f4]) (by decide)) ?_
              refine MR.skipH (i := 26) (some 41) rfl rfl (by kernel_rfl) (by kernel_rfl) (by kernel_rfl) (fun _ _ _ h => h) hS3 (MR.unwant (d := 35) (b' := false) rfl rfl (by simp [MR.size, hsz]) (by simp [MR.ev, MR.size, hsz, e1, f1, e3, f3, e4, f4]) (by decide)) ?_
              refine MR.skipH (i := 27) (some 42) rfl rfl (by kernel_rfl) (by kernel_rfl) (by kernel_rfl) (fun _ _ _ h => h) hS3 (MR.unwant (d := 35) (b' := false) rfl rfl (by simp [MR.size, hsz]) (by simp [MR.ev, MR.size, hsz, e1, f1, e3, f3, e4, f4]) (by decide)) ?_
              refine MR.skipH (i := 28) (some 43) rfl rfl (by kernel_rfl) (by kernel_rfl) (by kernel_rfl) (fun _ _ _ h => h) hS3 (MR.unwant (d := 35) (b' := false) rfl rfl (by simp [MR.size, hsz]) (by simp [MR.ev, MR.size, hsz, e1, f1, e3, f3, e4, f4]) (by decide)) ?_
              refine MR.skipH (i := 29) (some 44) rfl rfl (by kernel_rfl) (by kernel_rfl) (by kernel_rfl) (fun _ _ _ h => h) hS3 (MR.unwant (d := 35) (b' := false) rfl rfl (by simp [MR.size, hsz]) (by simp [MR.ev, MR.size, hsz, e1, f1, e3, f3, e4, f4]) (by decide)) ?_
              refine MR.takeH (i := 30) (some 45) (.bool false) rfl rfl (by kernel_rfl) (by kernel_rfl) (by kernel_rfl) (fun _ _ _ h => h) hS3 (MR.want (d := 32) rfl rfl (by simp [MR.size, hsz]) (by simp [MR.ev, MR.size, hsz, e1, f1, e3, f3, e4, f4])) (fun w hw => by simp [execOp, MR.ev, MR.size, hsz, e1, f1, e3, f3, e4, f4, go_sem]) ?_
              refine MR.takeH (i := 31) (some 46) (.bool false) rfl rfl (by kernel_rfl) (by kernel_rfl) (by kernel_rfl) (fun _ _ _ h => h) hS3 (MR.free rfl) (fun w hw => by simp [execOp, MR.ev, MR.size, hsz, e1, f1, e3, f3, e4, f4, go_sem]) ?_
              refine wpAnyH_done (by kernel_rfl) ?_ _
              have hB7 : Below W.heap.size W w3 := hS3
              rw [HA.out]
              clear hS hS2 hS3 HA e1 e3 e4 f1 f3 f4 hsz hb2 hb3 hz hx0 hZr GB LS LB hn0
              generalize w3 = W7 at *
              simp only [Act.put, List.setIfInBounds_toArray, List.set_cons_succ, List.set_cons_zero]
              have hb : Below w0.heap.size w0 W7 := hbW.trans (hB7.mono hbW.size)
              have hc7 : W7.cell? ⟨w0.heap.size, 0, none⟩ = some (.slice (some ⟨b, off, none⟩) xs.length cap) := (hB7.cell (p := ⟨w0.heap.size, 0, none⟩) hwl).trans hcell
              have HX7 : Hid (W7.rangeAt wr.heap.size 0 x.cs) := MA.range_below hXr hB7 hq
              have hq7 : wr.heap.size < W7.heap.size := Nat.lt_of_lt_of_le hq hB7.size
              have hw7 : w0.heap.size < W7.heap.size := Nat.lt_of_lt_of_le hwl hB7.size
              clear hB7 hXr hcell htl hbW hq hwl hbl hbl0
              generalize wr.heap.size = qx at *
              go_wp2
              go_loopw [52] (fun iv wr2 => ∃ j : Nat, iv = .int .i64 j ∧ j ≤ k ∧ Hid (PL.upto (fun j => PL.agr x (MP.at_ xs j)) j = true) ∧ Hid (wr2.rangeAt qx 0 x.cs) ∧ wr2.cell? ⟨w0.heap.size, 0, none⟩ = some (.slice (some ⟨b, off, none⟩) xs.length cap) ∧ qx < wr2.heap.size ∧ w0.heap.size < wr2.heap.size ∧ Below w0.heap.size w0 wr2) (fun iv _ => (k - intOf iv).toNat)
              case atStart => exact ⟨0, rfl, by omega, PL.upto_zero _, HX7, hc7, hq7, hw7, hb⟩
              case round =>
                clear HX7 hc7 hq7 hw7 hb
                obtain ⟨j, rfl, hj, hV, HX, hca, hqa, hwa, hba⟩ := hrel
                by_cases hjl : j < k
                · obtain ⟨b', off', hab, hbl, rg⟩ := MA.row_range (hin.below hba) (k := j) (by omega)
                  cases hab
                  have hpgj : PL.pg (MP.at_ xs j) = true := by
                    have := PL.upto_iff.1 hU.out j hjl
                    simp only [PL.stepS, Bool.and_eq_true] at this
                    exact this.1.1.1
                  obtain ⟨y, hy⟩ : ∃ y, MP.at_ xs j = y := ⟨_, rfl⟩
                  have HYY : Hid (MP.at_ xs j = y) := hy
                  rw [hy] at rg hpgj
                  have RG : Hid _ := rg
                  have AG : Hid (∀ W, Calls Try.prog 53 #[.agg x.cs.toArray, .agg y.cs.toArray] W fun e w' => e = .returned (.bool (PL.agr x y)) ∧ Below W.heap.size W w') := fun W => l4Agrees_any x y W HPG.out hpgj _ rfl
                  have HW : Hid _ := new_bundle wr y 24
                  have RN : Hid _ := MA.Rg.new wr (Bd.cs B1.zero) 24
                  have hj0 : (0 : Int) ≤ (j : Int) := by omega
                  have hjn : (j : Int) < (k : Int) := by omega
                  clear hy rg hpgj
                  go_wp2_with (first
                    | (refine MA.load_r rfl 24 _ rfl rfl (cs := y.cs) ?_ Try.underlying24 rfl Try.sizeBundle rfl ?_; exact RG.out)
                    | (refine MA.load_r rfl 24 _ rfl rfl (cs := x.cs) ?_ Try.underlying24 rfl Try.sizeBundle rfl ?_; exact HXW.out)
                    | (refine MA.load_r rfl 24 _ rfl rfl (cs := y.cs) ?_ Try.underlying24 rfl Try.sizeBundle rfl ?_; exact HYW.out)
                    | (refine MA.alloc_z rfl 24 rfl _ _ Try.infoBundle ?_; simp only [MA.sz_alloc])
                    | (refine MA.store_m rfl 24 _ _ rfl rfl rfl (cs := Bd.cs B1.zero) ?_ Try.sizeBundle rfl rfl (MA.cs_one y) ?_; exact RN.out; clear RN RG; generalize World.setCells _ _ _ _ = W2 at *; have HXW : Hid (W2.rangeAt qx 0 x.cs) := MA.range_below HX.out HW.out.1 hqa; have HYW : Hid (W2.rangeAt wr.heap.size 0 y.cs) := HW.out.2.rng))
                  refine Calls.mono (AG.out _) ?_
                  rintro e w9 ⟨rfl, hb9⟩
                  have hWa := HW.out.1
                  have hX9 : Hid (w9.rangeAt qx 0 x.cs) := MA.range_below (MA.range_below HX.out hWa hqa) hb9 (Nat.lt_of_lt_of_le hqa hWa.size)
                  have hc9 : w9.cell? ⟨w0.heap.size, 0, none⟩ = some (.slice (some ⟨b, off, none⟩) xs.length cap) := (hb9.cell (p := ⟨w0.heap.size, 0, none⟩) (Nat.lt_of_lt_of_le hwa hWa.size)).trans ((hWa.cell (p := ⟨w0.heap.size, 0, none⟩) hwa).trans hca)
                  have hq9 : qx < w9.heap.size := Nat.lt_of_lt_of_le hqa (Nat.le_trans hWa.size hb9.size)
                  have hw9 : w0.heap.size < w9.heap.size := Nat.lt_of_lt_of_le hwa (Nat.le_trans hWa.size hb9.size)
                  have hB9 : Below w0.heap.size w0 w9 := (hba.trans (hWa.mono hba.size)).trans (hb9.mono (Nat.le_trans hba.size hWa.size))
                  clear AG HW hWa hb9 HX HXW HYW hca hqa hwa hba hbl
                  cases hag : PL.agr x y with
                  | false =>
                    have hF : Hid (false = PL.good xs) := good_step hl (by rw [HST.out]; exact PL.upto_no hjl (by rw [HYY.out]; exact hag))
                    clear hag HST HYY hV hU HPG HXX
                    go_wp2
                    go_ret
                    exact ⟨retBs hF.out, hB9⟩
                  | true =>
                    have hV' : Hid (PL.upto (fun j => PL.agr x (MP.at_ xs j)) (j + 1) = true) := PL.upto_succ hV.out (by rw [HYY.out]; exact hag)
                    clear hag HYY hV
                    go_wp2
                    go_roundw
                    case rel => exact ⟨j + 1, by go_num, by omega, hV', hX9, hc9, hq9, hw9, hB9⟩
                    case measure => simp [intOf]; omega
                · obtain rfl : j = k := by omega
                  have hU' : Hid (PL.upto (PL.stepS xs) (j + 1) = true) := PL.upto_succ hU.out (by rw [HST.out]; exact hV.out)
                  clear hU HST hV HPG HXX HX
                  go_wp2
                  go_roundw
                  case rel => exact ⟨j + 1, by go_num, by omega, hU', hca, hwa, hba⟩
                  case measure => simp [intOf]; omega
            · obtain ⟨k', hk'⟩ : ∃ k', k = k' + 1 := ⟨k - 1, by omega⟩
              obtain ⟨b', off', hab, _, hYr⟩ := MA.row_range hrow (k := k') (by omega)
              cases hab
              obtain ⟨y, hy⟩ : ∃ y, MP.at_ xs k' = y := ⟨_, rfl⟩
              have hpy : y.py.size ≤ 1048576 := hy ▸ ht.out k' (by omega)
              rw [hy] at hYr
              have hk1 : (k : Int) - 1 = (k' : Int) := by omega
              have hk2 : IntKind.i64.wrap (k' : Int) = (k' : Int) := M1.i64_wrap k' (by omega)
              have hk3 : (0 : Int) ≤ (k' : Int) := by omega
              have hk4 : k' < xs.length := by omega
              have hgt : 0 < k := by omega
              have HST : Hid (PL.stepS xs k = (PL.ahead y x && PL.upto (fun j => PL.agr x (MP.at_ xs j)) k)) := by show _ = _; unfold PL.stepS; rw [HXX.out, HZZ.out, HPG.out, ho, hk', Nat.add_sub_cancel, hy]; simp
              clear hy hk' hz hrow ho HZZ
              cases hah : PL.ahead y x with
              | false =>
                have LB : Hid _ := fun W => l4Before_any y x W hpy hpx false hah
                have hF : Hid (false = PL.good xs) := good_step hl (by rw [HST.out, hah]; rfl)
                clear hah HST HPG HXX
                refine MR.frame fun A hA => ?_
                have hsz : A.tmps.size = 66 := by rw [hA]; rfl
                have e1 : A.eval (.tmp 1) = .pointer (some ⟨w0.heap.size, 0, none⟩) := by rw [hA]; rfl
                have f1 := MR.read (t := 1) (by rw [hsz]; decide) e1
                have e3 : A.eval (.tmp 3) = .int .i64 (k : Int) := by rw [hA]; rfl
                have f3 := MR.read (t := 3) (by rw [hsz]; decide) e3
                have e4 : A.eval (.tmp 4) = .pointer (some ⟨wr.heap.size, 0, none⟩) := by rw [hA]; rfl
                have f4 := MR.read (t := 4) (by rw [hsz]; decide) e4
                have HA : Hid (A = _) := hA
                clear hA
                have hS : (fun w' : World => Below W.heap.size W w') (World.drew _) := ((Below.refl _ W).drew)
                refine wp_region_held (S := fun w' : World => Below W.heap.size W w') (by kernel_rfl) ?_
                change wpAnyH _ _ _ _ _ _ _ _ (World.drew _)
                refine MR.takeH (i := 0) (some 15) (x.v) rfl rfl (by kernel_rfl) (by kernel_rfl) (by kernel_rfl) (fun _ _ _ h => h) hS (MR.free rfl) (fun w hw => MA.ex_load rfl (by simp [MR.ev, MR.size, hsz, e1, f1, e3, f3, e4, f4]) (MA.range_below hXr hw hq) Try.underlying24 rfl Try.sizeBundle rfl) ?_
                refine MR.callH (i := 1) (some 16) (36) (#[x.v]) (by kernel_rfl) rfl rfl (MR.free rfl) (by simp [execOp, MR.ev, MR.size, hsz, e1, f1, e3, f3, e4, f4, go_sem]) ?_
                refine Calls.mono (GB.out _) ?_
                rintro e w2 ⟨rfl, hb2⟩
                have hS2 : Below W.heap.size W w2 := hS.trans (hb2.mono hS.size)
                refine ⟨_, rfl, hS2, ?_⟩
                refine MR.takeH (i := 2) (some 17) (.bool false) rfl rfl (by kernel_rfl) (by kernel_rfl) (by kernel_rfl) (fun _ _ _ h => h) hS2 (MR.free rfl) (fun w hw => by simp [execOp, MR.ev, MR.size, hsz, e1, f1, e3, f3, e4, f4, go_sem]) ?_
                refine MR.takeH (i := 3) (some 18) (.bool false) rfl rfl (by kernel_rfl) (by kernel_rfl) (by kernel_rfl) (fun _ _ _ h => h) hS2 (MR.free rfl) (fun w hw => by simp [execOp, MR.ev, MR.size, hsz, e1, f1, e3, f3, e4, f4, go_sem]) ?_
                refine MR.takeH (i := 4) (some 19) (.pointer (some ⟨wr.heap.size, 8, none⟩)) rfl rfl (by kernel_rfl) (by kernel_rfl) (by kernel_rfl) (fun _ _ _ h => h) hS2 (MR.want (d := 18) rfl rfl (by simp [MR.size, hsz]) (by simp [MR.ev, MR.size, hsz, e1, f1, e3, f3, e4, f4])) (fun w hw => by simp [execOp, MR.ev, MR.size, hsz, e1, f1, e3, f3, e4, f4, go_sem]) ?_
                refine MR.takeH (i := 5) (some 20) (.int .i64 x.tl) rfl rfl (by kernel_rfl) (by kernel_rfl) (by kernel_rfl) (fun _ _ _ h => h) hS2 (MR.want (d := 18) rfl rfl (by simp [MR.size, hsz]) (by simp [MR.ev, MR.size, hsz, e1, f1, e3, f3, e4, f4])) (fun w hw => by simp [execOp, MR.ev, MR.size, hsz, e1, f1, e3, f3, e4, f4, (hw.cell (p := ⟨wr.heap.size, 8, none⟩) hq).trans htl, go_sem]) ?_
                refine MR.takeH (i := 6) (some 21) (.bool false) rfl rfl (by kernel_rfl) (by kernel_rfl) (by kernel_rfl) (fun _ _ _ h => h) hS2 (MR.want (d := 18) rfl rfl (by simp [MR.size, hsz]) (by simp [MR.ev, MR.size, hsz, e1, f1, e3, f3, e4, f4])) (fun w hw => by simp [execOp, MR.ev, MR.size, hsz, e1, f1, e3, f3, e4, f4, hx0, go_sem]) ?_
                refine MR.takeH (i := 7) (some 22) (.bool false) rfl rfl (by kernel_rfl) (by kernel_rfl) (by kernel_rfl) (fun _ _ _ h => h) hS2 (MR.free rfl) (fun w hw => by simp [execOp, MR.ev, MR.size, hsz, e1, f1, e3, f3, e4, f4, go_sem]) ?_
                refine MR.takeH (i := 8) (some 23) (.bool false) rfl rfl (by kernel_rfl) (by kernel_rfl) (by kernel_rfl) (fun _ _ _ h => h) hS2 (MR.free rfl) (fun w hw => by simp [execOp, MR.ev, MR.size, hsz, e1, f1, e3, f3, e4, f4, go_sem]) ?_
                refine MR.takeH (i := 9) (some 24) (x.v) rfl rfl (by kernel_rfl) (by kernel_rfl) (by kernel_rfl) (fun _ _ _ h => h) hS2 (MR.want (d := 23) rfl rfl (by simp [MR.size, hsz]) (by simp [MR.ev, MR.size, hsz, e1, f1, e3, f3, e4, f4])) (fun w hw => MA.ex_load rfl (by simp [MR.ev, MR.size, hsz, e1, f1, e3, f3, e4, f4]) (MA.range_below hXr hw hq) Try.underlying24 rfl Try.sizeBundle rfl) ?_
                refine MR.takeH (i := 10) (some 25) (.pointer (some ⟨w0.heap.size, 0, none⟩)) rfl rfl (by kernel_rfl) (by kernel_rfl) (by kernel_rfl) (fun _ _ _ h => h) hS2 (MR.want (d := 23) rfl rfl (by simp [MR.size, hsz]) (by simp [MR.ev, MR.size, hsz, e1, f1, e3, f3, e4, f4])) (fun w hw => by simp [execOp, MR.ev, MR.size, hsz, e1, f1, e3, f3, e4, f4, go_sem]) ?_
                refine MR.takeH (i := 11) (some 26) (.slice (some ⟨b, off, none⟩) xs.length cap) rfl rfl (by kernel_rfl) (by kernel_rfl) (by kernel_rfl) (fun _ _ _ h => h) hS2 (MR.want (d := 23) rfl rfl (by simp [MR.size, hsz]) (by simp [MR.ev, MR.size, hsz, e1, f1, e3, f3, e4, f4])) (fun w hw => by simp [execOp, MR.ev, MR.size, hsz, e1, f1, e3, f3, e4, f4, (hw.cell (p := ⟨w0.heap.size, 0, none⟩) hwl).trans hcell, go_sem]) ?_
                refine MR.takeH (i := 12) (some 27) (.pointer (some ⟨b, off, none⟩)) rfl rfl (by kernel_rfl) (by kernel_rfl) (by kernel_rfl) (fun _ _ _ h => h) hS2 (MR.want (d := 23) rfl rfl (by simp [MR.size, hsz]) (by simp [MR.ev, MR.size, hsz, e1, f1, e3, f3, e4, f4])) (fun w hw => by simp [execOp, MR.ev, MR.size, hsz, e1, f1, e3, f3, e4, f4, hn0, go_sem]) ?_
                refine MR.takeH (i := 13) (some 28) (z.v) rfl rfl (by kernel_rfl) (by kernel_rfl) (by kernel_rfl) (fun _ _ _ h => h) hS2 (MR.want (d := 23) rfl rfl (by simp [MR.size, hsz]) (by simp [MR.ev, MR.size, hsz, e1, f1, e3, f3, e4, f4])) (fun w hw => MA.ex_load rfl (by simp [MR.ev, MR.size, hsz, e1, f1, e3, f3, e4, f4]) (MA.range_below hZr hw hbl) Try.underlying24 rfl Try.sizeBundle rfl) ?_
                refine MR.callH (i := 14) (some 29) (52) (#[x.v, z.v]) (by kernel_rfl) rfl rfl (MR.want (d := 23) rfl rfl (by simp [MR.size, hsz]) (by simp [MR.ev, MR.size, hsz, e1, f1, e3, f3, e4, f4])) (by simp [execOp, MR.ev, MR.size, hsz, e1, f1, e3, f3, e4, f4, go_sem]) ?_
                refine Calls.mono (LS.out _) ?_
                rintro e w3 ⟨rfl, hb3⟩
                have hS3 : Below W.heap.size W w3 := hS2.trans (hb3.mono hS2.size)
                refine ⟨_, rfl, hS3, ?_⟩
                refine MR.takeH (i := 15) (some 30) (.bool false) rfl rfl (by kernel_rfl) (by kernel_rfl) (by kernel_rfl) (fun _ _ _ h => h) hS3 (MR.want (d := 23) rfl rfl (by simp [MR.size, hsz]) (by simp [MR.ev, MR.size, hsz, e1, f1, e3, f3, e4, f4])) (fun w hw => by simp [execOp, MR.ev, MR.size, hsz, e1, f1, e3, f3, e4, f4, go_sem]) ?_
                refine MR.takeH (i := 16) (some 31) (.bool false) rfl rfl (by kernel_rfl) (by kernel_rfl) (by kernel_rfl) (fun _ _ _ h => h) hS3 (MR.free rfl) (fun w hw => by simp [execOp, MR.ev, MR.size, hsz, e1, f1, e3, f3, e4, f4, go_sem]) ?_
                refine MR.takeH (i := 17) (some 32) (.bool false) rfl rfl (by kernel_rfl) (by kernel_rfl) (by kernel_rfl) (fun _ _ _ h => h) hS3 (MR.free rfl) (fun w hw => by simp [execOp, MR.ev, MR.size, hsz, e1, f1, e3, f3, e4, f4, go_sem]) ?_
                refine MR.takeH (i := 18) (some 33) (.int .i64 (k : Int)) rfl rfl (by kernel_rfl) (by kernel_rfl) (by kernel_rfl) (fun _ _ _ h => h) hS3 (MR.want (d := 32) rfl rfl (by simp [MR.size, hsz]) (by simp [MR.ev, MR.size, hsz, e1, f1, e3, f3, e4, f4])) (fun w hw => by simp [execOp, MR.ev, MR.size, hsz, e1, f1, e3, f3, e4, f4, go_sem]) ?_
                refine MR.takeH (i := 19) (some 34) (.bool true) rfl rfl (by kernel_rfl) (by kernel_rfl) (by kernel_rfl) (fun _ _ _ h => h) hS3 (MR.want (d := 32) rfl rfl (by simp [MR.size, hsz]) (by simp [MR.ev, MR.size, hsz, e1, f1, e3, f3, e4, f4])) (fun w hw => by simp [execOp, MR.ev, MR.size, hsz, e1, f1, e3, f3, e4, f4, hgt, go_sem]) ?_
                refine MR.takeH (i := 20) (some 35) (.bool true) rfl rfl (by kernel_rfl) (by kernel_rfl) (by kernel_rfl) (fun _ _ _ h => h) hS3 (MR.want (d := 32) rfl rfl (by simp [MR.size, hsz]) (by simp [MR.ev, MR.size, hsz, e1, f1, e3, f3, e4, f4])) (fun w hw => by simp [execOp, MR.ev, MR.size, hsz, e1, f1, e3, f3, e4, f4, go_sem]) ?_
                refine MR.takeH (i := 21) (some 36) (.pointer (some ⟨w0.heap.size, 0, none⟩)) rfl rfl (by kernel_rfl) (by kernel_rfl) (by kernel_rfl) (fun _ _ _ h => h) hS3 (MR.want (d := 35) rfl rfl (by simp [MR.size, hsz]) (by simp [MR.ev, MR.size, hsz, e1, f1, e3, f3, e4, f4])) (fun w hw => by simp [execOp, MR.ev, MR.size, hsz, e1, f1, e3, f3, e4, f4, go_sem]) ?_
                refine MR.takeH (i := 22) (some 37) (.slice (some ⟨b, off, none⟩) xs.length cap) rfl rfl (by kernel_rfl) (by kernel_rfl) (by kernel_rfl) (fun _ _ _ h => h) hS3 (MR.want (d := 35) rfl rfl (by simp [MR.size, hsz]) (by simp [MR.ev, MR.size, hsz, e1, f1, e3, f3, e4, f4])) (fun w hw => by simp [execOp, MR.ev, MR.size, hsz, e1, f1, e3, f3, e4, f4, (hw.cell (p := ⟨w0.heap.size, 0, none⟩) hwl).trans hcell, go_sem]) ?_
                refine MR.takeH (i := 23) (some 38) (.int .i64 (k : Int)) rfl rfl (by kernel_rfl) (by kernel_rfl) (by kernel_rfl) (fun _ _ _ h => h) hS3 (MR.want (d := 35) rfl rfl (by simp [MR.size, hsz]) (by simp [MR.ev, MR.size, hsz, e1, f1, e3, f3, e4, f4])) (fun w hw => by simp [execOp, MR.ev, MR.size, hsz, e1, f1, e3, f3, e4, f4, go_sem]) ?_
                refine MR.takeH (i := 24) (some 39) (.int .i64 (k' : Int)) rfl rfl (by kernel_rfl) (by kernel_rfl) (by kernel_rfl) (fun _ _ _ h => h) hS3 (MR.want (d := 35) rfl rfl (by simp [MR.size, hsz]) (by simp [MR.ev, MR.size, hsz, e1, f1, e3, f3, e4, f4])) (fun w hw => by simp [execOp, MR.ev, MR.size, hsz, e1, f1, e3, f3, e4, f4, hk1, hk2, go_sem]) ?_
                refine MR.takeH (i := 25) (some 40) (.pointer (some ⟨b, off + k' * 10, none⟩)) rfl rfl (by kernel_rfl) (by kernel_rfl) (by kernel_rfl) (fun _ _ _ h => h) hS3 (MR.want (d := 35) rfl rfl (by simp [MR.size, hsz]) (by simp [MR.ev, MR.size, hsz, e1, f1, e3, f3, e4, f4])) (fun w hw => by simp [execOp, MR.ev, MR.size, hsz, e1, f1, e3, f3, e4, f4, hk3, hk4, go_sem]) ?_
                refine MR.takeH (i := 26) (some 41) (y.v) rfl rfl (by kernel_rfl) (by kernel_rfl) (by kernel_rfl) (fun _ _ _ h => h) hS3 (MR.want (d := 35) rfl rfl (by simp [MR.size, hsz]) (by simp [MR.ev, MR.size, hsz, e1, f1, e3, f3, e4, f4])) (fun w hw => MA.ex_load rfl (by simp [MR.ev, MR.size, hsz, e1, f1, e3, f3, e4, f4]) (MA.range_below hYr hw hbl) Try.underlying24 rfl Try.sizeBundle rfl) ?_
                refine MR.takeH (i := 27) (some 42) (x.v) rfl rfl (by kernel_rfl) (by kernel_rfl) (by kernel_rfl) (fun _ _ _ h => h) hS3 (MR.want (d := 35) rfl rfl (by simp [MR.size, hsz]) (by simp [MR.ev, MR.size, hsz, e1, f1, e3, f3, e4, f4])) (fun w hw => MA.ex_load rfl (by simp [MR.ev, MR.size, hsz, e1, f1, e3, f3, e4, f4]) (MA.range_below hXr hw hq) Try.underlying24 rfl Try.sizeBundle rfl) ?_
                refine MR.callH (i := 28) (some 43) (51) (#[y.v, x.v]) (by kernel_rfl) rfl rfl (MR.want (d := 35) rfl rfl (by simp [MR.size, hsz]) (by simp [MR.ev, MR.size, hsz, e1, f1, e3, f3, e4, f4])) (by simp [execOp, MR.ev, MR.size, hsz, e1, f1, e3, f3, e4, f4, go_sem]) ?_
                refine Calls.mono (LB.out _) ?_
                rintro e w4 ⟨rfl, hb4⟩
                have hS4 : Below W.heap.size W w4 := hS3.trans (hb4.mono hS3.size)
                refine ⟨_, rfl, hS4, ?_⟩
                refine MR.takeH (i := 29) (some 44) (.bool true) rfl rfl (by kernel_rfl) (by kernel_rfl) (by kernel_rfl) (fun _ _ _ h => h) hS4 (MR.want (d := 35) rfl rfl (by simp [MR.size, hsz]) (by simp [MR.ev, MR.size, hsz, e1, f1, e3, f3, e4, f4])) (fun w hw => by simp [execOp, MR.ev, MR.size, hsz, e1, f1, e3, f3, e4, f4, go_sem]) ?_
                refine MR.takeH (i := 30) (some 45) (.bool true) rfl rfl (by kernel_rfl) (by kernel_rfl) (by kernel_rfl) (fun _ _ _ h => h) hS4 (MR.want (d := 32) rfl rfl (by simp [MR.size, hsz]) (by simp [MR.ev, MR.size, hsz, e1, f1, e3, f3, e4, f4])) (fun w hw => by simp [execOp, MR.ev, MR.size, hsz, e1, f1, e3, f3, e4, f4, go_sem]) ?_
                refine MR.takeH (i := 31) (some 46) (.bool true) rfl rfl (by kernel_rfl) (by kernel_rfl) (by kernel_rfl) (fun _ _ _ h => h) hS4 (MR.free rfl) (fun w hw => by simp [execOp, MR.ev, MR.size, hsz, e1, f1, e3, f3, e4, f4, go_sem]) ?_
                refine wpAnyH_done (by kernel_rfl) ?_ _
                have hB7 : Below W.heap.size W w4 := hS4
                rw [HA.out]
                clear hS hS2 hS3 hS4 HA e1 e3 e4 f1 f3 f4 hsz hb2 hb3 hb4 hk1 hk2 hk3 hk4 hgt hYr hx0 hZr GB LS LB hn0
                generalize w4 = W7 at *
                simp only [Act.put, List.setIfInBounds_toArray, List.set_cons_succ, List.set_cons_zero]
                have hb : Below w0.heap.size w0 W7 := hbW.trans (hB7.mono hbW.size)
                clear hB7 hXr hU hcell htl hbW
                go_wp2
                go_ret
                exact ⟨retBs hF.out, hb⟩
              | true =>
                have LB : Hid _ := fun W => l4Before_any y x W hpy hpx true hah
                replace HST : Hid (PL.stepS xs k = PL.upto (fun j => PL.agr x (MP.at_ xs j)) k) := by show _ = _; rw [HST.out, hah]; rfl
                clear hah
                refine MR.frame fun A hA => ?_
                have hsz : A.tmps.size = 66 := by rw [hA]; rfl
                have e1 : A.eval (.tmp 1) = .pointer (some ⟨w0.heap.size, 0, none⟩) := by rw [hA]; rfl
                have f1 := MR.read (t := 1) (by rw [hsz]; decide) e1
                have e3 : A.eval (.tmp 3) = .int .i64 (k : Int) := by rw [hA]; rfl
                have f3 := MR.read (t := 3) (by rw [hsz]; decide) e3
                have e4 : A.eval (.tmp 4) = .pointer (some ⟨wr.heap.size, 0, none⟩) := by rw [hA]; rfl
                have f4 := MR.read (t := 4) (by rw [hsz]; decide) e4
                have HA : Hid (A = _) := hA
                clear hA
                have hS : (fun w' : World => Below W.heap.size W w') (World.drew _) := ((Below.refl _ W).drew)
                refine wp_region_held (S := fun w' : World => Below W.heap.size W w') (by kernel_rfl) ?_
                change wpAnyH _ _ _ _ _ _ _ _ (World.drew _)
                refine MR.takeH (i := 0) (some 15) (x.v) rfl rfl (by kernel_rfl) (by kernel_rfl) (by kernel_rfl) (fun _ _ _ h => h) hS (MR.free rfl) (fun w hw => MA.ex_load rfl (by simp [MR.ev, MR.size, hsz, e1, f1, e3, f3, e4, f4]) (MA.range_below hXr hw hq) Try.underlying24 rfl Try.sizeBundle rfl) ?_
                refine MR.callH (i := 1) (some 16) (36) (#[x.v]) (by kernel_rfl) rfl rfl (MR.free rfl) (by simp [execOp, MR.ev, MR.size, hsz, e1, f1, e3, f3, e4, f4, go_sem]) ?_
                refine Calls.mono (GB.out _) ?_
                rintro e w2 ⟨rfl, hb2⟩
                have hS2 : Below W.heap.size W w2 := hS.trans (hb2.mono hS.size)
                refine ⟨_, rfl, hS2, ?_⟩
                refine MR.takeH (i := 2) (some 17) (.bool false) rfl rfl (by kernel_rfl) (by kernel_rfl) (by kernel_rfl) (fun _ _ _ h => h) hS2 (MR.free rfl) (fun w hw => by simp [execOp, MR.ev, MR.size, hsz, e1, f1, e3, f3, e4, f4, go_sem]) ?_
                refine MR.takeH (i := 3) (some 18) (.bool false) rfl rfl (by kernel_rfl) (by kernel_rfl) (by kernel_rfl) (fun _ _ _ h => h) hS2 (MR.free rfl) (fun w hw => by simp [execOp, MR.ev, MR.size, hsz, e1, f1, e3, f3, e4, f4, go_sem]) ?_
                refine MR.takeH (i := 4) (some 19) (.pointer (some ⟨wr.heap.size, 8, none⟩)) rfl rfl (by kernel_rfl) (by kernel_rfl) (by kernel_rfl) (fun _ _ _ h => h) hS2 (MR.want (d := 18) rfl rfl (by simp [MR.size, hsz]) (by simp [MR.ev, MR.size, hsz, e1, f1, e3, f3, e4, f4])) (fun w hw => by simp [execOp, MR.ev, MR.size, hsz, e1, f1, e3, f3, e4, f4, go_sem]) ?_
                refine MR.takeH (i := 5) (some 20) (.int .i64 x.tl) rfl rfl (by kernel_rfl) (by kernel_rfl) (by kernel_rfl) (fun _ _ _ h => h) hS2 (MR.want (d := 18) rfl rfl (by simp [MR.size, hsz]) (by simp [MR.ev, MR.size, hsz, e1, f1, e3, f3, e4, f4])) (fun w hw => by simp [execOp, MR.ev, MR.size, hsz, e1, f1, e3, f3, e4, f4, (hw.cell (p := ⟨wr.heap.size, 8, none⟩) hq).trans htl, go_sem]) ?_
                refine MR.takeH (i := 6) (some 21) (.bool false) rfl rfl (by kernel_rfl) (by kernel_rfl) (by kernel_rfl) (fun _ _ _ h => h) hS2 (MR.want (d := 18) rfl rfl (by simp [MR.size, hsz]) (by simp [MR.ev, MR.size, hsz, e1, f1, e3, f3, e4, f4])) (fun w hw => by simp [execOp, MR.ev, MR.size, hsz, e1, f1, e3, f3, e4, f4, hx0, go_sem]) ?_
                refine MR.takeH (i := 7) (some 22) (.bool false) rfl rfl (by kernel_rfl) (by kernel_rfl) (by kernel_rfl) (fun _ _ _ h => h) hS2 (MR.free rfl) (fun w hw => by simp [execOp, MR.ev, MR.size, hsz, e1, f1, e3, f3, e4, f4, go_sem]) ?_
                refine MR.takeH (i := 8) (some 23) (.bool false) rfl rfl (by kernel_rfl) (by kernel_rfl) (by kernel_rfl) (fun _ _ _ h => h) hS2 (MR.free rfl) (fun w hw => by simp [execOp, MR.ev, MR.size, hsz, e1, f1, e3, f3, e4, f4, go_sem]) ?_
                refine MR.takeH (i := 9) (some 24) (x.v) rfl rfl (by kernel_rfl) (by kernel_rfl) (by kernel_rfl) (fun _ _ _ h => h) hS2 (MR.want (d := 23) rfl rfl (by simp [MR.size, hsz]) (by simp [MR.ev, MR.size, hsz, e1, f1, e3, f3, e4, f4])) (fun w hw => MA.ex_load rfl (by simp [MR.ev, MR.size, hsz, e1, f1, e3, f3, e4, f4]) (MA.range_below hXr hw hq) Try.underlying24 rfl Try.sizeBundle rfl) ?_
                refine MR.takeH (i := 10) (some 25) (.pointer (some ⟨w0.heap.size, 0, none⟩)) rfl rfl (by kernel_rfl) (by kernel_rfl) (by kernel_rfl) (fun _ _ _ h => h) hS2 (MR.want (d := 23) rfl rfl (by simp [MR.size, hsz]) (by simp [MR.ev, MR.size, hsz, e1, f1, e3, f3, e4, f4])) (fun w hw => by simp [execOp, MR.ev, MR.size, hsz, e1, f1, e3, f3, e4, f4, go_sem]) ?_
                refine MR.takeH (i := 11) (some 26) (.slice (some ⟨b, off, none⟩) xs.length cap) rfl rfl (by kernel_rfl) (by kernel_rfl) (by kernel_rfl) (fun _ _ _ h => h) hS2 (MR.want (d := 23) rfl rfl (by simp [MR.size, hsz]) (by simp [MR.ev, MR.size, hsz, e1, f1, e3, f3, e4, f4])) (fun w hw => by simp [execOp, MR.ev, MR.size, hsz, e1, f1, e3, f3, e4, f4, (hw.cell (p := ⟨w0.heap.size, 0, none⟩) hwl).trans hcell, go_sem]) ?_
                refine MR.takeH (i := 12) (some 27) (.pointer (some ⟨b, off, none⟩)) rfl rfl (by kernel_rfl) (by kernel_rfl) (by kernel_rfl) (fun _ _ _ h => h) hS2 (MR.want (d := 23) rfl rfl (by simp [MR.size, hsz]) (by simp [MR.ev, MR.size, hsz, e1, f1, e3, f3, e4, f4])) (fun w hw => by simp [execOp, MR.ev, MR.size, hsz, e1, f1, e3, f3, e4, f4, hn0, go_sem]) ?_
                refine MR.takeH (i := 13) (some 28) (z.v) rfl rfl (by kernel_rfl) (by kernel_rfl) (by kernel_rfl) (fun _ _ _ h => h) hS2 (MR.want (d := 23) rfl rfl (by simp [MR.size, hsz]) (by simp [MR.ev, MR.size, hsz, e1, f1, e3, f3, e4, f4])) (fun w hw => MA.ex_load rfl (by simp [MR.ev, MR.size, hsz, e1, f1, e3, f3, e4, f4]) (MA.range_below hZr hw hbl) Try.underlying24 rfl Try.sizeBundle rfl) ?_
                refine MR.callH (i := 14) (some 29) (52) (#[x.v, z.v]) (by kernel_rfl) rfl rfl (MR.want (d := 23) rfl rfl (by simp [MR.size, hsz]) (by simp [MR.ev, MR.size, hsz, e1, f1, e3, f3, e4, f4])) (by simp [execOp, MR.ev, MR.size, hsz, e1, f1, e3, f3, e4, f4, go_sem]) ?_
                refine Calls.mono (LS.out _) ?_
                rintro e w3 ⟨rfl, hb3⟩
                have hS3 : Below W.heap.size W w3 := hS2.trans (hb3.mono hS2.size)
                refine ⟨_, rfl, hS3, ?_⟩
                refine MR.takeH (i := 15) (some 30) (.bool false) rfl rfl (by kernel_rfl) (by kernel_rfl) (by kernel_rfl) (fun _ _ _ h => h) hS3 (MR.want (d := 23) rfl rfl (by simp [MR.size, hsz]) (by simp [MR.ev, MR.size, hsz, e1, f1, e3, f3, e4, f4])) (fun w hw => by simp [execOp, MR.ev, MR.size, hsz, e1, f1, e3, f3, e4, f4, go_sem]) ?_
                refine MR.takeH (i := 16) (some 31) (.bool false) rfl rfl (by kernel_rfl) (by kernel_rfl) (by kernel_rfl) (fun _ _ _ h => h) hS3 (MR.free rfl) (fun w hw => by simp [execOp, MR.ev, MR.size, hsz, e1, f1, e3, f3, e4, f4, go_sem]) ?_
                refine MR.takeH (i := 17) (some 32) (.bool false) rfl rfl (by kernel_rfl) (by kernel_rfl) (by kernel_rfl) (fun _ _ _ h => h) hS3 (MR.free rfl) (fun w hw => by simp [execOp, MR.ev, MR.size, hsz, e1, f1, e3, f3, e4, f4, go_sem]) ?_
                refine MR.takeH (i := 18) (some 33) (.int .i64 (k : Int)) rfl rfl (by kernel_rfl) (by kernel_rfl) (by kernel_rfl) (fun _ _ _ h => h) hS3 (MR.want (d := 32) rfl rfl (by simp [MR.size, hsz]) (by simp [MR.ev, MR.size, hsz, e1, f1, e3, f3, e4, f4])) (fun w hw => by simp [execOp, MR.ev, MR.size, hsz, e1, f1, e3, f3, e4, f4, go_sem]) ?_
                refine MR.takeH (i := 19) (some 34) (.bool true) rfl rfl (by kernel_rfl) (by kernel_rfl) (by kernel_rfl) (fun _ _ _ h => h) hS3 (MR.want (d := 32) rfl rfl (by simp [MR.size, hsz]) (by simp [MR.ev, MR.size, hsz, e1, f1, e3, f3, e4, f4])) (fun w hw => by simp [execOp, MR.ev, MR.size, hsz, e1, f1, e3, f3, e4, f4, hgt, go_sem]) ?_
                refine MR.takeH (i := 20) (some 35) (.bool true) rfl rfl (by kernel_rfl) (by kernel_rfl) (by kernel_rfl) (fun _ _ _ h => h) hS3 (MR.want (d := 32) rfl rfl (by simp [MR.size, hsz]) (by simp [MR.ev, MR.size, hsz, e1, f1, e3, f3, e4, f4])) (fun w hw => by simp [execOp, MR.ev, MR.size, hsz, e1, f1, e3, f3, e4, f4, go_sem]) ?_
                refine MR.takeH (i := 21) (some 36) (.pointer (some ⟨w0.heap.size, 0, none⟩)) rfl rfl (by kernel_rfl) (by kernel_rfl) (by kernel_rfl) (fun _ _ _ h => h) hS3 (MR.want (d := 35) rfl rfl (by simp [MR.size, hsz]) (by simp [MR.ev, MR.size, hsz, e1, f1, e3, f3, e4, f4])) (fun w hw => by simp [execOp, MR.ev, MR.size, hsz, e1, f1, e3, f3, e4, f4, go_sem]) ?_
                refine MR.takeH (i := 22) (some 37) (.slice (some ⟨b, off, none⟩) xs.length cap) rfl rfl (by kernel_rfl) (by kernel_rfl) (by kernel_rfl) (fun _ _ _ h => h) hS3 (MR.want (d := 35) rfl rfl (by simp [MR.size, hsz]) (by simp [MR.ev, MR.size, hsz, e1, f1, e3, f3, e4, f4])) (fun w hw => by simp [execOp, MR.ev, MR.size, hsz, e1, f1, e3, f3, e4, f4, (hw.cell (p := ⟨w0.heap.size, 0, none⟩) hwl).trans hcell, go_sem]) ?_
                refine MR.takeH (i := 23) (some 38) (.int .i64 (k : Int)) rfl rfl (by kernel_rfl) (by kernel_rfl) (by kernel_rfl) (fun _ _ _ h => h) hS3 (MR.want (d := 35) rfl rfl (by simp [MR.size, hsz]) (by simp [MR.ev, MR.size, hsz, e1, f1, e3, f3, e4, f4])) (fun w hw => by simp [execOp, MR.ev, MR.size, hsz, e1, f1, e3, f3, e4, f4, go_sem]) ?_
                refine MR.takeH (i := 24) (some 39) (.int .i64 (k' : Int)) rfl rfl (by kernel_rfl) (by kernel_rfl) (by kernel_rfl) (fun _ _ _ h => h) hS3 (MR.want (d := 35) rfl rfl (by simp [MR.size, hsz]) (by simp [MR.ev, MR.size, hsz, e1, f1, e3, f3, e4, f4])) (fun w hw => by simp [execOp, MR.ev, MR.size, hsz, e1, f1, e3, f3, e4, f4, hk1, hk2, go_sem]) ?_
                refine MR.takeH (i := 25) (some 40) (.pointer (some ⟨b, off + k' * 10, none⟩)) rfl rfl (by kernel_rfl) (by kernel_rfl) (by kernel_rfl) (fun _ _ _ h => h) hS3 (MR.want (d := 35) rfl rfl (by simp [MR.size, hsz]) (by simp [MR.ev, MR.size, hsz, e1, f1, e3, f3, e4, f4])) (fun w hw => by simp [execOp, MR.ev, MR.size, hsz, e1, f1, e3, f3, e4, f4, hk3, hk4, go_sem]) ?_
                refine MR.takeH (i := 26) (some 41) (y.v) rfl rfl (by kernel_rfl) (by kernel_rfl) (by kernel_rfl) (fun _ _ _ h => h) hS3 (MR.want (d := 35) rfl rfl (by simp [MR.size, hsz]) (by simp [MR.ev, MR.size, hsz, e1, f1, e3, f3, e4, f4])) (fun w hw => MA.ex_load rfl (by simp [MR.ev, MR.size, hsz, e1, f1, e3, f3, e4, f4]) (MA.range_below hYr hw hbl) Try.underlying24 rfl Try.sizeBundle rfl) ?_
                refine MR.takeH (i := 27) (some 42) (x.v) rfl rfl (by kernel_rfl) (by kernel_rfl) (by kernel_rfl) (fun _ _ _ h => h) hS3 (MR.want (d := 35) rfl rfl (by simp [MR.size, hsz]) (by simp [MR.ev, MR.size, hsz, e1, f1, e3, f3, e4, f4])) (fun w hw => MA.ex_load rfl (by simp [MR.ev, MR.size, hsz, e1, f1, e3, f3, e4, f4]) (MA.range_below hXr hw hq) Try.underlying24 rfl Try.sizeBundle rfl) ?_
                refine MR.callH (i := 28) (some 43) (51) (#[y.v, x.v]) (by kernel_rfl) rfl rfl (MR.want (d := 35) rfl rfl (by simp [MR.size, hsz]) (by simp [MR.ev, MR.size, hsz, e1, f1, e3, f3, e4, f4])) (by simp [execOp, MR.ev, MR.size, hsz, e1, f1, e3, f3, e4, f4, go_sem]) ?_
                refine Calls.mono (LB.out _) ?_
                rintro e w4 ⟨rfl, hb4⟩
                have hS4 : Below W.heap.size W w4 := hS3.trans (hb4.mono hS3.size)
                refine ⟨_, rfl, hS4, ?_⟩
                refine MR.takeH (i := 29) (some 44) (.bool false) rfl rfl (by kernel_rfl) (by kernel_rfl) (by kernel_rfl) (fun _ _ _ h => h) hS4 (MR.want (d := 35) rfl rfl (by simp [MR.size, hsz]) (by simp [MR.ev, MR.size, hsz, e1, f1, e3, f3, e4, f4])) (fun w hw => by simp [execOp, MR.ev, MR.size, hsz, e1, f1, e3, f3, e4, f4, go_sem]) ?_
                refine MR.takeH (i := 30) (some 45) (.bool false) rfl rfl (by kernel_rfl) (by kernel_rfl) (by kernel_rfl) (fun _ _ _ h => h) hS4 (MR.want (d := 32) rfl rfl (by simp [MR.size, hsz]) (by simp [MR.ev, MR.size, hsz, e1, f1, e3, f3, e4, f4])) (fun w hw => by simp [execOp, MR.ev, MR.size, hsz, e1, f1, e3, f3, e4, f4, go_sem]) ?_
                refine MR.takeH (i := 31) (some 46) (.bool false) rfl rfl (by kernel_rfl) (by kernel_rfl) (by kernel_rfl) (fun _ _ _ h => h) hS4 (MR.free rfl) (fun w hw => by simp [execOp, MR.ev, MR.size, hsz, e1, f1, e3, f3, e4, f4, go_sem]) ?_
                refine wpAnyH_done (by kernel_rfl) ?_ _
                have hB7 : Below W.heap.size W w4 := hS4
                rw [HA.out]
                clear hS hS2 hS3 hS4 HA e1 e3 e4 f1 f3 f4 hsz hb2 hb3 hb4 hk1 hk2 hk3 hk4 hgt hYr hx0 hZr GB LS LB hn0
                generalize w4 = W7 at *
                simp only [Act.put, List.setIfInBounds_toArray, List.set_cons_succ, List.set_cons_zero]
                have hb : Below w0.heap.size w0 W7 := hbW.trans (hB7.mono hbW.size)
                have hc7 : W7.cell? ⟨w0.heap.size, 0, none⟩ = some (.slice (some ⟨b, off, none⟩) xs.length cap) := (hB7.cell (p := ⟨w0.heap.size, 0, none⟩) hwl).trans hcell
                have HX7 : Hid (W7.rangeAt wr.heap.size 0 x.cs) := MA.range_below hXr hB7 hq
                have hq7 : wr.heap.size < W7.heap.size := Nat.lt_of_lt_of_le hq hB7.size
                have hw7 : w0.heap.size < W7.heap.size := Nat.lt_of_lt_of_le hwl hB7.size
                clear hB7 hXr hcell htl hbW hq hwl hbl hbl0
                generalize wr.heap.size = qx at *
                go_wp2
                go_loopw [52] (fun iv wr2 => ∃ j : Nat, iv = .int .i64 j ∧ j ≤ k ∧ Hid (PL.upto (fun j => PL.agr x (MP.at_ xs j)) j = true) ∧ Hid (wr2.rangeAt qx 0 x.cs) ∧ wr2.cell? ⟨w0.heap.size, 0, none⟩ = some (.slice (some ⟨b, off, none⟩) xs.length cap) ∧ qx < wr2.heap.size ∧ w0.heap.size < wr2.heap.size ∧ Below w0.heap.size w0 wr2) (fun iv _ => (k - intOf iv).toNat)
                case atStart => exact ⟨0, rfl, by omega, PL.upto_zero _, HX7, hc7, hq7, hw7, hb⟩
                case round =>
                  clear HX7 hc7 hq7 hw7 hb
                  obtain ⟨j, rfl, hj, hV, HX, hca, hqa, hwa, hba⟩ := hrel
                  by_cases hjl : j < k
                  · obtain ⟨b', off', hab, hbl, rg⟩ := MA.row_range (hin.below hba) (k := j) (by omega)
                    cases hab
                    have hpgj : PL.pg (MP.at_ xs j) = true := by
                      have := PL.upto_iff.1 hU.out j hjl
                      simp only [PL.stepS, Bool.and_eq_true] at this
                      exact this.1.1.1
                    obtain ⟨y, hy⟩ : ∃ y, MP.at_ xs j = y := ⟨_, rfl⟩
                    have HYY : Hid (MP.at_ xs j = y) := hy
                    rw [hy] at rg hpgj
                    have RG : Hid _ := rg
                    have AG : Hid (∀ W, Calls Try.prog 53 #[.agg x.cs.toArray, .agg y.cs.toArray] W fun e w' => e = .returned (.bool (PL.agr x y)) ∧ Below W.heap.size W w') := fun W => l4Agrees_any x y W HPG.out hpgj _ rfl
                    have HW : Hid _ := new_bundle wr y 24
                    have RN : Hid _ := MA.Rg.new wr (Bd.cs B1.zero) 24
                    have hj0 : (0 : Int) ≤ (j : Int) := by omega
                    have hjn : (j : Int) < (k : Int) := by omega
                    clear hy rg hpgj
                    go_wp2_with (first
                      | (refine MA.load_r rfl 24 _ rfl rfl (cs := y.cs) ?_ Try.underlying24 rfl Try.sizeBundle rfl ?_; exact RG.out)
                      | (refine MA.load_r rfl 24 _ rfl rfl (cs := x.cs) ?_ Try.underlying24 rfl Try.sizeBundle rfl ?_; exact HXW.out)
                      | (refine MA.load_r rfl 24 _ rfl rfl (cs := y.cs) ?_ Try.underlying24 rfl Try.sizeBundle rfl ?_; exact HYW.out)
                      | (refine MA.alloc_z rfl 24 rfl _ _ Try.infoBundle ?_; simp only [MA.sz_alloc])
                      | (refine MA.store_m rfl 24 _ _ rfl rfl rfl (cs := Bd.cs B1.zero) ?_ Try.sizeBundle rfl rfl (MA.cs_one y) ?_; exact RN.out; clear RN RG; generalize World.setCells _ _ _ _ = W2 at *; have HXW : Hid (W2.rangeAt qx 0 x.cs) := MA.range_below HX.out HW.out.1 hqa; have HYW : Hid (W2.rangeAt wr.heap.size 0 y.cs) := HW.out.2.rng))
                    refine Calls.mono (AG.out _) ?_
                    rintro e w9 ⟨rfl, hb9⟩
                    have hWa := HW.out.1
                    have hX9 : Hid (w9.rangeAt qx 0 x.cs) := MA.range_below (MA.range_below HX.out hWa hqa) hb9 (Nat.lt_of_lt_of_le hqa hWa.size)
                    have hc9 : w9.cell? ⟨w0.heap.size, 0, none⟩ = some (.slice (some ⟨b, off, none⟩) xs.length cap) := (hb9.cell (p := ⟨w0.heap.size, 0, none⟩) (Nat.lt_of_lt_of_le hwa hWa.size)).trans ((hWa.cell (p := ⟨w0.heap.size, 0, none⟩) hwa).trans hca)
                    have hq9 : qx < w9.heap.size := Nat.lt_of_lt_of_le hqa (Nat.le_trans hWa.size hb9.size)
                    have hw9 : w0.heap.size < w9.heap.size := Nat.lt_of_lt_of_le hwa (Nat.le_trans hWa.size hb9.size)
                    have hB9 : Below w0.heap.size w0 w9 := (hba.trans (hWa.mono hba.size)).trans (hb9.mono (Nat.le_trans hba.size hWa.size))
                    clear AG HW hWa hb9 HX HXW HYW hca hqa hwa hba hbl
                    cases hag : PL.agr x y with
                    | false =>
                      have hF : Hid (false = PL.good xs) := good_step hl (by rw [HST.out]; exact PL.upto_no hjl (by rw [HYY.out]; exact hag))
                      clear hag HST HYY hV hU HPG HXX
                      go_wp2
                      go_ret
                      exact ⟨retBs hF.out, hB9⟩
                    | true =>
                      have hV' : Hid (PL.upto (fun j => PL.agr x (MP.at_ xs j)) (j + 1) = true) := PL.upto_succ hV.out (by rw [HYY.out]; exact hag)
                      clear hag HYY hV
                      go_wp2
                      go_roundw
                      case rel => exact ⟨j + 1, by go_num, by omega, hV', hX9, hc9, hq9, hw9, hB9⟩
                      case measure => simp [intOf]; omega
                  · obtain rfl : j = k := by omega
                    have hU' : Hid (PL.upto (PL.stepS xs) (j + 1) = true) := PL.upto_succ hU.out (by rw [HST.out]; exact hV.out)
                    clear hU HST hV HPG HXX HX
                    go_wp2
                    go_roundw
                    case rel => exact ⟨j + 1, by go_num, by omega, hU', hca, hwa, hba⟩
                    case measure => simp [intOf]; omega
    · obtain rfl : k = xs.length := by omega
      have hT : Hid (decide (xs.length ≤ 60) = PL.good xs) := by show _ = _; rw [PL.good, hU.out, Bool.true_and]
      clear hU
      by_cases h60 : xs.length ≤ 60
      · have hT2 : Hid (true = PL.good xs) := by rw [← hT.out]; exact (decide_eq_true h60).symm
        clear hT
        go_wp2
        go_ret
        exact ⟨retBs (by rw [← hT2.out]; simp; omega), hb⟩
      · have hT2 : Hid (false = PL.good xs) := by rw [← hT.out]; exact (decide_eq_false h60).symm
        clear hT
        go_wp2
        go_ret
        exact ⟨retBs (by rw [← hT2.out]; simp; omega), hb⟩
end Go.Proofs.Ytdgflhgbcfehhaa
