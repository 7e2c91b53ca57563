/- Sprays that are drawn (laid by tools/gen_sprayd.py). -/
import Derived.Test.YtgajfpohlemahaaRows
import Derived.Test.YtgajfpohlemahaaCMeetsD
import Derived.Test.YtgajfpohlemahaaCSprP
import Derived.Test.YtgajfpohlemahaaMSprF
import Derived.Test.YtgajfpohlemahaaMRX
import Derived.Test.YtgajfpohlemahaaMCurNew
import Derived.WalkKit
import Derived.WalkSpells
import Derived.WalkLawsBesides
import Derived.Outline
namespace Go.Proofs.Ytgajfpohlemahaa
open Go.RowKit
namespace ML
theorem wr {x : Int} (h1 : -1000 ≤ x) (h2 : x ≤ 1000) : IntKind.wrap .i64 x = x := by
  rw [IntKind.wrap_i64]; omega
theorem only_new {p g : Nat} {w w1 w2 : World} (h : MC.Only p w w1) (ho : MC.Only g w1 w2) (hg : w.heap.size ≤ g) : MC.Only p w w2 :=
  ⟨ho.os.trans h.os, ho.tape.trans h.tape, ho.output.trans h.output, Nat.le_trans h.size ho.size, fun k hk hp => (ho.block k (Nat.lt_of_lt_of_le hk h.size) (by omega)).trans (h.block k hk hp)⟩
theorem cur_only2 {w w' : World} {p q cap M : Nat} {a : Option Addr} {zs : List Int} (h : MC.Cur w p a zs cap M) (ho : MC.Only q w w') (hq : p < q) : MC.Cur w' p a zs cap M := cur_only h ho hq
end ML
set_option linter.unusedSimpArgs false in
set_option maxHeartbeats 6400000 in
set_option maxRecDepth 100000 in
theorem spray_any (p : Nat) (a : Option Addr) (zs0 : List Int) (cap M : Nat) (w : World) (hz : zs0.length ≤ 140737488355328) (hM : M ≤ 140737488330000) (hc : MC.Cur w p a zs0 cap M) :
    Calls Try.prog 25 #[.pointer (some ⟨p, 0, none⟩)] w fun e w' => ∃ (g cg : Nat) (zs : List Int) (t : Int) (th : Bool), e = .returned (.agg #[.slice (some ⟨g, 0, none⟩) zs.length cg, .int .i64 t, .bool th]) ∧ (2 ≤ zs.length ∧ zs.length ≤ 8) ∧ w'.ownsRow w.heap.size 3 1 (.slice (some ⟨g, 0, none⟩) zs.length cg) zs.length (M4.iv zs) ∧ MC.Cur w' p a zs0 cap (M + 500) ∧ MC.Only p w w' := by
  have hplt := hc.lt
  have bR := SP.B3.new w (.slice none 0 0) (.int .i64 0) (.bool false) 28 rfl
  have hcA := hc.alloc (.cells #[.slice none 0 0, .int .i64 0, .bool false] 28)
  have hOA := (MC.Only.refl p w).alloc (.cells #[.slice none 0 0, .int .i64 0, .bool false] 28)
  go_enter Try.func25, Try.ntmps25
  go_wp2_with fail
  have hW0 : (w.alloc (.cells #[.slice none 0 0, .int .i64 0, .bool false] 28)).heap.size = w.heap.size + 1 := by simp
  generalize w.alloc (.cells #[.slice none 0 0, .int .i64 0, .bool false] 28) = W0 at *
  refine (sprayOf_any p a zs0 cap M _ hz (by omega) hcA).mono ?_
  rintro e w1 ⟨nd, f, t, c, rfl, hnd, hc1, ho1⟩
  replace bR := bR.only ho1 (by omega)
  have hO1 := hOA.trans ho1
  clear hc hcA hOA
  go_wp2_with fail
  refine (meets_any p a zs0 cap (M + 20) nd hnd _ hz (by omega) hc1).mono ?_
  rintro e w2 ⟨a1, c1, ms, rfl, hml, ho, hc2, ho2⟩
  replace bR := bR.only ho2 (by omega)
  have hRl2 := bR.lt
  have hO2 := hO1.trans ho2
  have hrow : MI2.RowAt w2 a1 ms := by
    obtain ⟨a', cap', hv, h⟩ := ML.own_row2 ho
    cases hv
    exact h
  clear ho1 ho2 hO1 hc1 ho
  go_wp2_with fail
  have PLY : Hid _ := playS_any (nd : Int) f t c a1 c1 ms w2 (by omega) hrow
  refine Calls.mono PLY.out ?_
  clear PLY hrow
  rintro e w3 ⟨a3, c3, rfl, ho, hb⟩
  replace bR := bR.below hb bR.lt
  have hc3 := hc2.below hb
  have hO3 := hO2.trans (MC.Only.of_below hb)
  have hs2 := hO2.size
  have hs3 := hb.size
  have hRl := bR.lt
  clear hc2 hO2 hb
  cases hA : SP.plA (nd : Int) f t c ms with
  | some s =>
    obtain ⟨hFA, _⟩ := SP.fa_of hA
    rw [hA] at ho
    have hbd := SP.good_all hFA.good
    have hl2 : 2 ≤ s.zs.length ∧ s.zs.length ≤ 8 := SP.good_len hFA.good
    clear hFA hA
    obtain ⟨zs, th, mn⟩ := s
    simp only [SP.pL, SP.pH, SP.pM, SP.pT, Option.isSome_some] at ho hbd hl2 ⊢
    obtain ⟨g, cg, hv⟩ := SP.own_some ho (by omega)
    cases hv
    have hgl := ho.lt g rfl
    have OB : Below w3.heap.size w3 (w3.alloc (.cells #[.slice (some ⟨g, 0, none⟩) zs.length c3, .int .i64 t, .bool th] 28)) := (Below.refl _ _).alloc (Nat.le_refl _) _
    replace bR := bR.alloc (.cells #[.slice (some ⟨g, 0, none⟩) zs.length c3, .int .i64 t, .bool th] 28)
    have bQ := SP.B3.new w3 (.slice (some ⟨g, 0, none⟩) zs.length c3) (.int .i64 t) (.bool th) 28 (k := w3.heap.size) rfl
    have hc := hc3.alloc (.cells #[.slice (some ⟨g, 0, none⟩) zs.length c3, .int .i64 t, .bool th] 28)
    have hO := hO3.alloc (.cells #[.slice (some ⟨g, 0, none⟩) zs.length c3, .int .i64 t, .bool th] 28)
    have own := SP.own_le (M5.own_below ho OB) hs2
    obtain ⟨q, hq⟩ : ∃ q, w3.heap.size = q := ⟨_, rfl⟩
    rw [hq] at bQ
    have hgR : w.heap.size < g := by omega
    have hgq : g < q := by omega
    clear ho hc3 hO3 OB
    go_wp2_with fail
    refine (one_any p a zs0 cap (M + 450) _ _ hz (by omega) hc).mono ?_
    rintro e w5 ⟨b, rfl, hc5, ho5⟩
    replace bR := bR.only ho5 (by omega)
    replace bQ := bQ.only ho5 (by omega)
    replace own := SP.own_only2 own ho5 (fun e => by simp [Value.ownBlock] at e; omega)
    have hO5 := hO.trans ho5
    clear hc hO ho5
    obtain ⟨n, hn⟩ : ∃ n, zs.length = n := ⟨_, rfl⟩
    have HN : Hid _ := hn
    rw [hn] at own bQ hl2 ⊢
    clear hn
    cases b with
    | false =>
      obtain ⟨z0, z1, z2⟩ := bQ.cells
      obtain ⟨k0, k1, k2⟩ := bR.cells
      have f0 := bR.free 0
      have f1 := bR.free 1
      have f2 := bR.free 2
      have lR := bR.lt
      have lQ := bQ.lt
      have HF : Hid _ := And.intro bR (And.intro own (And.intro hc5 hO5))
      clear own bR bQ hc5 hO5
      go_wp2
      have zz := ((HF.out.1.set0 (.slice (some ⟨g, 0, none⟩) n c3)).set1 (.int .i64 t)).set2 (.bool th)
      obtain ⟨e0, e1, e2⟩ := zz.cells
      have on := (((MC.Only.refl w.heap.size w5).setCell 0 (.slice (some ⟨g, 0, none⟩) n c3)).setCell 1 (.int .i64 t)).setCell 2 (.bool th)
      have hO2 := SP.own_only2 HF.out.2.1 on (fun e => by simp [Value.ownBlock] at e; omega)
      have hOn := ML.only_new HF.out.2.2.2 on (Nat.le_refl _)
      have hCn := ML.cur_only2 HF.out.2.2.1 on (by omega)
      exact bodyPost_ret (v := .agg #[.slice (some ⟨g, 0, none⟩) n c3, .int .i64 t, .bool th]) (by simp [results, Try.results25, go_sem, e0, e1, e2]) rfl ⟨g, c3, zs, t, th, by rw [HN.out], by rw [HN.out]; exact hl2, by rw [HN.out]; exact hO2, hCn.more (by omega), hOn⟩
    | true =>
      obtain ⟨z0, z1, z2⟩ := bQ.cells
      have lQ := bQ.lt
      have HB3 : Hid (0 ≤ 0) := Nat.le_refl _
      have HZ : Hid (∀ r1 : Nat, 0 ≤ zs.getD r1 0 ∧ zs.getD r1 0 ≤ 64) := hbd
      have CELL : Hid (∀ (r1 : Nat) (W : World), r1 < n → MC.Only p w5 W → W.cell? ⟨g, r1, none⟩ = some (.int .i64 (zs.getD r1 0))) := fun r1 W hr h => by
        refine (h.cell (x := ⟨g, r1, none⟩) (own.lt g rfl).2 (by show g ≠ p; omega)).trans ?_
        have h2 := own.cellAt r1 (by omega)
        rwa [M4.iv_get zs r1 (zs.getD r1 0) (by rw [List.getD_eq_getElem?_getD, List.getElem?_eq_getElem (by rw [HN.out]; omega)]; rfl)] at h2
      clear hbd
      go_wp2_with fail
      refine MR.frame fun A hA => ?_
      have hsz : A.tmps.size = 54 := by rw [hA]; rfl
      have e0 : A.eval (.tmp 0) = .pointer (some ⟨p, 0, none⟩) := by rw [hA]; rfl
      have f0 := MR.read (t := 0) (by rw [hsz]; decide) e0
      have e8 : A.eval (.tmp 8) = .pointer (some ⟨q, 0, none⟩) := by rw [hA]; rfl
      have f8 := MR.read (t := 8) (by rw [hsz]; decide) e8
      have HA : Hid (A = _) := hA
      clear hA
      refine MR.cut (fun aa w' => ∃ (r1 r2 : Nat) (zr : Int) (W6 : World), aa = ((((((((((((((A.put (some 39) (.pointer (some ⟨q, 0, none⟩))).put (some 40) (.slice (some ⟨g, 0, none⟩) n c3)).put (some 41) (.pointer (some ⟨p, 0, none⟩))).put (some 42) (.pointer (some ⟨q, 0, none⟩))).put (some 43) (.slice (some ⟨g, 0, none⟩) n c3)).put (some 44) (.int .i64 (n : Int))).put (some 45) (.int .i64 (r1 : Int))).put (some 46) (.pointer (some ⟨g, r1, none⟩))).put (some 47) (.int .i64 zr)).put (some 48) (.pointer (some ⟨p, 0, none⟩))).put (some 49) (.int .i64 (r2 : Int))).put (some 50) (.int .i64 ((r2 : Int) - 1))).put (some 51) (.int .i64 (zr + ((r2 : Int) - 1)))).put (some 52) (.pointer (some ⟨g, r1, none⟩))) ∧ r1 < n ∧ w' = W6.setCell ⟨g, r1, none⟩ (.int .i64 (zr + ((r2 : Int) - 1))) ∧ MC.Cur W6 p a zs0 cap (M + 450 + 6) ∧ MC.Only p w5 W6) ?_ ?_
      · have hS : (fun w' : World => w'.cell? ⟨q, 0, none⟩ = some (.slice (some ⟨g, 0, none⟩) n c3)) (World.drew w5) := ((Below.refl _ w5).drew.cell (p := ⟨q, 0, none⟩) lQ).trans z0
        have hOd : MC.Only p w5 (World.drew w5) := MC.Only.of_below ((Below.refl _ w5).drew)
        refine wp_region_held (S := fun w' : World => w'.cell? ⟨q, 0, none⟩ = some (.slice (some ⟨g, 0, none⟩) n c3)) (by kernel_rfl) ?_
        change wpAnyH _ _ _ _ _ _ _ _ (World.drew _)
        refine MR.takeH (i := 0) (some 39) (.pointer (some ⟨q, 0, none⟩)) rfl rfl (by kernel_rfl) (by kernel_rfl) (by kernel_rfl) nofun hS (MR.free rfl) (fun wq hw => by simp [execOp, MR.ev, MR.size, hsz, e0, f0, e8, f8, go_sem]) ?_
        refine MR.takeH (i := 1) (some 40) (.slice (some ⟨g, 0, none⟩) n c3) rfl rfl (by kernel_rfl) (by kernel_rfl) (by kernel_rfl) nofun hS (MR.free rfl) (fun wq hw => by simp [execOp, MR.ev, MR.size, hsz, e0, f0, e8, f8, hw, go_sem]) ?_
        refine MR.takeH (i := 2) (some 41) (.pointer (some ⟨p, 0, none⟩)) rfl rfl (by kernel_rfl) (by kernel_rfl) (by kernel_rfl) nofun hS (MR.free rfl) (fun wq hw => by simp [execOp, MR.ev, MR.size, hsz, e0, f0, e8, f8, go_sem]) ?_
        refine MR.takeH (i := 3) (some 42) (.pointer (some ⟨q, 0, none⟩)) rfl rfl (by kernel_rfl) (by kernel_rfl) (by kernel_rfl) nofun hS (MR.free rfl) (fun wq hw => by simp [execOp, MR.ev, MR.size, hsz, e0, f0, e8, f8, go_sem]) ?_
        refine MR.takeH (i := 4) (some 43) (.slice (some ⟨g, 0, none⟩) n c3) rfl rfl (by kernel_rfl) (by kernel_rfl) (by kernel_rfl) nofun hS (MR.free rfl) (fun wq hw => by simp [execOp, MR.ev, MR.size, hsz, e0, f0, e8, f8, hw, go_sem]) ?_
        refine MR.takeH (i := 5) (some 44) (.int .i64 (n : Int)) rfl rfl (by kernel_rfl) (by kernel_rfl) (by kernel_rfl) nofun hS (MR.free rfl) (fun wq hw => by simp [execOp, MR.ev, MR.size, hsz, e0, f0, e8, f8, go_sem]) ?_
        refine MR.takeH (i := 9) (some 48) (.pointer (some ⟨p, 0, none⟩)) rfl rfl (by kernel_rfl) (by kernel_rfl) (by kernel_rfl) nofun hS (MR.free rfl) (fun wq hw => by simp [execOp, MR.ev, MR.size, hsz, e0, f0, e8, f8, go_sem]) ?_
        refine MR.callH (i := 6) (some 45) (26) (#[.pointer (some ⟨p, 0, none⟩), .int .i64 (n : Int)]) (by kernel_rfl) rfl rfl (MR.free rfl) (by simp [execOp, MR.ev, MR.size, hsz, e0, f0, e8, f8, go_sem]) ?_
        refine (pick_any p a zs0 cap (M + 450 + 2) _ _ hz (by omega) (hc5.below ((Below.refl _ w5).drew))).mono ?_
        rintro e w6 ⟨r1, rfl, hr1, _, hc6, ho6⟩
        have h1n : r1 < n := by omega
        obtain ⟨zr, hzr⟩ : ∃ z, zs.getD r1 0 = z := ⟨_, rfl⟩
        have HC : Hid (∀ W : World, MC.Only p w5 W → W.cell? ⟨g, r1, none⟩ = some (.int .i64 zr)) := fun W h => by rw [← hzr]; exact CELL.out r1 W h1n h
        have hzb : 0 ≤ zr ∧ zr ≤ 64 := by rw [← hzr]; exact HZ.out r1
        clear hzr
        have hS6 : MC.Only p w5 w6 := hOd.trans ho6
        have hQ6 : (fun w' : World => w'.cell? ⟨q, 0, none⟩ = some (.slice (some ⟨g, 0, none⟩) n c3)) w6 := (hS6.cell (x := ⟨q, 0, none⟩) lQ (by show q ≠ p; omega)).trans z0
        refine ⟨_, rfl, hQ6, ?_⟩
        have i1 : ¬ ((r1 : Int) < 0) := by omega
        have i2 : ((r1 : Int) < (n : Int)) := by omega
        have i3 : (0 : Int) ≤ (r1 : Int) := by omega
        refine MR.takeH (i := 7) (some 46) (.pointer (some ⟨g, r1, none⟩)) rfl rfl (by kernel_rfl) (by kernel_rfl) (by kernel_rfl) nofun hQ6 (MR.free rfl) (fun wq hw => by simp [execOp, MR.ev, MR.size, hsz, e0, f0, e8, f8, i1, i2, i3, h1n, go_sem]) ?_
        refine MR.two (i := 8) (j := 10) (by kernel_rfl) ?_ ?_
        · skip
          have hcl := HC.out w6 hS6
          refine MR.nowW (w' := w6) (some 47) (.int .i64 zr) rfl rfl (MR.free rfl) (by simp [execOp, MR.ev, MR.size, hsz, e0, f0, e8, f8, hcl, go_sem]) ⟨hQ6, ?_⟩
          refine MR.callH (i := 10) (some 49) (26) (#[.pointer (some ⟨p, 0, none⟩), .int .i64 3]) (by kernel_rfl) rfl rfl (MR.free rfl) (by simp [execOp, MR.ev, MR.size, hsz, e0, f0, e8, f8, go_sem]) ?_
          refine (pick_any p a zs0 cap (M + 450 + 4) _ _ hz (by omega) hc6).mono ?_
          rintro e w7 ⟨r2, rfl, hr2, _, hc7, ho7⟩
          have h23 : r2 < 3 := by omega
          have hS7 : MC.Only p w5 w7 := hS6.trans ho7
          have hQ7 : (fun w' : World => w'.cell? ⟨q, 0, none⟩ = some (.slice (some ⟨g, 0, none⟩) n c3)) w7 := (hS7.cell (x := ⟨q, 0, none⟩) lQ (by show q ≠ p; omega)).trans z0
          refine ⟨_, rfl, hQ7, ?_⟩
          have wp1 : IntKind.wrap .i64 ((r2 : Int) - 1) = (r2 : Int) - 1 := ML.wr (by omega) (by omega)
          have wp2 : IntKind.wrap .i64 (zr + ((r2 : Int) - 1)) = zr + ((r2 : Int) - 1) := by exact ML.wr (by omega) (by omega)
          refine MR.takeH (i := 11) (some 50) (.int .i64 ((r2 : Int) - 1)) rfl rfl (by kernel_rfl) (by kernel_rfl) (by kernel_rfl) nofun hQ7 (MR.free rfl) (fun wq hw => by simp [execOp, MR.ev, MR.size, hsz, e0, f0, e8, f8, wp1, go_sem]) ?_
          refine MR.takeH (i := 12) (some 51) (.int .i64 (zr + ((r2 : Int) - 1))) rfl rfl (by kernel_rfl) (by kernel_rfl) (by kernel_rfl) nofun hQ7 (MR.free rfl) (fun wq hw => by simp [execOp, MR.ev, MR.size, hsz, e0, f0, e8, f8, wp2, go_sem]) ?_
          refine MR.takeH (i := 13) (some 52) (.pointer (some ⟨g, r1, none⟩)) rfl rfl (by kernel_rfl) (by kernel_rfl) (by kernel_rfl) nofun hQ7 (MR.free rfl) (fun wq hw => by simp [execOp, MR.ev, MR.size, hsz, e0, f0, e8, f8, i1, i2, i3, h1n, go_sem]) ?_
          have hcl7 := HC.out w7 hS7
          have hfr : w7.frozen? ⟨g, r1, none⟩ = false := (World.frozen?_of_block (w := w5) (a := ⟨g, r1, none⟩) (hS7.block g (own.lt g rfl).2 (by omega))).trans (own.frozenAt r1)
          refine MR.storeN (i := 14) (by kernel_rfl) rfl rfl (MR.free rfl) (w' := w7.setCell ⟨g, r1, none⟩ (.int .i64 (zr + ((r2 : Int) - 1)))) (by simp [execOp, MR.ev, MR.size, hsz, e0, f0, e8, f8, hcl7, hfr, go_sem]) ⟨(World.cell?_setCell_other w7 ⟨g, r1, none⟩ ⟨q, 0, none⟩ _ (fun e => by cases e; omega)).trans hQ7, ?_⟩
          refine wpAnyH_done (by kernel_rfl) ⟨rfl, r1, r2, zr, w7, ?_, h1n, rfl, hc7, hS7⟩ _
          rw [HA.out]
          simp only [Act.put, List.setIfInBounds_toArray, List.set_cons_succ, List.set_cons_zero]
          try rfl
        · skip
          refine MR.callW (some 49) (26) (#[.pointer (some ⟨p, 0, none⟩), .int .i64 3]) rfl rfl (MR.free rfl) (by simp [execOp, MR.ev, MR.size, hsz, e0, f0, e8, f8, go_sem]) ?_
          refine (pick_any p a zs0 cap (M + 450 + 4) _ _ hz (by omega) hc6).mono ?_
          rintro e w7 ⟨r2, rfl, hr2, _, hc7, ho7⟩
          have h23 : r2 < 3 := by omega
          have hS7 : MC.Only p w5 w7 := hS6.trans ho7
          have hQ7 : (fun w' : World => w'.cell? ⟨q, 0, none⟩ = some (.slice (some ⟨g, 0, none⟩) n c3)) w7 := (hS7.cell (x := ⟨q, 0, none⟩) lQ (by show q ≠ p; omega)).trans z0
          refine ⟨_, rfl, hQ7, ?_⟩
          have wp1 : IntKind.wrap .i64 ((r2 : Int) - 1) = (r2 : Int) - 1 := ML.wr (by omega) (by omega)
          have wp2 : IntKind.wrap .i64 (zr + ((r2 : Int) - 1)) = zr + ((r2 : Int) - 1) := by exact ML.wr (by omega) (by omega)
          refine MR.takeH (i := 11) (some 50) (.int .i64 ((r2 : Int) - 1)) rfl rfl (by kernel_rfl) (by kernel_rfl) (by kernel_rfl) nofun hQ7 (MR.free rfl) (fun wq hw => by simp [execOp, MR.ev, MR.size, hsz, e0, f0, e8, f8, wp1, go_sem]) ?_
          have hcl := HC.out w7 hS7
          refine MR.nowH (w' := w7) (i := 8) (some 47) (.int .i64 zr) (by kernel_rfl) rfl rfl (MR.free rfl) (by simp [execOp, MR.ev, MR.size, hsz, e0, f0, e8, f8, hcl, go_sem]) ⟨hQ7, ?_⟩
          refine MR.takeH (i := 12) (some 51) (.int .i64 (zr + ((r2 : Int) - 1))) rfl rfl (by kernel_rfl) (by kernel_rfl) (by kernel_rfl) nofun hQ7 (MR.free rfl) (fun wq hw => by simp [execOp, MR.ev, MR.size, hsz, e0, f0, e8, f8, wp2, go_sem]) ?_
          refine MR.takeH (i := 13) (some 52) (.pointer (some ⟨g, r1, none⟩)) rfl rfl (by kernel_rfl) (by kernel_rfl) (by kernel_rfl) nofun hQ7 (MR.free rfl) (fun wq hw => by simp [execOp, MR.ev, MR.size, hsz, e0, f0, e8, f8, i1, i2, i3, h1n, go_sem]) ?_
          have hcl7 := HC.out w7 hS7
          have hfr : w7.frozen? ⟨g, r1, none⟩ = false := (World.frozen?_of_block (w := w5) (a := ⟨g, r1, none⟩) (hS7.block g (own.lt g rfl).2 (by omega))).trans (own.frozenAt r1)
          refine MR.storeN (i := 14) (by kernel_rfl) rfl rfl (MR.free rfl) (w' := w7.setCell ⟨g, r1, none⟩ (.int .i64 (zr + ((r2 : Int) - 1)))) (by simp [execOp, MR.ev, MR.size, hsz, e0, f0, e8, f8, hcl7, hfr, go_sem]) ⟨(World.cell?_setCell_other w7 ⟨g, r1, none⟩ ⟨q, 0, none⟩ _ (fun e => by cases e; omega)).trans hQ7, ?_⟩
          refine wpAnyH_done (by kernel_rfl) ⟨rfl, r1, r2, zr, w7, ?_, h1n, rfl, hc7, hS7⟩ _
          rw [HA.out]
          simp only [Act.put, List.setIfInBounds_toArray, List.set_cons_succ, List.set_cons_zero]
          try rfl
      · rintro aa w8 ⟨r1, r2, zr, W6, rfl, h1n, rfl, hc6, ho6⟩
        rw [HA.out]
        simp only [Act.put, List.setIfInBounds_toArray, List.set_cons_succ, List.set_cons_zero]
        clear HA hsz e0 f0 e8 f8 z0 z1 z2 lQ CELL HB3
        have own6 := SP.own_only2 own ho6 (fun e => by simp [Value.ownBlock] at e; omega)
        have ong := (MC.Only.refl g W6).setCell r1 (.int .i64 (zr + ((r2 : Int) - 1)))
        have hst := (own6.stored r1 (.int .i64 (zr + ((r2 : Int) - 1)))).1
        rw [M4.iv_set] at hst
        replace bR := (bR.only ho6 (by omega)).only ong (by omega)
        replace bQ := (bQ.only ho6 (by omega)).only ong (by omega)
        have hc8 := ML.cur_only2 hc6 ong (by omega)
        have hO8 := ML.only_new (hO5.trans ho6) ong (by omega)
        have hl' : (zs.set r1 (zr + ((r2 : Int) - 1))).length = n := by simp [HN.out]
        have HL' : Hid _ := hl'
        clear own own6 ong hc6 hO5 hc5 ho6 hl' HZ
        generalize W6.setCell ⟨g, r1, none⟩ (.int .i64 (zr + ((r2 : Int) - 1))) = w8 at *
        generalize zs.set r1 (zr + ((r2 : Int) - 1)) = ys at *
        have own := hst
        clear hst
        obtain ⟨z0, z1, z2⟩ := bQ.cells
        obtain ⟨k0, k1, k2⟩ := bR.cells
        have f0 := bR.free 0
        have f1 := bR.free 1
        have f2 := bR.free 2
        have lR := bR.lt
        have lQ := bQ.lt
        have HF : Hid _ := And.intro bR (And.intro own (And.intro hc8 hO8))
        clear own bR bQ hc8 hO8
        go_wp2
        have zz := ((HF.out.1.set0 (.slice (some ⟨g, 0, none⟩) n c3)).set1 (.int .i64 t)).set2 (.bool th)
        obtain ⟨e0, e1, e2⟩ := zz.cells
        have on := (((MC.Only.refl w.heap.size w8).setCell 0 (.slice (some ⟨g, 0, none⟩) n c3)).setCell 1 (.int .i64 t)).setCell 2 (.bool th)
        have hO2 := SP.own_only2 HF.out.2.1 on (fun e => by simp [Value.ownBlock] at e; omega)
        have hOn := ML.only_new HF.out.2.2.2 on (Nat.le_refl _)
        have hCn := ML.cur_only2 HF.out.2.2.1 on (by omega)
        exact bodyPost_ret (v := .agg #[.slice (some ⟨g, 0, none⟩) n c3, .int .i64 t, .bool th]) (by simp [results, Try.results25, go_sem, e0, e1, e2]) rfl ⟨g, c3, ys, t, th, by rw [HL'.out], by rw [HL'.out]; exact hl2, by rw [HL'.out]; exact hO2, hCn.more (by omega), hOn⟩
  | none =>
    rw [hA] at ho
    simp only [SP.pL, SP.pH, SP.pM, SP.pT, Option.isSome_none] at ho ⊢
    have OB : Below w3.heap.size w3 (w3.alloc (.cells #[.slice a3 ([] : List Int).length c3, .int .i64 0, .bool false] 28)) := (Below.refl _ _).alloc (Nat.le_refl _) _
    replace bR := bR.alloc (.cells #[.slice a3 ([] : List Int).length c3, .int .i64 0, .bool false] 28)
    have bQ := SP.B3.new w3 (.slice a3 ([] : List Int).length c3) (.int .i64 0) (.bool false) 28 rfl
    have hc4 := hc3.alloc (.cells #[.slice a3 ([] : List Int).length c3, .int .i64 0, .bool false] 28)
    have hO4 := hO3.alloc (.cells #[.slice a3 ([] : List Int).length c3, .int .i64 0, .bool false] 28)
    clear ho hc3 hO3 OB hA
    go_wp2_with fail
    simp only [List.length_nil] at *
    have hsz4 : (w3.alloc (.cells #[.slice a3 0 c3, .int .i64 0, .bool false] 28)).heap.size = w3.heap.size + 1 := by simp
    generalize w3.alloc (.cells #[.slice a3 0 c3, .int .i64 0, .bool false] 28) = w4 at *
    have NS : Hid _ := newSprayS_any 3 0 2 4 w4
    refine Calls.mono NS.out ?_
    clear NS
    rintro e w5 ⟨a5, c5, rfl, ho, hb⟩
    replace bR := bR.below hb bR.lt
    replace bQ := bQ.below hb bQ.lt
    have hc5 := hc4.below hb
    have hO5 := hO4.trans (MC.Only.of_below hb)
    have hs5 := hb.size
    rw [show SP.nL 3 0 2 4 = [4, 0, 0] from by decide] at ho ⊢
    rw [show SP.nT 3 0 2 4 = 2 from by decide, show SP.nok 3 0 2 4 = true from by decide]
    obtain ⟨g, cg, hv⟩ := SP.own_some ho (by simp)
    cases hv
    have hgl := ho.lt g rfl
    clear hc4 hO4 hb
    have hl2 : 2 ≤ ([4, 0, 0] : List Int).length ∧ ([4, 0, 0] : List Int).length ≤ 8 := by simp
    have hbd : ∀ j : Nat, 0 ≤ ([4, 0, 0] : List Int).getD j 0 ∧ ([4, 0, 0] : List Int).getD j 0 ≤ 64 := fun j => by
      match j with
      | 0 => simp
      | 1 => simp
      | 2 => simp
      | j + 3 => simp
    generalize ([4, 0, 0] : List Int) = zs at *
    obtain ⟨q, hq⟩ : ∃ q, w3.heap.size = q := ⟨_, rfl⟩
    rw [hq] at bQ
    have hqR : w.heap.size < q := by omega
    have lQ0 := bQ.lt
    have on := (((MC.Only.refl q w5).setCell 0 (.slice (some ⟨g, 0, none⟩) zs.length c5)).setCell 1 (.int .i64 2)).setCell 2 (.bool false)
    have bQ2 := ((bQ.set0 (.slice (some ⟨g, 0, none⟩) zs.length c5)).set1 (.int .i64 2)).set2 (.bool false)
    have bR2 := bR.only on (by omega)
    have own2 := SP.own_only2 (SP.own_le ho (by omega : w.heap.size ≤ w4.heap.size)) on (fun e => by simp [Value.ownBlock] at e; omega)
    have hc6 := ML.cur_only2 hc5 on (by omega)
    have hO6 := ML.only_new hO5 on (by omega)
    obtain ⟨y0, y1, y2⟩ := bQ.cells
    have p0 := bQ.free 0
    have p1 := bQ.free 1
    have p2 := bQ.free 2
    have HFF : Hid _ := And.intro bR2 (And.intro bQ2 (And.intro own2 (And.intro hc6 hO6)))
    clear bR2 bQ2 own2 hc6 hO6 bQ bR on ho hc5 hO5
    go_wp2_with fail
    obtain ⟨bR, bQ, own, hc, hO⟩ := HFF.out
    clear HFF y0 y1 y2 p0 p1 p2
    generalize ((w5.setCell ⟨q, 0, none⟩ (.slice (some ⟨g, 0, none⟩) zs.length c5)).setCell ⟨q, 1, none⟩ (.int .i64 2)).setCell ⟨q, 2, none⟩ (.bool false) = w6 at *
    obtain ⟨t2, ht2⟩ : ∃ t2 : Int, 2 = t2 := ⟨_, rfl⟩
    obtain ⟨th, hth⟩ : ∃ th : Bool, false = th := ⟨_, rfl⟩
    rw [ht2, hth] at bQ
    clear ht2 hth
    go_wp2_with fail
    refine (one_any p a zs0 cap (M + 450) _ _ hz (by omega) hc).mono ?_
    rintro e w5 ⟨b, rfl, hc5, ho5⟩
    replace bR := bR.only ho5 (by omega)
    replace bQ := bQ.only ho5 (by omega)
    replace own := SP.own_only2 own ho5 (fun e => by simp [Value.ownBlock] at e; omega)
    have hO5 := hO.trans ho5
    clear hc hO ho5
    obtain ⟨n, hn⟩ : ∃ n, zs.length = n := ⟨_, rfl⟩
    have HN : Hid _ := hn
    rw [hn] at own bQ hl2 ⊢
    clear hn
    cases b with
    | false =>
      obtain ⟨z0, z1, z2⟩ := bQ.cells
      obtain ⟨k0, k1, k2⟩ := bR.cells
      have f0 := bR.free 0
      have f1 := bR.free 1
      have f2 := bR.free 2
      have lR := bR.lt
      have lQ := bQ.lt
      have HF : Hid _ := And.intro bR (And.intro own (And.intro hc5 hO5))
      clear own bR bQ hc5 hO5
      go_wp2
      have zz := ((HF.out.1.set0 (.slice (some ⟨g, 0, none⟩) n c5)).set1 (.int .i64 t2)).set2 (.bool th)
      obtain ⟨e0, e1, e2⟩ := zz.cells
      have on := (((MC.Only.refl w.heap.size w5).setCell 0 (.slice (some ⟨g, 0, none⟩) n c5)).setCell 1 (.int .i64 t2)).setCell 2 (.bool th)
      have hO2 := SP.own_only2 HF.out.2.1 on (fun e => by simp [Value.ownBlock] at e; omega)
      have hOn := ML.only_new HF.out.2.2.2 on (Nat.le_refl _)
      have hCn := ML.cur_only2 HF.out.2.2.1 on (by omega)
      exact bodyPost_ret (v := .agg #[.slice (some ⟨g, 0, none⟩) n c5, .int .i64 t2, .bool th]) (by simp [results, Try.results25, go_sem, e0, e1, e2]) rfl ⟨g, c5, zs, t2, th, by rw [HN.out], by rw [HN.out]; exact hl2, by rw [HN.out]; exact hO2, hCn.more (by omega), hOn⟩
    | true =>
      obtain ⟨z0, z1, z2⟩ := bQ.cells
      have lQ := bQ.lt
      have HB3 : Hid (0 ≤ 0) := Nat.le_refl _
      have HZ : Hid (∀ r1 : Nat, 0 ≤ zs.getD r1 0 ∧ zs.getD r1 0 ≤ 64) := hbd
      have CELL : Hid (∀ (r1 : Nat) (W : World), r1 < n → MC.Only p w5 W → W.cell? ⟨g, r1, none⟩ = some (.int .i64 (zs.getD r1 0))) := fun r1 W hr h => by
        refine (h.cell (x := ⟨g, r1, none⟩) (own.lt g rfl).2 (by show g ≠ p; omega)).trans ?_
        have h2 := own.cellAt r1 (by omega)
        rwa [M4.iv_get zs r1 (zs.getD r1 0) (by rw [List.getD_eq_getElem?_getD, List.getElem?_eq_getElem (by rw [HN.out]; omega)]; rfl)] at h2
      clear hbd
      go_wp2_with fail
      refine MR.frame fun A hA => ?_
      have hsz : A.tmps.size = 54 := by rw [hA]; rfl
      have e0 : A.eval (.tmp 0) = .pointer (some ⟨p, 0, none⟩) := by rw [hA]; rfl
      have f0 := MR.read (t := 0) (by rw [hsz]; decide) e0
      have e8 : A.eval (.tmp 8) = .pointer (some ⟨q, 0, none⟩) := by rw [hA]; rfl
      have f8 := MR.read (t := 8) (by rw [hsz]; decide) e8
      have HA : Hid (A = _) := hA
      clear hA
      refine MR.cut (fun aa w' => ∃ (r1 r2 : Nat) (zr : Int) (W6 : World), aa = ((((((((((((((A.put (some 39) (.pointer (some ⟨q, 0, none⟩))).put (some 40) (.slice (some ⟨g, 0, none⟩) n c5)).put (some 41) (.pointer (some ⟨p, 0, none⟩))).put (some 42) (.pointer (some ⟨q, 0, none⟩))).put (some 43) (.slice (some ⟨g, 0, none⟩) n c5)).put (some 44) (.int .i64 (n : Int))).put (some 45) (.int .i64 (r1 : Int))).put (some 46) (.pointer (some ⟨g, r1, none⟩))).put (some 47) (.int .i64 zr)).put (some 48) (.pointer (some ⟨p, 0, none⟩))).put (some 49) (.int .i64 (r2 : Int))).put (some 50) (.int .i64 ((r2 : Int) - 1))).put (some 51) (.int .i64 (zr + ((r2 : Int) - 1)))).put (some 52) (.pointer (some ⟨g, r1, none⟩))) ∧ r1 < n ∧ w' = W6.setCell ⟨g, r1, none⟩ (.int .i64 (zr + ((r2 : Int) - 1))) ∧ MC.Cur W6 p a zs0 cap (M + 450 + 6) ∧ MC.Only p w5 W6) ?_ ?_
      · have hS : (fun w' : World => w'.cell? ⟨q, 0, none⟩ = some (.slice (some ⟨g, 0, none⟩) n c5)) (World.drew w5) := ((Below.refl _ w5).drew.cell (p := ⟨q, 0, none⟩) lQ).trans z0
        have hOd : MC.Only p w5 (World.drew w5) := MC.Only.of_below ((Below.refl _ w5).drew)
        refine wp_region_held (S := fun w' : World => w'.cell? ⟨q, 0, none⟩ = some (.slice (some ⟨g, 0, none⟩) n c5)) (by kernel_rfl) ?_
        change wpAnyH _ _ _ _ _ _ _ _ (World.drew _)
        refine MR.takeH (i := 0) (some 39) (.pointer (some ⟨q, 0, none⟩)) rfl rfl (by kernel_rfl) (by kernel_rfl) (by kernel_rfl) nofun hS (MR.free rfl) (fun wq hw => by simp [execOp, MR.ev, MR.size, hsz, e0, f0, e8, f8, go_sem]) ?_
        refine MR.takeH (i := 1) (some 40) (.slice (some ⟨g, 0, none⟩) n c5) rfl rfl (by kernel_rfl) (by kernel_rfl) (by kernel_rfl) nofun hS (MR.free rfl) (fun wq hw => by simp [execOp, MR.ev, MR.size, hsz, e0, f0, e8, f8, hw, go_sem]) ?_
        refine MR.takeH (i := 2) (some 41) (.pointer (some ⟨p, 0, none⟩)) rfl rfl (by kernel_rfl) (by kernel_rfl) (by kernel_rfl) nofun hS (MR.free rfl) (fun wq hw => by simp [execOp, MR.ev, MR.size, hsz, e0, f0, e8, f8, go_sem]) ?_
        refine MR.takeH (i := 3) (some 42) (.pointer (some ⟨q, 0, none⟩)) rfl rfl (by kernel_rfl) (by kernel_rfl) (by kernel_rfl) nofun hS (MR.free rfl) (fun wq hw => by simp [execOp, MR.ev, MR.size, hsz, e0, f0, e8, f8, go_sem]) ?_
        refine MR.takeH (i := 4) (some 43) (.slice (some ⟨g, 0, none⟩) n c5) rfl rfl (by kernel_rfl) (by kernel_rfl) (by kernel_rfl) nofun hS (MR.free rfl) (fun wq hw => by simp [execOp, MR.ev, MR.size, hsz, e0, f0, e8, f8, hw, go_sem]) ?_
        refine MR.takeH (i := 5) (some 44) (.int .i64 (n : Int)) rfl rfl (by kernel_rfl) (by kernel_rfl) (by kernel_rfl) nofun hS (MR.free rfl) (fun wq hw => by simp [execOp, MR.ev, MR.size, hsz, e0, f0, e8, f8, go_sem]) ?_
        refine MR.takeH (i := 9) (some 48) (.pointer (some ⟨p, 0, none⟩)) rfl rfl (by kernel_rfl) (by kernel_rfl) (by kernel_rfl) nofun hS (MR.free rfl) (fun wq hw => by simp [execOp, MR.ev, MR.size, hsz, e0, f0, e8, f8, go_sem]) ?_
        refine MR.callH (i := 6) (some 45) (26) (#[.pointer (some ⟨p, 0, none⟩), .int .i64 (n : Int)]) (by kernel_rfl) rfl rfl (MR.free rfl) (by simp [execOp, MR.ev, MR.size, hsz, e0, f0, e8, f8, go_sem]) ?_
        refine (pick_any p a zs0 cap (M + 450 + 2) _ _ hz (by omega) (hc5.below ((Below.refl _ w5).drew))).mono ?_
        rintro e w6 ⟨r1, rfl, hr1, _, hc6, ho6⟩
        have h1n : r1 < n := by omega
        obtain ⟨zr, hzr⟩ : ∃ z, zs.getD r1 0 = z := ⟨_, rfl⟩
        have HC : Hid (∀ W : World, MC.Only p w5 W → W.cell? ⟨g, r1, none⟩ = some (.int .i64 zr)) := fun W h => by rw [← hzr]; exact CELL.out r1 W h1n h
        have hzb : 0 ≤ zr ∧ zr ≤ 64 := by rw [← hzr]; exact HZ.out r1
        clear hzr
        have hS6 : MC.Only p w5 w6 := hOd.trans ho6
        have hQ6 : (fun w' : World => w'.cell? ⟨q, 0, none⟩ = some (.slice (some ⟨g, 0, none⟩) n c5)) w6 := (hS6.cell (x := ⟨q, 0, none⟩) lQ (by show q ≠ p; omega)).trans z0
        refine ⟨_, rfl, hQ6, ?_⟩
        have i1 : ¬ ((r1 : Int) < 0) := by omega
        have i2 : ((r1 : Int) < (n : Int)) := by omega
        have i3 : (0 : Int) ≤ (r1 : Int) := by omega
        refine MR.takeH (i := 7) (some 46) (.pointer (some ⟨g, r1, none⟩)) rfl rfl (by kernel_rfl) (by kernel_rfl) (by kernel_rfl) nofun hQ6 (MR.free rfl) (fun wq hw => by simp [execOp, MR.ev, MR.size, hsz, e0, f0, e8, f8, i1, i2, i3, h1n, go_sem]) ?_
        refine MR.two (i := 8) (j := 10) (by kernel_rfl) ?_ ?_
        · skip
          have hcl := HC.out w6 hS6
          refine MR.nowW (w' := w6) (some 47) (.int .i64 zr) rfl rfl (MR.free rfl) (by simp [execOp, MR.ev, MR.size, hsz, e0, f0, e8, f8, hcl, go_sem]) ⟨hQ6, ?_⟩
          refine MR.callH (i := 10) (some 49) (26) (#[.pointer (some ⟨p, 0, none⟩), .int .i64 3]) (by kernel_rfl) rfl rfl (MR.free rfl) (by simp [execOp, MR.ev, MR.size, hsz, e0, f0, e8, f8, go_sem]) ?_
          refine (pick_any p a zs0 cap (M + 450 + 4) _ _ hz (by omega) hc6).mono ?_
          rintro e w7 ⟨r2, rfl, hr2, _, hc7, ho7⟩
          have h23 : r2 < 3 := by omega
          have hS7 : MC.Only p w5 w7 := hS6.trans ho7
          have hQ7 : (fun w' : World => w'.cell? ⟨q, 0, none⟩ = some (.slice (some ⟨g, 0, none⟩) n c5)) w7 := (hS7.cell (x := ⟨q, 0, none⟩) lQ (by show q ≠ p; omega)).trans z0
          refine ⟨_, rfl, hQ7, ?_⟩
          have wp1 : IntKind.wrap .i64 ((r2 : Int) - 1) = (r2 : Int) - 1 := ML.wr (by omega) (by omega)
          have wp2 : IntKind.wrap .i64 (zr + ((r2 : Int) - 1)) = zr + ((r2 : Int) - 1) := by exact ML.wr (by omega) (by omega)
          refine MR.takeH (i := 11) (some 50) (.int .i64 ((r2 : Int) - 1)) rfl rfl (by kernel_rfl) (by kernel_rfl) (by kernel_rfl) nofun hQ7 (MR.free rfl) (fun wq hw => by simp [execOp, MR.ev, MR.size, hsz, e0, f0, e8, f8, wp1, go_sem]) ?_
          refine MR.takeH (i := 12) (some 51) (.int .i64 (zr + ((r2 : Int) - 1))) rfl rfl (by kernel_rfl) (by kernel_rfl) (by kernel_rfl) nofun hQ7 (MR.free rfl) (fun wq hw => by simp [execOp, MR.ev, MR.size, hsz, e0, f0, e8, f8, wp2, go_sem]) ?_
          refine MR.takeH (i := 13) (some 52) (.pointer (some ⟨g, r1, none⟩)) rfl rfl (by kernel_rfl) (by kernel_rfl) (by kernel_rfl) nofun hQ7 (MR.free rfl) (fun wq hw => by simp [execOp, MR.ev, MR.size, hsz, e0, f0, e8, f8, i1, i2, i3, h1n, go_sem]) ?_
          have hcl7 := HC.out w7 hS7
          have hfr : w7.frozen? ⟨g, r1, none⟩ = false := (World.frozen?_of_block (w := w5) (a := ⟨g, r1, none⟩) (hS7.block g (own.lt g rfl).2 (by omega))).trans (own.frozenAt r1)
          refine MR.storeN (i := 14) (by kernel_rfl) rfl rfl (MR.free rfl) (w' := w7.setCell ⟨g, r1, none⟩ (.int .i64 (zr + ((r2 : Int) - 1)))) (by simp [execOp, MR.ev, MR.size, hsz, e0, f0, e8, f8, hcl7, hfr, go_sem]) ⟨(World.cell?_setCell_other w7 ⟨g, r1, none⟩ ⟨q, 0, none⟩ _ (fun e => by cases e; omega)).trans hQ7, ?_⟩
          refine wpAnyH_done (by kernel_rfl) ⟨rfl, r1, r2, zr, w7, ?_, h1n, rfl, hc7, hS7⟩ _
          rw [HA.out]
          simp only [Act.put, List.setIfInBounds_toArray, List.set_cons_succ, List.set_cons_zero]
          try rfl
        · skip
          refine MR.callW (some 49) (26) (#[.pointer (some ⟨p, 0, none⟩), .int .i64 3]) rfl rfl (MR.free rfl) (by simp [execOp, MR.ev, MR.size, hsz, e0, f0, e8, f8, go_sem]) ?_
          refine (pick_any p a zs0 cap (M + 450 + 4) _ _ hz (by omega) hc6).mono ?_
          rintro e w7 ⟨r2, rfl, hr2, _, hc7, ho7⟩
          have h23 : r2 < 3 := by omega
          have hS7 : MC.Only p w5 w7 := hS6.trans ho7
          have hQ7 : (fun w' : World => w'.cell? ⟨q, 0, none⟩ = some (.slice (some ⟨g, 0, none⟩) n c5)) w7 := (hS7.cell (x := ⟨q, 0, none⟩) lQ (by show q ≠ p; omega)).trans z0
          refine ⟨_, rfl, hQ7, ?_⟩
          have wp1 : IntKind.wrap .i64 ((r2 : Int) - 1) = (r2 : Int) - 1 := ML.wr (by omega) (by omega)
          have wp2 : IntKind.wrap .i64 (zr + ((r2 : Int) - 1)) = zr + ((r2 : Int) - 1) := by exact ML.wr (by omega) (by omega)
          refine MR.takeH (i := 11) (some 50) (.int .i64 ((r2 : Int) - 1)) rfl rfl (by kernel_rfl) (by kernel_rfl) (by kernel_rfl) nofun hQ7 (MR.free rfl) (fun wq hw => by simp [execOp, MR.ev, MR.size, hsz, e0, f0, e8, f8, wp1, go_sem]) ?_
          have hcl := HC.out w7 hS7
          refine MR.nowH (w' := w7) (i := 8) (some 47) (.int .i64 zr) (by kernel_rfl) rfl rfl (MR.free rfl) (by simp [execOp, MR.ev, MR.size, hsz, e0, f0, e8, f8, hcl, go_sem]) ⟨hQ7, ?_⟩
          refine MR.takeH (i := 12) (some 51) (.int .i64 (zr + ((r2 : Int) - 1))) rfl rfl (by kernel_rfl) (by kernel_rfl) (by kernel_rfl) nofun hQ7 (MR.free rfl) (fun wq hw => by simp [execOp, MR.ev, MR.size, hsz, e0, f0, e8, f8, wp2, go_sem]) ?_
          refine MR.takeH (i := 13) (some 52) (.pointer (some ⟨g, r1, none⟩)) rfl rfl (by kernel_rfl) (by kernel_rfl) (by kernel_rfl) nofun hQ7 (MR.free rfl) (fun wq hw => by simp [execOp, MR.ev, MR.size, hsz, e0, f0, e8, f8, i1, i2, i3, h1n, go_sem]) ?_
          have hcl7 := HC.out w7 hS7
          have hfr : w7.frozen? ⟨g, r1, none⟩ = false := (World.frozen?_of_block (w := w5) (a := ⟨g, r1, none⟩) (hS7.block g (own.lt g rfl).2 (by omega))).trans (own.frozenAt r1)
          refine MR.storeN (i := 14) (by kernel_rfl) rfl rfl (MR.free rfl) (w' := w7.setCell ⟨g, r1, none⟩ (.int .i64 (zr + ((r2 : Int) - 1)))) (by simp [execOp, MR.ev, MR.size, hsz, e0, f0, e8, f8, hcl7, hfr, go_sem]) ⟨(World.cell?_setCell_other w7 ⟨g, r1, none⟩ ⟨q, 0, none⟩ _ (fun e => by cases e; omega)).trans hQ7, ?_⟩
          refine wpAnyH_done (by kernel_rfl) ⟨rfl, r1, r2, zr, w7, ?_, h1n, rfl, hc7, hS7⟩ _
          rw [HA.out]
          simp only [Act.put, List.setIfInBounds_toArray, List.set_cons_succ, List.set_cons_zero]
          try rfl
      · rintro aa w8 ⟨r1, r2, zr, W6, rfl, h1n, rfl, hc6, ho6⟩
        rw [HA.out]
        simp only [Act.put, List.setIfInBounds_toArray, List.set_cons_succ, List.set_cons_zero]
        clear HA hsz e0 f0 e8 f8 z0 z1 z2 lQ CELL HB3
        have own6 := SP.own_only2 own ho6 (fun e => by simp [Value.ownBlock] at e; omega)
        have ong := (MC.Only.refl g W6).setCell r1 (.int .i64 (zr + ((r2 : Int) - 1)))
        have hst := (own6.stored r1 (.int .i64 (zr + ((r2 : Int) - 1)))).1
        rw [M4.iv_set] at hst
        replace bR := (bR.only ho6 (by omega)).only ong (by omega)
        replace bQ := (bQ.only ho6 (by omega)).only ong (by omega)
        have hc8 := ML.cur_only2 hc6 ong (by omega)
        have hO8 := ML.only_new (hO5.trans ho6) ong (by omega)
        have hl' : (zs.set r1 (zr + ((r2 : Int) - 1))).length = n := by simp [HN.out]
        have HL' : Hid _ := hl'
        clear own own6 ong hc6 hO5 hc5 ho6 hl' HZ
        generalize W6.setCell ⟨g, r1, none⟩ (.int .i64 (zr + ((r2 : Int) - 1))) = w8 at *
        generalize zs.set r1 (zr + ((r2 : Int) - 1)) = ys at *
        have own := hst
        clear hst
        obtain ⟨z0, z1, z2⟩ := bQ.cells
        obtain ⟨k0, k1, k2⟩ := bR.cells
        have f0 := bR.free 0
        have f1 := bR.free 1
        have f2 := bR.free 2
        have lR := bR.lt
        have lQ := bQ.lt
        have HF : Hid _ := And.intro bR (And.intro own (And.intro hc8 hO8))
        clear own bR bQ hc8 hO8
        go_wp2
        have zz := ((HF.out.1.set0 (.slice (some ⟨g, 0, none⟩) n c5)).set1 (.int .i64 t2)).set2 (.bool th)
        obtain ⟨e0, e1, e2⟩ := zz.cells
        have on := (((MC.Only.refl w.heap.size w8).setCell 0 (.slice (some ⟨g, 0, none⟩) n c5)).setCell 1 (.int .i64 t2)).setCell 2 (.bool th)
        have hO2 := SP.own_only2 HF.out.2.1 on (fun e => by simp [Value.ownBlock] at e; omega)
        have hOn := ML.only_new HF.out.2.2.2 on (Nat.le_refl _)
        have hCn := ML.cur_only2 HF.out.2.2.1 on (by omega)
        exact bodyPost_ret (v := .agg #[.slice (some ⟨g, 0, none⟩) n c5, .int .i64 t2, .bool th]) (by simp [results, Try.results25, go_sem, e0, e1, e2]) rfl ⟨g, c5, ys, t2, th, by rw [HL'.out], by rw [HL'.out]; exact hl2, by rw [HL'.out]; exact hO2, hCn.more (by omega), hOn⟩
end Go.Proofs.Ytgajfpohlemahaa
