/- ShortOf of the specification. -/
import Derived.Test.YtlcdimiookaefabRows
import Derived.Test.YtlcdimiookaefabMPJ2
import Derived.Test.YtlcdimiookaefabCPairRch
import Derived.Test.YtlcdimiookaefabCPairAll0
import Derived.Test.YtlcdimiookaefabMRP
import Derived.Test.YtlcdimiookaefabMPS2
import Derived.Test.YtlcdimiookaefabCPut
import Derived.WalkKit
import Derived.WalkSpells
import Derived.WalkLawsBesides
import Derived.Outline
namespace Go.Proofs.Ytlcdimiookaefab
open Go.RowKit
set_option linter.unusedSimpArgs false in
set_option maxHeartbeats 3200000 in
set_option maxRecDepth 100000 in
theorem specSh_any (l r : Int) (a : Option Addr) (cap : Nat) (ws : List (List Int)) (w : World) (hz : ws.length ≤ 1048576) (ht : NR.tot ws ≤ 1048576) (hin : NR.RowsAt w a ws) (L : List Int) (hL : Hid (PG.shL l r ws = L)) :
    Calls Try.prog 5 #[PG.pv l r (.slice a ws.length cap)] w fun e w' => ∃ a1 c1, e = .returned (.tuple #[.slice a1 L.length c1, .bool (decide (0 < L.length))]) ∧ w'.ownsRow w.heap.size 3 1 (.slice a1 L.length c1) L.length (M4.iv L) ∧ Below w.heap.size w w' := by
  obtain ⟨g, hg'⟩ : ∃ g, PG.good l r ws = g := ⟨_, rfl⟩
  have hg : Hid (PG.good l r ws = g) := hg'
  clear hg'
  have hB : Below w.heap.size w (w.alloc (Obj.cells #[.int .i64 l, .int .i64 r, .slice a ws.length cap] 29)) := (Below.refl _ _).alloc (Nat.le_refl _) _
  have hC : (w.alloc (Obj.cells #[.int .i64 l, .int .i64 r, .slice a ws.length cap] 29)).cell? ⟨w.heap.size, 0, none⟩ = some (.int .i64 l) ∧ (w.alloc (Obj.cells #[.int .i64 l, .int .i64 r, .slice a ws.length cap] 29)).cell? ⟨w.heap.size, 1, none⟩ = some (.int .i64 r) ∧ (w.alloc (Obj.cells #[.int .i64 l, .int .i64 r, .slice a ws.length cap] 29)).cell? ⟨w.heap.size, 2, none⟩ = some (.slice a ws.length cap) := by simp
  have hS : w.heap.size < (w.alloc (Obj.cells #[.int .i64 l, .int .i64 r, .slice a ws.length cap] 29)).heap.size := by simp
  have GD : Hid _ := specGoodP_any l r a cap ws _ hz ht (hin.below hB) g hg
  have LA0 : Hid (g = true → ∀ W : World, Below w.heap.size w W → Calls Try.prog 16 #[PG.pv l r (.slice a ws.length cap)] W fun e w' => ∃ a1 c1, e = .returned (.slice a1 l.toNat c1) ∧ w'.ownsRow W.heap.size 3 1 (.slice a1 l.toNat c1) l.toNat (M4.iv (PG.allL l r ws)) ∧ Below W.heap.size W w') := fun h W hb => by
    have h1 := hg.out.trans h
    have hd := (PG.good_is h1).1
    have := l10All_any l.toNat r.toNat a cap ws W (by omega) (by omega) (by omega) (by omega) ht (fun j x hx => by have := PG.good_want h1 j x hx; omega) (hin.below hb) (PG.allL l r ws) (by rw [PG.allL_yes h1]; exact rfl)
    rw [show ((r.toNat : Nat) : Int) = r from by omega, show ((l.toNat : Nat) : Int) = l from by omega] at this
    exact this
  obtain ⟨Z, hZ'⟩ : ∃ Z, PG.reach ws (PG.allL l r ws) = Z := ⟨_, rfl⟩
  have RE0 : Hid (g = true → ∀ (b : Option Addr) (cb : Nat) (W : World), Below w.heap.size w W → M4.IntsAt W b (PG.allL l r ws) → Calls Try.prog 15 #[PG.pv l r (.slice a ws.length cap), .slice b l.toNat cb] W fun e w' => ∃ a1 c1 a2 c2, e = .returned (.tuple #[.slice a1 Z.1.length c1, .slice a2 Z.2.length c2]) ∧ M4.IntsAt w' a1 Z.1 ∧ M4.IntsAt w' a2 Z.2 ∧ Below W.heap.size W w') := fun h b cb W hb hi => by
    have h1 := hg.out.trans h
    have hd := (PG.good_is h1).1
    exact reach_any l r l.toNat a b cap cb ws (PG.allL l r ws) W (by omega) (PG.allL_len h1) (show ws.length = l.toNat by omega) ht (PG.good_Gd h1) (hin.below hb) hi Z hZ'
  have HY : Hid (g = true → Z.1.length ≤ 8 ∧ Z.2.length ≤ 8 ∧ Z.1.Nodup ∧ PG.pU Z.1 Z.1.length = L) := fun h => by
    have h1 := hg.out.trans h
    have hd := (PG.good_is h1).1
    obtain ⟨R, ha, hb⟩ := PG.rch_is h1
    have hs := PG.sh_is h1
    rw [hZ'] at R hs
    have k1 := R.len1
    have k2 := R.len2
    have k3 := PG.allL_len h1
    exact ⟨by omega, k2, R.nd, by rw [hs]; exact hL.out⟩
  have HNO : Hid (g = false → L = []) := fun h => by rw [← hL.out]; exact PG.shL_no (hg.out.trans h)
  clear hin hL hg hZ'
  go_enter Try.func5, Try.ntmps5
  go_wp2_with fail
  generalize w.alloc (Obj.cells #[.int .i64 l, .int .i64 r, .slice a ws.length cap] 29) = W at *
  refine Calls.mono GD.out ?_
  rintro e w2 ⟨rfl, hb2⟩
  have c0 := (hb2.cell (p := ⟨w.heap.size, 0, none⟩) hS).trans hC.1
  have c1 := (hb2.cell (p := ⟨w.heap.size, 1, none⟩) hS).trans hC.2.1
  have c2 := (hb2.cell (p := ⟨w.heap.size, 2, none⟩) hS).trans hC.2.2
  have hB2 := hB.trans (hb2.mono hB.size)
  have hS2 := Nat.lt_of_lt_of_le hS hb2.size
  clear GD hb2 hC hS hB
  cases g
  · obtain rfl := HNO.out rfl
    clear LA0 RE0 HNO HY
    go_wp2
    go_ret2
    exact ⟨none, 0, rfl, World.ownsRow_nil _ _ _ _, hB2⟩
  · have LA : Hid _ := LA0.out rfl
    have RE : Hid _ := RE0.out rfl
    obtain ⟨z1, z2, hnd, hLL⟩ := HY.out rfl
    have HND : Hid _ := hnd
    have HL : Hid _ := hLL
    clear LA0 RE0 HNO HY hnd hLL
    go_wp2
    refine MR.frame fun A hA => ?_
    have hsz : A.tmps.size = 33 := by rw [hA]; rfl
    have e1 : A.eval (.tmp 1) = .pointer (some ⟨w.heap.size, 0, none⟩) := by rw [hA]; rfl
    have f1 := MR.read (t := 1) (by rw [hsz]; decide) e1
    have HA : Hid (A = _) := hA
    clear hA
    have hS : (fun wq : World => wq.cell? ⟨w.heap.size, 0, none⟩ = some (.int .i64 l) ∧ wq.cell? ⟨w.heap.size, 1, none⟩ = some (.int .i64 r) ∧ wq.cell? ⟨w.heap.size, 2, none⟩ = some (.slice a ws.length cap)) (World.drew _) := ⟨c0, c1, c2⟩
    refine wp_region_held (S := fun wq : World => wq.cell? ⟨w.heap.size, 0, none⟩ = some (.int .i64 l) ∧ wq.cell? ⟨w.heap.size, 1, none⟩ = some (.int .i64 r) ∧ wq.cell? ⟨w.heap.size, 2, none⟩ = some (.slice a ws.length cap)) (by kernel_rfl) ?_
    change wpAnyH _ _ _ _ _ _ _ _ (World.drew _)
    refine MR.takeH (i := 0) (some 13) (.agg #[.int .i64 l, .int .i64 r, .slice a ws.length cap]) rfl rfl (by kernel_rfl) (by kernel_rfl) (by kernel_rfl) (fun _ _ _ h => h) hS (MR.free rfl) (fun wq hw => by simp [execOp, MR.ev, MR.size, hsz, e1, f1, hw.1, hw.2.1, hw.2.2, go_sem]) ?_
    refine MR.takeH (i := 1) (some 14) (.agg #[.int .i64 l, .int .i64 r, .slice a ws.length cap]) rfl rfl (by kernel_rfl) (by kernel_rfl) (by kernel_rfl) (fun _ _ _ h => h) hS (MR.free rfl) (fun wq hw => by simp [execOp, MR.ev, MR.size, hsz, e1, f1, hw.1, hw.2.1, hw.2.2, go_sem]) ?_
    refine MR.callH (i := 2) (some 15) (16) (#[PG.pv l r (.slice a ws.length cap)]) (by kernel_rfl) rfl rfl (MR.free rfl) (by simp [execOp, MR.ev, MR.size, hsz, e1, f1, go_sem]) ?_
    refine (LA.out _ (hB2.drew)).mono ?_
    rintro e w4 ⟨a4, c4, rfl, ho4', hb4'⟩
    have hb4 : Below w2.heap.size w2 w4 := (Below.refl _ w2).drew.trans hb4'
    have i4 : M4.IntsAt w4 a4 (PG.allL l r ws) := M5.own_ints ho4'
    clear ho4' hb4'
    have hB4 := hB2.trans (hb4.mono hB2.size)
    have hS4 : (fun wq : World => wq.cell? ⟨w.heap.size, 0, none⟩ = some (.int .i64 l) ∧ wq.cell? ⟨w.heap.size, 1, none⟩ = some (.int .i64 r) ∧ wq.cell? ⟨w.heap.size, 2, none⟩ = some (.slice a ws.length cap)) w4 := ⟨(hb4.cell (p := ⟨w.heap.size, 0, none⟩) hS2).trans c0, (hb4.cell (p := ⟨w.heap.size, 1, none⟩) hS2).trans c1, (hb4.cell (p := ⟨w.heap.size, 2, none⟩) hS2).trans c2⟩
    refine ⟨_, rfl, hS4, ?_⟩
    refine MR.callH (i := 3) (some 16) (15) (#[PG.pv l r (.slice a ws.length cap), .slice a4 l.toNat c4]) (by kernel_rfl) rfl rfl (MR.free rfl) (by simp [execOp, MR.ev, MR.size, hsz, e1, f1, go_sem]) ?_
    refine (RE.out a4 c4 w4 hB4 i4).mono ?_
    rintro e w5 ⟨aL, cL, aR, cR, rfl, iL, iR, hb5⟩
    have hs4 := Nat.lt_of_lt_of_le hS2 hb4.size
    have hS5 : (fun wq : World => wq.cell? ⟨w.heap.size, 0, none⟩ = some (.int .i64 l) ∧ wq.cell? ⟨w.heap.size, 1, none⟩ = some (.int .i64 r) ∧ wq.cell? ⟨w.heap.size, 2, none⟩ = some (.slice a ws.length cap)) w5 := ⟨(hb5.cell (p := ⟨w.heap.size, 0, none⟩) hs4).trans hS4.1, (hb5.cell (p := ⟨w.heap.size, 1, none⟩) hs4).trans hS4.2.1, (hb5.cell (p := ⟨w.heap.size, 2, none⟩) hs4).trans hS4.2.2⟩
    have IL : Hid (M4.IntsAt w5 aL Z.1) := iL
    have IR : Hid (M4.IntsAt w5 aR Z.2) := iR
    clear iL iR
    refine ⟨_, rfl, hS5, ?_⟩
    refine MR.takeH (i := 4) (some 12) (.tuple #[.slice aL Z.1.length cL, .slice aR Z.2.length cR]) rfl rfl (by kernel_rfl) (by kernel_rfl) (by kernel_rfl) (fun _ _ _ h => h) hS5 (MR.free rfl) (fun wq hw => by simp [execOp, MR.ev, MR.size, hsz, e1, f1, go_sem]) ?_
    refine MR.takeH (i := 5) (some 17) (.slice aL Z.1.length cL) rfl rfl (by kernel_rfl) (by kernel_rfl) (by kernel_rfl) (fun _ _ _ h => h) hS5 (MR.free rfl) (fun wq hw => by simp [execOp, MR.ev, MR.size, hsz, e1, f1, go_sem]) ?_
    refine MR.takeH (i := 6) (some 18) (.slice aR Z.2.length cR) rfl rfl (by kernel_rfl) (by kernel_rfl) (by kernel_rfl) (fun _ _ _ h => h) hS5 (MR.free rfl) (fun wq hw => by simp [execOp, MR.ev, MR.size, hsz, e1, f1, go_sem]) ?_
    refine MR.takeH (i := 7) (some 4) (.slice aL Z.1.length cL) rfl rfl (by kernel_rfl) (by kernel_rfl) (by kernel_rfl) (fun _ _ _ h => h) hS5 (MR.free rfl) (fun wq hw => by simp [execOp, MR.ev, MR.size, hsz, e1, f1, go_sem]) ?_
    refine MR.takeH (i := 8) (some 5) (.slice aR Z.2.length cR) rfl rfl (by kernel_rfl) (by kernel_rfl) (by kernel_rfl) (fun _ _ _ h => h) hS5 (MR.free rfl) (fun wq hw => by simp [execOp, MR.ev, MR.size, hsz, e1, f1, go_sem]) ?_
    refine wpAnyH_done (by kernel_rfl) ?_ _
    rw [HA.out]
    obtain ⟨d0, d1, d2⟩ := hS5
    have hB5 := hB4.trans (hb5.mono hB4.size)
    have hS5' := Nat.lt_of_lt_of_le hs4 hb5.size
    clear HA e1 f1 hsz hS hS4 LA RE c0 c1 c2 hb4 hb5 hB4 hs4 i4 hB2 hS2
    simp only [Act.put, List.setIfInBounds_toArray, List.set_cons_succ, List.set_cons_zero]
    clear IR d0 d1 d2
    generalize hzn : Z.1 = zl at *
    have HZN : Hid _ := hzn
    clear hzn
    have hLl : L.length = zl.length := by rw [← HL.out, PG.pU_len (Nat.le_refl _)]
    by_cases hz0 : zl.length = 0
    · obtain rfl : zl = [] := List.eq_nil_of_length_eq_zero hz0
      obtain rfl : L = [] := List.eq_nil_of_length_eq_zero hLl
      clear HND HL IL hz0 hLl
      go_wp2
      go_ret2
      exact ⟨none, 0, rfl, World.ownsRow_nil _ _ _ _, hB5⟩
    · have HLl : Hid _ := hLl
      have hzp : ((zl.length : Int) == 0) = false := by simp; exact fun e => hz0 (by rw [e]; rfl)
      have HZ0 : Hid _ := hz0
      clear hLl hz0
      go_wp2
      go_loopw [6, 24] (fun u iv wr => ∃ k : Nat, iv = .int .i64 k ∧ k ≤ zl.length ∧ Hid (wr.ownsRow w5.heap.size 3 1 u (PG.pU zl k).length (M4.iv (PG.pU zl k))) ∧ Below w5.heap.size w5 wr) (fun _ iv _ => (zl.length - intOf iv).toNat)
      case atStart => exact ⟨0, rfl, by omega, World.ownsRow_nil _ _ _ _, Below.refl _ _⟩
      case round =>
        obtain ⟨k, rfl, hk, hT, hb⟩ := hrel
        by_cases hl : k < zl.length
        · obtain ⟨b7, off7, rfl, hlt7, hc7⟩ := M4.IntsAt.at (M4.IntsAt.below IL.out hb) hl
          have PT := l7Put_any w5.heap.size u6 (PG.pU zl k) (zl.getD k 0) wr (by rw [PG.pU_len (by omega)]; omega) (PG.pU_new HND.out hl) hT.out
          rw [← PG.pU_succ hl] at PT
          have HPT : Hid _ := PT
          clear PT hT
          generalize zl.getD k 0 = x at *
          generalize hpl : (PG.pU zl (k + 1)).length = pl at *
          have HPL : Hid _ := hpl
          clear hpl
          go_wp2_with fail
          refine Calls.mono HPT.out ?_
          rintro e w7 ⟨a7, c7, rfl, ho7, hb7⟩
          have HT7 : Hid (w7.ownsRow w5.heap.size 3 1 (.slice a7 pl c7) (PG.pU zl (k + 1)).length (M4.iv (PG.pU zl (k + 1)))) := by rw [HPL.out]; exact PG.own_mono ho7 hb.size
          have hb8 := hb.trans (hb7.mono hb.size)
          clear HPT ho7 hb7 hb HPL
          go_wp2
          go_roundw
          case rel => exact ⟨k + 1, by go_num, by omega, HT7, hb8⟩
          case measure => simp [intOf]; omega
        · obtain rfl : k = zl.length := by omega
          have HT6 : Hid (wr.ownsRow w5.heap.size 3 1 u6 L.length (M4.iv L)) := by rw [← HL.out]; exact hT.out
          obtain ⟨aa1, cc1, rfl, -⟩ := M5.own_view HT6.out
          have hB7 := hB5.trans (hb.mono hB5.size)
          have hpos : decide (0 < L.length) = true := by rw [HLl.out]; simp; exact Nat.pos_of_ne_zero HZ0.out
          have HPS : Hid _ := hpos
          clear hT HL IL HND hpos
          go_wp2
          go_ret2
          exact ⟨aa1, cc1, by rw [HPS.out]; rfl, PG.own_mono HT6.out hB5.size, hB7⟩
end Go.Proofs.Ytlcdimiookaefab
