/- CoverOf of the specification. -/
import Derived.Test.YtjfnmhkhjaafkaaRows
import Derived.Test.YtjfnmhkhjaafkaaMPJ2
import Derived.Test.YtjfnmhkhjaafkaaCPairRch
import Derived.Test.YtjfnmhkhjaafkaaCPairAll0
import Derived.Test.YtjfnmhkhjaafkaaMRP
import Derived.WalkKit
import Derived.WalkSpells
import Derived.WalkLawsBesides
import Derived.Outline
namespace Go.Proofs.Ytjfnmhkhjaafkaa
open Go.RowKit
set_option linter.unusedSimpArgs false in
set_option maxHeartbeats 3200000 in
set_option maxRecDepth 100000 in
theorem specCov_any (l r : Int) (a : Option Addr) (cap : Nat) (ws : List (List Int)) (w : World) (hz : ws.length ≤ 1048576) (ht : NR.tot ws ≤ 1048576) (hin : NR.RowsAt w a ws) (L K : List Int) (g : Bool) (hL : Hid (PG.coA l r ws = L)) (hK : Hid (PG.coB l r ws = K)) (hg : Hid (PG.good l r ws = g)) :
    Calls Try.prog 9 #[PG.pv l r (.slice a ws.length cap)] w fun e w' => ∃ a1 c1 a2 c2 M, e = .returned (.tuple #[.slice a1 L.length c1, .slice a2 K.length c2, .bool g]) ∧ w.heap.size ≤ M ∧ M ≤ w'.heap.size ∧ w'.ownsRow w.heap.size 3 1 (.slice a1 L.length c1) L.length (M4.iv L) ∧ (∀ k, (Value.slice a1 L.length c1).ownBlock = some k → k < M) ∧ w'.ownsRow M 3 1 (.slice a2 K.length c2) K.length (M4.iv K) ∧ Below w.heap.size w w' := by
  have hB : Below w.heap.size w (w.alloc (Obj.cells #[.int .i64 l, .int .i64 r, .slice a ws.length cap] 25)) := (Below.refl _ _).alloc (Nat.le_refl _) _
  have hC : (w.alloc (Obj.cells #[.int .i64 l, .int .i64 r, .slice a ws.length cap] 25)).cell? ⟨w.heap.size, 0, none⟩ = some (.int .i64 l) ∧ (w.alloc (Obj.cells #[.int .i64 l, .int .i64 r, .slice a ws.length cap] 25)).cell? ⟨w.heap.size, 1, none⟩ = some (.int .i64 r) ∧ (w.alloc (Obj.cells #[.int .i64 l, .int .i64 r, .slice a ws.length cap] 25)).cell? ⟨w.heap.size, 2, none⟩ = some (.slice a ws.length cap) := by simp
  have hS : w.heap.size < (w.alloc (Obj.cells #[.int .i64 l, .int .i64 r, .slice a ws.length cap] 25)).heap.size := by simp
  have GD : Hid _ := specGoodP_any l r a cap ws _ hz ht (hin.below hB) g hg
  obtain ⟨i0, hi, hz0, hz1, hz2⟩ := info_parts Try.info3
  have LA0 : Hid (g = true → ∀ W : World, Below w.heap.size w W → Calls Try.prog 26 #[PG.pv l r (.slice a ws.length cap)] W fun e w' => ∃ a1 c1, e = .returned (.slice a1 l.toNat c1) ∧ w'.ownsRow W.heap.size 3 1 (.slice a1 l.toNat c1) l.toNat (M4.iv (PG.allL l r ws)) ∧ Below W.heap.size W w') := fun h W hb => by
    have h1 := hg.out.trans h
    have hd := (PG.good_is h1).1
    have := l10All_any l.toNat r.toNat a cap ws W (by omega) (by omega) (by omega) (by omega) ht (fun j x hx => by have := PG.good_want h1 j x hx; omega) (hin.below hb) (PG.allL l r ws) (by rw [PG.allL_yes h1]; exact rfl)
    rw [show ((r.toNat : Nat) : Int) = r from by omega, show ((l.toNat : Nat) : Int) = l from by omega] at this
    exact this
  obtain ⟨Z, hZ'⟩ : ∃ Z, PG.reach ws (PG.allL l r ws) = Z := ⟨_, rfl⟩
  have RE0 : Hid (g = true → ∀ (b : Option Addr) (cb : Nat) (W : World), Below w.heap.size w W → M4.IntsAt W b (PG.allL l r ws) → Calls Try.prog 30 #[PG.pv l r (.slice a ws.length cap), .slice b l.toNat cb] W fun e w' => ∃ a1 c1 a2 c2, e = .returned (.tuple #[.slice a1 Z.1.length c1, .slice a2 Z.2.length c2]) ∧ M4.IntsAt w' a1 Z.1 ∧ M4.IntsAt w' a2 Z.2 ∧ Below W.heap.size W w') := fun h b cb W hb hi => by
    have h1 := hg.out.trans h
    have hd := (PG.good_is h1).1
    exact reach_any l r l.toNat a b cap cb ws (PG.allL l r ws) W (by omega) (PG.allL_len h1) (show ws.length = l.toNat by omega) ht (PG.good_Gd h1) (hin.below hb) hi Z hZ'
  have HY : Hid (g = true → 1 ≤ l ∧ l ≤ 8 ∧ 1 ≤ r ∧ r ≤ 8 ∧ Z.1.length ≤ 8 ∧ Z.2.length ≤ 8 ∧ PG.those l.toNat (fun i => !EG.hasB Z.1 (i : Int)) = L ∧ PG.those r.toNat (fun i => EG.hasB Z.2 (i : Int)) = K) := fun h => by
    have h1 := hg.out.trans h
    have hd := (PG.good_is h1).1
    obtain ⟨R, ha, hb⟩ := PG.rch_is h1
    rw [hZ'] at R ha hb
    have k1 := R.len1
    have k2 := R.len2
    have k3 := PG.allL_len h1
    refine ⟨hd.1, hd.2.1, hd.2.2.1, hd.2.2.2.1, by omega, k2, ?_, ?_⟩
    · rw [← hL.out, ← PG.coA_yes h1]
      exact PG.those_congr (fun i hi => by rw [ha i hi])
    · rw [← hK.out, ← PG.coB_yes h1]
      exact PG.those_congr (fun i _ => hb i)
  have HNO : Hid (g = false → L = [] ∧ K = []) := fun h => ⟨by rw [← hL.out]; exact PG.coA_no (hg.out.trans h), by rw [← hK.out]; exact PG.coB_no (hg.out.trans h)⟩
  clear hin hL hK hg hZ'
  go_enter Try.func9, Try.ntmps9
  go_wp2_with fail
  generalize w.alloc (Obj.cells #[.int .i64 l, .int .i64 r, .slice a ws.length cap] 25) = W at *
  refine Calls.mono GD.out ?_
  rintro e w2 ⟨rfl, hb2⟩
  have c0 := (hb2.cell (p := ⟨w.heap.size, 0, none⟩) hS).trans hC.1
  have c1 := (hb2.cell (p := ⟨w.heap.size, 1, none⟩) hS).trans hC.2.1
  have c2 := (hb2.cell (p := ⟨w.heap.size, 2, none⟩) hS).trans hC.2.2
  have hB2 := hB.trans (hb2.mono hB.size)
  have hS2 := Nat.lt_of_lt_of_le hS hb2.size
  clear GD hb2 hC hS hB
  cases g
  · obtain ⟨rfl, rfl⟩ := HNO.out rfl
    have hBs := hB2.size
    clear LA0 RE0 HNO HY
    go_wp2
    refine bodyPost_ret (v := .tuple #[.slice none 0 0, .slice none 0 0, .bool false]) (by simp [results, Try.results9, go_sem]) rfl ⟨none, 0, none, 0, w.heap.size, rfl, Nat.le_refl _, hBs, World.ownsRow_nil _ _ _ _, fun k hk => by simp [Value.ownBlock] at hk, World.ownsRow_nil _ _ _ _, hB2⟩
  · have LA : Hid _ := LA0.out rfl
    have RE : Hid _ := RE0.out rfl
    obtain ⟨g1, g2, g3, g4, z1, z2, hL, hK⟩ := HY.out rfl
    obtain ⟨n, rfl⟩ : ∃ n : Nat, l = (n : Int) := ⟨l.toNat, by omega⟩
    obtain ⟨R, rfl⟩ : ∃ R : Nat, r = (R : Int) := ⟨r.toNat, by omega⟩
    simp only [Int.toNat_natCast] at hL hK
    have HL : Hid _ := hL
    have HK : Hid _ := hK
    clear LA0 RE0 HNO HY hL hK
    go_wp2
    refine MR.frame fun A hA => ?_
    have hsz : A.tmps.size = 50 := by rw [hA]; rfl
    have e1 : A.eval (.tmp 1) = .pointer (some ⟨w.heap.size, 0, none⟩) := by rw [hA]; rfl
    have f1 := MR.read (t := 1) (by rw [hsz]; decide) e1
    have HA : Hid (A = _) := hA
    clear hA
    have hS : (fun wq : World => wq.cell? ⟨w.heap.size, 0, none⟩ = some (.int .i64 (n : Int)) ∧ wq.cell? ⟨w.heap.size, 1, none⟩ = some (.int .i64 (R : Int)) ∧ wq.cell? ⟨w.heap.size, 2, none⟩ = some (.slice a ws.length cap)) (World.drew _) := ⟨c0, c1, c2⟩
    refine wp_region_held (S := fun wq : World => wq.cell? ⟨w.heap.size, 0, none⟩ = some (.int .i64 (n : Int)) ∧ wq.cell? ⟨w.heap.size, 1, none⟩ = some (.int .i64 (R : Int)) ∧ wq.cell? ⟨w.heap.size, 2, none⟩ = some (.slice a ws.length cap)) (by kernel_rfl) ?_
    change wpAnyH _ _ _ _ _ _ _ _ (World.drew _)
    refine MR.takeH (i := 0) (some 15) (.agg #[.int .i64 (n : Int), .int .i64 (R : Int), .slice a ws.length cap]) rfl rfl (by kernel_rfl) (by kernel_rfl) (by kernel_rfl) (fun _ _ _ h => h) hS (MR.free rfl) (fun wq hw => by simp [execOp, MR.ev, MR.size, hsz, e1, f1, hw.1, hw.2.1, hw.2.2, go_sem]) ?_
    refine MR.takeH (i := 1) (some 16) (.agg #[.int .i64 (n : Int), .int .i64 (R : Int), .slice a ws.length cap]) rfl rfl (by kernel_rfl) (by kernel_rfl) (by kernel_rfl) (fun _ _ _ h => h) hS (MR.free rfl) (fun wq hw => by simp [execOp, MR.ev, MR.size, hsz, e1, f1, hw.1, hw.2.1, hw.2.2, go_sem]) ?_
    refine MR.callH (i := 2) (some 17) (26) (#[PG.pv n R (.slice a ws.length cap)]) (by kernel_rfl) rfl rfl (MR.free rfl) (by simp [execOp, MR.ev, MR.size, hsz, e1, f1, go_sem]) ?_
    refine (LA.out _ (hB2.drew)).mono ?_
    rintro e w4 ⟨a4, c4, rfl, ho4', hb4'⟩
    have hb4 : Below w2.heap.size w2 w4 := (Below.refl _ w2).drew.trans hb4'
    have i4 : M4.IntsAt w4 a4 (PG.allL (n : Int) (R : Int) ws) := M5.own_ints ho4'
    clear ho4' hb4'
    have hB4 := hB2.trans (hb4.mono hB2.size)
    have hS4 : (fun wq : World => wq.cell? ⟨w.heap.size, 0, none⟩ = some (.int .i64 (n : Int)) ∧ wq.cell? ⟨w.heap.size, 1, none⟩ = some (.int .i64 (R : Int)) ∧ wq.cell? ⟨w.heap.size, 2, none⟩ = some (.slice a ws.length cap)) w4 := ⟨(hb4.cell (p := ⟨w.heap.size, 0, none⟩) hS2).trans c0, (hb4.cell (p := ⟨w.heap.size, 1, none⟩) hS2).trans c1, (hb4.cell (p := ⟨w.heap.size, 2, none⟩) hS2).trans c2⟩
    refine ⟨_, rfl, hS4, ?_⟩
    refine MR.callH (i := 3) (some 18) (30) (#[PG.pv n R (.slice a ws.length cap), .slice a4 n c4]) (by kernel_rfl) rfl rfl (MR.free rfl) (by simp [execOp, MR.ev, MR.size, hsz, e1, f1, go_sem]) ?_
    refine (RE.out a4 c4 w4 hB4 i4).mono ?_
    rintro e w5 ⟨aL, cL, aR, cR, rfl, iL, iR, hb5⟩
    have hs4 := Nat.lt_of_lt_of_le hS2 hb4.size
    have hS5 : (fun wq : World => wq.cell? ⟨w.heap.size, 0, none⟩ = some (.int .i64 (n : Int)) ∧ wq.cell? ⟨w.heap.size, 1, none⟩ = some (.int .i64 (R : Int)) ∧ wq.cell? ⟨w.heap.size, 2, none⟩ = some (.slice a ws.length cap)) w5 := ⟨(hb5.cell (p := ⟨w.heap.size, 0, none⟩) hs4).trans hS4.1, (hb5.cell (p := ⟨w.heap.size, 1, none⟩) hs4).trans hS4.2.1, (hb5.cell (p := ⟨w.heap.size, 2, none⟩) hs4).trans hS4.2.2⟩
    have IL : Hid (M4.IntsAt w5 aL Z.1) := iL
    have IR : Hid (M4.IntsAt w5 aR Z.2) := iR
    clear iL iR
    refine ⟨_, rfl, hS5, ?_⟩
    refine MR.takeH (i := 4) (some 14) (.tuple #[.slice aL Z.1.length cL, .slice aR Z.2.length cR]) rfl rfl (by kernel_rfl) (by kernel_rfl) (by kernel_rfl) (fun _ _ _ h => h) hS5 (MR.free rfl) (fun wq hw => by simp [execOp, MR.ev, MR.size, hsz, e1, f1, go_sem]) ?_
    refine MR.takeH (i := 5) (some 19) (.slice aL Z.1.length cL) rfl rfl (by kernel_rfl) (by kernel_rfl) (by kernel_rfl) (fun _ _ _ h => h) hS5 (MR.free rfl) (fun wq hw => by simp [execOp, MR.ev, MR.size, hsz, e1, f1, go_sem]) ?_
    refine MR.takeH (i := 6) (some 20) (.slice aR Z.2.length cR) rfl rfl (by kernel_rfl) (by kernel_rfl) (by kernel_rfl) (fun _ _ _ h => h) hS5 (MR.free rfl) (fun wq hw => by simp [execOp, MR.ev, MR.size, hsz, e1, f1, go_sem]) ?_
    refine MR.takeH (i := 7) (some 5) (.slice aL Z.1.length cL) rfl rfl (by kernel_rfl) (by kernel_rfl) (by kernel_rfl) (fun _ _ _ h => h) hS5 (MR.free rfl) (fun wq hw => by simp [execOp, MR.ev, MR.size, hsz, e1, f1, go_sem]) ?_
    refine MR.takeH (i := 8) (some 6) (.slice aR Z.2.length cR) rfl rfl (by kernel_rfl) (by kernel_rfl) (by kernel_rfl) (fun _ _ _ h => h) hS5 (MR.free rfl) (fun wq hw => by simp [execOp, MR.ev, MR.size, hsz, e1, f1, go_sem]) ?_
    refine wpAnyH_done (by kernel_rfl) ?_ _
    rw [HA.out]
    obtain ⟨d0, d1, d2⟩ := hS5
    have hB5 := hB4.trans (hb5.mono hB4.size)
    have hS5' := Nat.lt_of_lt_of_le hs4 hb5.size
    clear HA e1 f1 hsz hS hS4 LA RE c0 c1 c2 hb4 hb5 hB4 hs4 i4 hB2 hS2
    simp only [Act.put, List.setIfInBounds_toArray, List.set_cons_succ, List.set_cons_zero]
    have HA : Hid (∀ (x : Int) (W : World), Below w5.heap.size w5 W → Calls Try.prog 31 #[.slice aL Z.1.length cL, .int .i64 x] W fun e w' => e = .returned (.bool (EG.hasB Z.1 x)) ∧ W = w') := fun x W hb => l1Has_any aL cL Z.1 x W (by omega) (M4.IntsAt.below IL.out hb)
    have HR : Hid (∀ (x : Int) (W : World), Below w5.heap.size w5 W → Calls Try.prog 31 #[.slice aR Z.2.length cR, .int .i64 x] W fun e w' => e = .returned (.bool (EG.hasB Z.2 x)) ∧ W = w') := fun x W hb => l1Has_any aR cR Z.2 x W (by omega) (M4.IntsAt.below IR.out hb)
    clear IL IR
    go_wp2
    go_loopw [7, 9] (fun u iv wr => ∃ k : Nat, iv = .int .i64 k ∧ k ≤ n ∧ Hid (wr.ownsRow w5.heap.size 3 1 u (PG.those k (fun i => !EG.hasB Z.1 (i : Int))).length (M4.iv (PG.those k (fun i => !EG.hasB Z.1 (i : Int))))) ∧ Below w5.heap.size w5 wr) (fun _ iv _ => (n - intOf iv).toNat)
    case atStart => exact ⟨0, rfl, by omega, World.ownsRow_nil _ _ _ _, Below.refl _ _⟩
    case round =>
      obtain ⟨k, rfl, hk, hT, hb⟩ := hrel
      have hbs := hb.size
      have x0 := (hb.cell (p := ⟨w.heap.size, 0, none⟩) hS5').trans d0
      by_cases hl : k < n
      · have hfl := PG.those_len k (fun i => !EG.hasB Z.1 (i : Int))
        have FK := HA.out (k : Int) wr hb
        have TY := fun h => PG.those_yes (n := k) (P := (fun i => !EG.hasB Z.1 (i : Int))) h
        have TN := fun h => PG.those_no (n := k) (P := (fun i => !EG.hasB Z.1 (i : Int))) h
        generalize EG.hasB Z.1 (k : Int) = q at *
        have HFK : Hid _ := FK
        have HTY : Hid _ := TY
        have HTN : Hid _ := TN
        clear FK TY TN
        generalize PG.those k (fun i => !EG.hasB Z.1 (i : Int)) = KK at *
        cases q
        · have hE := HTY.out rfl
          have HE : Hid _ := hE
          clear HTY HTN hE
          generalize hkl : KK.length = kl at *
          have HKL : Hid _ := hkl
          clear hkl
          go_wp2_with (first | (go_at_call 31; refine Calls.mono HFK.out ?_; rintro e w7 ⟨rfl, rfl⟩; clear HFK) | (at_builtin; (refine wpList_append_own _ rfl _ _ 27 rfl w5.heap.size 3 i0 (.int .i64 0) 1 8 Try.underlying27 hi hz0 hz1 hz2 rfl (by decide) _ _ _ rfl (World.ownsRow.alloc hT.out _) ⟨wr.heap.size, 0, none⟩ 1 1 [.int .i64 (k : Int)] rfl rfl ?m1 ?m2 ?m3 ?m4 ?m5 ?_)))
          case m1 => exact M2.new1 _ _ _
          case m2 => exact M2.one1 _ _
          case m3 => unfold maxLen; omega
          case m4 => omega
          case m5 => simp; omega
          intro v' w8 hown1 hgrow _
          have hb8 : Below w5.heap.size w5 w8 := (hb.alloc hbs _).grown hgrow (by simp; omega) (fun j hj => (World.ownsRow.lt hT.out j hj).1)
          have HT8 : Hid (w8.ownsRow w5.heap.size 3 1 v' (PG.those (k + 1) (fun i => !EG.hasB Z.1 (i : Int))).length (M4.iv (PG.those (k + 1) (fun i => !EG.hasB Z.1 (i : Int))))) := by
            rw [HE.out]; exact PG.own_snoc (by rw [HKL.out]; exact hown1) rfl
          clear hown1 hgrow hT HE HKL hb
          go_wp2
          go_roundw
          case rel => exact ⟨_, .int .i64 ((k : Int) + 1), _, _, _, _, _, _, _, _, _, _, _, _, _, _, ⟨k + 1, by go_num, by omega, HT8, hb8⟩, rfl⟩
          case measure => simp [intOf]; omega
        · have hE := HTN.out rfl
          have HT8 : Hid (wr.ownsRow w5.heap.size 3 1 u7 (PG.those (k + 1) (fun i => !EG.hasB Z.1 (i : Int))).length (M4.iv (PG.those (k + 1) (fun i => !EG.hasB Z.1 (i : Int))))) := by rw [hE]; exact hT.out
          clear HTY HTN hT hE
          go_wp2_with (go_at_call 31; refine Calls.mono HFK.out ?_; rintro e w7 ⟨rfl, rfl⟩; clear HFK)
          go_roundw
          case rel => exact ⟨_, .int .i64 ((k : Int) + 1), _, _, _, _, _, _, _, _, _, _, _, _, _, _, ⟨k + 1, by go_num, by omega, HT8, hb⟩, rfl⟩
          case measure => simp [intOf]; omega
      · obtain rfl : n = k := by omega
        have HT6 : Hid (wr.ownsRow w5.heap.size 3 1 u7 L.length (M4.iv L)) := by rw [← HL.out]; exact hT.out
        obtain ⟨aa1, cc1, rfl, -⟩ := M5.own_view HT6.out
        have x1 := (hb.cell (p := ⟨w.heap.size, 1, none⟩) hS5').trans d1
        have hS6 := Nat.lt_of_lt_of_le hS5' hb.size
        have hB6 := hB5.trans (hb.mono hB5.size)
        have hb6 := hb
        clear hT hb HL hbs
        rename World => w6
        go_wp2
        clear x0
        go_loopw [8, 10] (fun u iv wr => ∃ k : Nat, iv = .int .i64 k ∧ k ≤ R ∧ Hid (wr.ownsRow w6.heap.size 3 1 u (PG.those k (fun i => EG.hasB Z.2 (i : Int))).length (M4.iv (PG.those k (fun i => EG.hasB Z.2 (i : Int))))) ∧ Below w6.heap.size w6 wr) (fun _ iv _ => (R - intOf iv).toNat)
        case atStart => exact ⟨0, rfl, by omega, World.ownsRow_nil _ _ _ _, Below.refl _ _⟩
        case round =>
          obtain ⟨k, rfl, hk, hT, hb⟩ := hrel
          have hbs := hb.size
          have y1 := (hb.cell (p := ⟨w.heap.size, 1, none⟩) hS6).trans x1
          by_cases hl : k < R
          · have hfl := PG.those_len k (fun i => EG.hasB Z.2 (i : Int))
            have FK := HR.out (k : Int) wr (hb6.trans (hb.mono hb6.size))
            have TY := fun h => PG.those_yes (n := k) (P := (fun i => EG.hasB Z.2 (i : Int))) h
            have TN := fun h => PG.those_no (n := k) (P := (fun i => EG.hasB Z.2 (i : Int))) h
            generalize EG.hasB Z.2 (k : Int) = q at *
            have HFK : Hid _ := FK
            have HTY : Hid _ := TY
            have HTN : Hid _ := TN
            clear FK TY TN
            generalize PG.those k (fun i => EG.hasB Z.2 (i : Int)) = KK at *
            cases q
            · have hE := HTN.out rfl
              have HT8 : Hid (wr.ownsRow w6.heap.size 3 1 u8 (PG.those (k + 1) (fun i => EG.hasB Z.2 (i : Int))).length (M4.iv (PG.those (k + 1) (fun i => EG.hasB Z.2 (i : Int))))) := by rw [hE]; exact hT.out
              clear HTY HTN hT hE
              go_wp2_with (go_at_call 31; refine Calls.mono HFK.out ?_; rintro e w7 ⟨rfl, rfl⟩; clear HFK)
              go_roundw
              case rel => exact ⟨_, .int .i64 ((k : Int) + 1), _, _, _, _, _, _, _, _, _, _, _, _, _, ⟨k + 1, by go_num, by omega, HT8, hb⟩, rfl⟩
              case measure => simp [intOf]; omega
            · have hE := HTY.out rfl
              have HE : Hid _ := hE
              clear HTY HTN hE
              generalize hkl : KK.length = kl at *
              have HKL : Hid _ := hkl
              clear hkl
              go_wp2_with (first | (go_at_call 31; refine Calls.mono HFK.out ?_; rintro e w7 ⟨rfl, rfl⟩; clear HFK) | (at_builtin; (refine wpList_append_own _ rfl _ _ 27 rfl w6.heap.size 3 i0 (.int .i64 0) 1 8 Try.underlying27 hi hz0 hz1 hz2 rfl (by decide) _ _ _ rfl (World.ownsRow.alloc hT.out _) ⟨wr.heap.size, 0, none⟩ 1 1 [.int .i64 (k : Int)] rfl rfl ?n1 ?n2 ?n3 ?n4 ?n5 ?_)))
              case n1 => exact M2.new1 _ _ _
              case n2 => exact M2.one1 _ _
              case n3 => unfold maxLen; omega
              case n4 => omega
              case n5 => simp; omega
              intro v' w8 hown1 hgrow _
              have hb8 : Below w6.heap.size w6 w8 := (hb.alloc hbs _).grown hgrow (by simp; omega) (fun j hj => (World.ownsRow.lt hT.out j hj).1)
              have HT8 : Hid (w8.ownsRow w6.heap.size 3 1 v' (PG.those (k + 1) (fun i => EG.hasB Z.2 (i : Int))).length (M4.iv (PG.those (k + 1) (fun i => EG.hasB Z.2 (i : Int))))) := by
                rw [HE.out]; exact PG.own_snoc (by rw [HKL.out]; exact hown1) rfl
              clear hown1 hgrow hT HE HKL hb
              go_wp2
              go_roundw
              case rel => exact ⟨_, .int .i64 ((k : Int) + 1), _, _, _, _, _, _, _, _, _, _, _, _, _, ⟨k + 1, by go_num, by omega, HT8, hb8⟩, rfl⟩
              case measure => simp [intOf]; omega
          · obtain rfl : R = k := by omega
            have HT7 : Hid (wr.ownsRow w6.heap.size 3 1 u8 K.length (M4.iv K)) := by rw [← HK.out]; exact hT.out
            obtain ⟨aa2, cc2, rfl, -⟩ := M5.own_view HT7.out
            clear hT
            have hB7 := hB6.trans (hb.mono hB6.size)
            clear HA HR HK
            go_wp2
            refine bodyPost_ret (v := .tuple #[.slice aa1 L.length cc1, .slice aa2 K.length cc2, .bool true]) (by simp [results, Try.results9, go_sem]) rfl ⟨aa1, cc1, aa2, cc2, w6.heap.size, rfl, hB6.size, hbs, PG.own_mono (M5.own_below HT6.out hb) hB5.size, fun k hk => (World.ownsRow.lt HT6.out k hk).2, HT7.out, hB7⟩
end Go.Proofs.Ytjfnmhkhjaafkaa
