import Derived.Test.YtepgmmigacafeaaRows
import Derived.Test.YtepgmmigacafeaaMCB
import Derived.WalkKit
import Derived.WalkSpells
import Derived.WalkLawsBesides
import Derived.Outline
import Derived.Test.YtepgmmigacafeaaCCutBS
import Derived.Test.YtepgmmigacafeaaMRO
import Derived.Test.YtepgmmigacafeaaCPiece
import Derived.Test.YtepgmmigacafeaaCParcelBundle
/- The program's part of a parcel. -/
namespace Go.Proofs.Ytepgmmigacafeaa
open Go.RowKit
theorem Try.infoParcelP : (Try.prog.info? 62).map (fun i => (i.zero, i.size)) = some (some (.agg (Bd.cs B1.zero).toArray), 10) := by kernel_rfl
theorem Try.sizeParcelP : (Try.prog.info? 62).map (·.size) = some 10 := by kernel_rfl
set_option linter.unusedSimpArgs false in
set_option maxHeartbeats 800000 in
set_option maxRecDepth 100000 in
theorem partP_any (b : Bd) (x y : Nat) (w : World) (hxy : x ≤ y) (hy : y ≤ b.py.size) (hs : b.py.size ≤ 1048576) (ho : 0 ≤ b.of ∧ b.of ≤ 60) :
    Calls Try.prog 34 #[.agg b.cs.toArray, .int .i64 (x : Int), .int .i64 (y : Int)] w fun e w' => e = .returned (.agg (CB.prt b x y).cs.toArray) ∧ Below w.heap.size w w' := by
  have r0 := (MA.Rg.new w b.cs 62).alloc (.cells (Bd.cs B1.zero).toArray 62)
  have r1 := MA.Rg.new' (w.alloc (.cells b.cs.toArray 62)) (Bd.cs B1.zero) 62 (w.heap.size + 1) (by simp)
  have hb : Below w.heap.size w ((w.alloc (.cells b.cs.toArray 62)).alloc (.cells (Bd.cs B1.zero).toArray 62)) := ((Below.refl _ w).alloc (Nat.le_refl _) _).alloc (by simp) _
  have HR : Hid _ := And.intro r0 (And.intro r1 hb)
  clear r0 r1 hb
  have HP0 : Hid (∀ W : World, MA.Rg W w.heap.size 0 b.cs ∧ MA.Rg W (w.heap.size + 1) 0 (Bd.cs B1.zero) ∧ Below w.heap.size w W → MA.Rg ((W.setCell ⟨w.heap.size, 7, none⟩ (.int .i64 (b.of + (x : Int)))).setCell ⟨w.heap.size, 9, none⟩ (.string (b.py.extract x y))) w.heap.size 0 (CB.prt b x y).cs ∧ MA.Rg ((W.setCell ⟨w.heap.size, 7, none⟩ (.int .i64 (b.of + (x : Int)))).setCell ⟨w.heap.size, 9, none⟩ (.string (b.py.extract x y))) (w.heap.size + 1) 0 (Bd.cs B1.zero) ∧ Below w.heap.size w ((W.setCell ⟨w.heap.size, 7, none⟩ (.int .i64 (b.of + (x : Int)))).setCell ⟨w.heap.size, 9, none⟩ (.string (b.py.extract x y)))) := fun W h => by
    obtain ⟨g0, g1, g2⟩ := h
    have q := CB.put1 (CB.put1 g0 (j := 7) (by simp [Bd.cs]) (.int .i64 (b.of + (x : Int)))) (j := 9) (by simp [Bd.cs]) (.string (b.py.extract x y))
    rw [CB.prt_cs] at q
    exact ⟨q, CB.off1 (CB.off1 g1 (by omega) _) (by omega) _, (g2.setCell (p := ⟨w.heap.size, 7, none⟩) (by simp) _).setCell (p := ⟨w.heap.size, 9, none⟩) (by simp) _⟩
  go_enter Try.func34, Try.ntmps34
  go_wp2_with (first
    | (refine MA.alloc_z rfl 62 rfl _ _ Try.infoParcelP ?_; simp only [MA.sz_alloc]; generalize World.alloc _ _ = W at *; have c7 := CB.c_of HR.out.1 (j := 7) rfl; have f7 := CB.f_of HR.out.1 (j := 7) (by simp [Bd.cs]); have c9 := CB.c_of HR.out.1 (j := 9) rfl; have f9 := CB.f_of HR.out.1 (j := 9) (by simp [Bd.cs]); have HP : Hid _ := HP0.out W HR.out)
    | (refine MA.load_r rfl 62 _ rfl rfl (cs := (CB.prt b x y).cs) ?_ Try.underlying62 rfl Try.sizeParcelP rfl ?_; exact HP.out.1.rng)
    | (refine MA.store_m rfl 62 _ _ rfl rfl rfl (vs := (CB.prt b x y).cs) (cs := Bd.cs B1.zero) ?_ Try.sizeParcelP rfl rfl (MA.cs_one _) ?_; exact HP.out.2.1))
  exact bodyPost_ret (MA.ret_cell rfl rfl (MA.load_rg (HP.out.2.1.put (vs := (CB.prt b x y).cs) rfl) Try.underlying62 rfl Try.sizeParcelP rfl)) rfl ⟨rfl, MA.below_cells (by omega) _ _ _ HP.out.2.2⟩
end Go.Proofs.Ytepgmmigacafeaa

/- The program's CutBundle, at any bundle and any number. -/
namespace Go.Proofs.Ytepgmmigacafeaa
open Go.RowKit
set_option linter.unusedSimpArgs false in
set_option maxHeartbeats 1600000 in
set_option maxRecDepth 100000 in
theorem implCutB_any (b : Bd) (x : Int) (w : World) (hs : b.py.size ≤ 1048576) :
    Calls Try.prog 6 #[.agg b.cs.toArray, .int .i64 x] w fun e w' => ∃ a cap, e = .returned (.tuple #[.slice a (CB.res b x).length cap, .bool (CB.ok b x)]) ∧ w'.ownsRow w.heap.size 24 10 (.slice a (CB.res b x).length cap) (CB.res b x).length (MP.flat (CB.res b x)) ∧ Below w.heap.size w w' := by
  have PO : Hid (∀ W : World, Calls Try.prog 30 #[.agg b.cs.toArray] W fun e w' => e = .returned (.agg b.cs.toArray) ∧ Below W.heap.size W w') := fun W => parcelOf_any b W
  have IG : Hid (∀ W : World, Calls Try.prog 31 #[.agg b.cs.toArray] W fun e w' => e = .returned (.bool (B1.good b)) ∧ Below W.heap.size W w') := fun W => isGood_any b W hs _ rfl
  have IP : Hid (∀ W : World, Calls Try.prog 32 #[.agg b.cs.toArray] W fun e w' => e = .returned (.bool (decide (b.tl ≠ 0))) ∧ Below W.heap.size W w') := fun W => isPiece_any b W
  have r0 := MA.Rg.new w b.cs 24
  have hb : Below w.heap.size w (w.alloc (.cells b.cs.toArray 24)) := (Below.refl _ w).alloc (Nat.le_refl _) _
  have HR0 : Hid _ := And.intro r0.rng hb
  clear r0 hb hs
  go_enter Try.func6, Try.ntmps6
  go_wp2_with (refine MA.load_r rfl 24 _ rfl rfl (cs := b.cs) ?_ Try.underlying24 rfl Try.sizeBundle rfl ?_; exact HR0.out.1)
  refine (PO.out _).mono ?_
  rintro e w1 ⟨rfl, hb1⟩
  have hB1 := HR0.out.2.trans (hb1.mono HR0.out.2.size)
  have hNB := CB.new_bd w1 b 62
  have HX : Hid _ := And.intro hNB.2 (hB1.trans (hNB.1.mono hB1.size))
  have HRN : Hid _ := MA.Rg.new w1 (Bd.cs B1.zero) 62
  have hq : Hid (w.heap.size ≤ w1.heap.size) := hB1.size
  clear PO HR0 hb1 hB1 hNB
  go_wp2_with (first
    | (refine MA.alloc_z rfl 62 rfl _ _ Try.infoParcelP ?_; simp only [MA.sz_alloc])
    | (refine MA.store_m rfl 62 _ _ rfl rfl rfl (vs := b.cs) (cs := Bd.cs B1.zero) ?_ Try.sizeParcelP rfl rfl (MA.cs_one _) ?_; exact HRN.out; clear HRN; generalize World.setCells _ _ _ _ = Wx at *; have HRR : Hid _ := HX.out.1.rng)
    | (refine MA.load_r rfl 62 _ rfl rfl (cs := b.cs) ?_ Try.underlying62 rfl Try.sizeParcelP rfl ?_; exact HRR.out))
  refine (IG.out _).mono ?_
  rintro e w2 ⟨rfl, hb2⟩
  replace HX : Hid _ := And.intro (HX.out.1.below hb2 HX.out.1.lt) (HX.out.2.trans (hb2.mono HX.out.2.size))
  clear IG HRR hb2
  generalize w1.heap.size = q at *
  have NO : Hid (CB.ok b x = false → ∀ W : World, Below w.heap.size w W → ∃ a cap, Ending.returned (.tuple #[.slice none 0 0, .bool false]) = .returned (.tuple #[.slice a (CB.res b x).length cap, .bool (CB.ok b x)]) ∧ W.ownsRow w.heap.size 24 10 (.slice a (CB.res b x).length cap) (CB.res b x).length (MP.flat (CB.res b x)) ∧ Below w.heap.size w W) := fun h W hb => ⟨none, 0, by rw [CB.res_no h, h]; rfl, by rw [CB.res_no h]; exact World.ownsRow_nil _ _ _ _, hb⟩
  cases hg : B1.good b with
  | false =>
    have HN : Hid (CB.ok b x = false) := by simp [Hid, CB.ok, hg]
    clear hg IP
    go_wp2
    go_ret2
    exact NO.out HN.out _ HX.out.2
  | true =>
    have HG : Hid (B1.good b = true) := hg
    have HRR : Hid _ := HX.out.1.rng
    clear hg
    go_wp2_with (refine MR.load_g rfl 62 _ rfl rfl (cs := b.cs) ?_ Try.underlying62 rfl Try.sizeParcelP rfl ?_; exact HRR.out)
    refine (IP.out _).mono ?_
    rintro e w3 ⟨rfl, hb3⟩
    replace HX : Hid _ := And.intro (HX.out.1.below hb3 HX.out.1.lt) (HX.out.2.trans (hb3.mono HX.out.2.size))
    have c9 := CB.c_of HX.out.1 (j := 9) rfl
    clear IP HRR hb3
    by_cases h0 : b.tl = 0
    · have HT0 : Hid (b.tl = 0) := h0
      have h0' : decide (b.tl ≠ 0) = false := by simp [h0]
      rw [h0']
      clear h0 h0'
      by_cases h1 : b.py.size = 0
      · have HN : Hid (CB.ok b x = false) := by simp [Hid, CB.ok, h1]
        have hE : b.py.toList.isEmpty = true := CB.empty_of h1
        clear HG HT0
        go_wp2
        go_ret2
        exact NO.out HN.out _ HX.out.2
      · have hE : b.py.toList.isEmpty = false := CB.full_of h1
        by_cases h2 : 1 ≤ x
        · by_cases h3 : x ≤ 60
          · obtain ⟨m, rfl⟩ := Int.eq_ofNat_of_zero_le (show 0 ≤ x by omega)
            have HM : Hid (1 ≤ m ∧ m ≤ 60) := ⟨by omega, by omega⟩
            have HOK : Hid (CB.ok b (m : Int) = true) := by show _ = _; unfold CB.ok; rw [HG.out, HT0.out, decide_eq_true (show 0 < b.py.size by omega)]; simp [inB]; omega
            have HPY : Hid (b.of = 0 ∧ b.py.size ≤ 60) := CB.good_of HG.out HT0.out
            obtain ⟨i0, hi, hz0, hz1, hz2⟩ := info_parts Try.infoBundle3
            have c8 := CB.c_of HX.out.1 (j := 8) rfl
            have f8 := CB.f_of HX.out.1 (j := 8) (by simp [Bd.cs])
            have r4 := CB.put1 HX.out.1 (j := 8) (by simp [Bd.cs]) (.int .i64 (b.py.size : Int))
            rw [CB.tot_cs] at r4
            have b4 : Below w.heap.size w (w3.setCell ⟨q, 8, none⟩ (.int .i64 (b.py.size : Int))) := HX.out.2.setCell (p := ⟨q, 8, none⟩) hq.out _
            have z4 : (w3.setCell ⟨q, 8, none⟩ (.int .i64 (b.py.size : Int))).heap.size = w3.heap.size := by simp
            have o4 : ((w3.setCell ⟨q, 8, none⟩ (.int .i64 (b.py.size : Int))).alloc (.cells #[] 24)).ownsRow w3.heap.size 24 10 (.slice (some ⟨w3.heap.size, 0, none⟩) 0 0) (CB.ls b m 0).length (MP.flat (CB.ls b m 0)) := by
              have := World.ownsRow_lit (base := w3.heap.size) (e := 24) (size := 10) (w3.setCell ⟨q, 8, none⟩ (.int .i64 (b.py.size : Int))) #[] 0 (by simp) (by unfold maxLen; omega) (by simp)
              rw [z4] at this
              simpa [CB.ls, MP.flat] using this
            have HQ : Hid (q < w3.heap.size) := HX.out.1.lt
            have H4 : Hid (MA.Rg ((w3.setCell ⟨q, 8, none⟩ (.int .i64 (b.py.size : Int))).alloc (.cells #[] 24)) q 0 (CB.tot b).cs ∧ Below w.heap.size w ((w3.setCell ⟨q, 8, none⟩ (.int .i64 (b.py.size : Int))).alloc (.cells #[] 24)) ∧ ((w3.setCell ⟨q, 8, none⟩ (.int .i64 (b.py.size : Int))).alloc (.cells #[] 24)).ownsRow w3.heap.size 24 10 (.slice (some ⟨w3.heap.size, 0, none⟩) 0 0) (CB.ls b m 0).length (MP.flat (CB.ls b m 0)) ∧ w3.heap.size ≤ ((w3.setCell ⟨q, 8, none⟩ (.int .i64 (b.py.size : Int))).alloc (.cells #[] 24)).heap.size) := ⟨r4.alloc _, b4.alloc (by rw [z4]; exact Nat.le_trans hq.out (Nat.le_of_lt HQ.out)) _, o4, by simp⟩
            have HB3 : Hid (w.heap.size ≤ w3.heap.size) := HX.out.2.size
            clear r4 b4 z4 o4 HX HG HT0 NO
            go_wp2
            generalize World.alloc _ _ = W5 at H4 ⊢
            clear c8 f8 c9
            generalize w3.heap.size = B at *
            clear hE
            go_loopw [7, 8] (fun v av wr => ∃ k p : Nat, av = .int .i64 (p : Int) ∧ Hid (p = k * m ∧ k ≤ CB.num b m) ∧ wr.ownsRow B 24 10 v (CB.ls b m k).length (MP.flat (CB.ls b m k)) ∧ Below B W5 wr) (fun _ av _ => (60 - intOf av).toNat)
            case atStart => exact ⟨0, 0, rfl, ⟨by simp, Nat.zero_le _⟩, H4.out.2.2.1, Below.refl _ _⟩
            case round =>
              obtain ⟨k, p, rfl, HK, hown, hb⟩ := hrel
              have hpy := HPY.out.2
              have hR := H4.out.1.below hb HQ.out
              have c8 : wr.cell? ⟨q, 8, none⟩ = some (.int .i64 (b.py.size : Int)) := CB.c_of hR (j := 8) rfl
              by_cases hl : p < b.py.size
              · have hl' : (p : Int) < (b.py.size : Int) := by omega
                have HKN : Hid (k < CB.num b m) := CB.num_lt HM.out.1 (by rw [← HK.out.1]; exact hl)
                have hbs : B ≤ wr.heap.size := Nat.le_trans H4.out.2.2.2 hb.size
                have HRR : Hid _ := hR.rng
                have hm60 := HM.out
                have BU : Hid (∀ W : World, Calls Try.prog 35 #[.agg (CB.pc b m k).cs.toArray] W fun r w' => r = .returned (.agg (CB.pc b m k).cs.toArray) ∧ Below W.heap.size W w') := fun W => parcelBundle_any (CB.pc b m k) W (by simp [CB.pc]; omega)
                have HOW : Hid (wr.ownsRow B 24 10 u7 (CB.ls b m k).length (MP.flat (CB.ls b m k))) := hown
                clear hown hR
                by_cases hE2 : p + m ≤ b.py.size
                · have hE3 : (p : Int) + (m : Int) ≤ (b.py.size : Int) := by omega
                  have PA : Hid (∀ W : World, Calls Try.prog 34 #[.agg (CB.tot b).cs.toArray, .int .i64 (p : Int), .int .i64 ((p : Int) + (m : Int))] W fun r w' => r = .returned (.agg (CB.pc b m k).cs.toArray) ∧ Below W.heap.size W w') := fun W => by
                    have := partP_any (CB.tot b) p (p + m) W (by omega) (show _ ≤ b.py.size by omega) (show b.py.size ≤ _ by omega) ⟨by show 0 ≤ b.of; rw [HPY.out.1]; omega, by show b.of ≤ 60; rw [HPY.out.1]; omega⟩
                    rwa [CB.prt_pc HK.out.1 (by omega) HPY.out.1] at this
                  go_wp2_with (refine MA.load_r rfl 62 _ rfl rfl (cs := (CB.tot b).cs) ?_ Try.underlying62 rfl Try.sizeParcelP rfl ?_; exact HRR.out; clear HRR)
                  refine (PA.out _).mono ?_
                  rintro r w6 ⟨rfl, hb6⟩
                  clear PA
                  go_wp2_with fail
                  refine (BU.out _).mono ?_
                  rintro r W3 ⟨rfl, hb7⟩
                  have HW3 : Hid (Below wr.heap.size wr W3) := hb6.trans (hb7.mono hb6.size)
                  have HO3 : Hid (W3.ownsRow B 24 10 u7 (CB.ls b m k).length (MP.flat (CB.ls b m k))) := MP.own_below HOW.out HW3.out
                  clear BU HOW hb6 hb7 c8
                  go_wp2_with (first
                    | (refine CB.bslice_m rfl 27 _ rfl rfl 24 (Try.bslice (CB.pc b m k)) ?_)
                    | (at_builtin; refine wpList_append_own _ rfl _ _ 27 rfl B 24 i0 _ 10 88 Try.underlying27 hi hz0 hz1 hz2 rfl (by decide) _ _ _ rfl (HO3.out.alloc _) ⟨W3.heap.size, 0, none⟩ 1 1 (CB.pc b m k).cs rfl rfl (CB.newN _ _ _) (MA.cs_one _) ?c3 ?c4 ?c5 ?_))
                  case c3 => rw [CB.ls_len]; unfold maxLen; have := HKN.out; have := CB.num_le (b := b) HM.out.1; omega
                  case c4 => rw [CB.ls_len]; have := HKN.out; have := CB.num_le (b := b) HM.out.1; omega
                  case c5 => have := HW3.out.size; simp; omega
                  intro v' w5 hown5 hgrow _
                  have R := CB.grow HO3.out (hb.trans (HW3.out.mono hbs)) (by have := HW3.out.size; omega) (by exact hown5) hgrow
                  have R1 := R.1
                  have R2 := R.2
                  rw [← CB.ls_succ] at R1
                  clear hown5 hgrow R HO3 HW3 hb
                  go_wp2
                  go_roundw
                  case rel => exact ⟨v', .int .i64 ((p : Int) + (m : Int)), _, _, _, _, _, _, _, _, _, _, _, _, _, _, _, _, _, _, _, _, ⟨k + 1, p + m, by go_num, ⟨by rw [HK.out.1, Nat.succ_mul], HKN.out⟩, R1, R2⟩, rfl⟩
                  case measure => simp [intOf]; omega
                · have hE3 : (b.py.size : Int) < (p : Int) + (m : Int) := by omega
                  have PA : Hid (∀ W : World, Calls Try.prog 34 #[.agg (CB.tot b).cs.toArray, .int .i64 (p : Int), .int .i64 (b.py.size : Int)] W fun r w' => r = .returned (.agg (CB.pc b m k).cs.toArray) ∧ Below W.heap.size W w') := fun W => by
                    have := partP_any (CB.tot b) p (b.py.size) W (by omega) (show _ ≤ b.py.size by omega) (show b.py.size ≤ _ by omega) ⟨by show 0 ≤ b.of; rw [HPY.out.1]; omega, by show b.of ≤ 60; rw [HPY.out.1]; omega⟩
                    rwa [CB.prt_pc HK.out.1 (by omega) HPY.out.1] at this
                  go_wp2_with (refine MA.load_r rfl 62 _ rfl rfl (cs := (CB.tot b).cs) ?_ Try.underlying62 rfl Try.sizeParcelP rfl ?_; exact HRR.out; clear HRR)
                  refine (PA.out _).mono ?_
                  rintro r w6 ⟨rfl, hb6⟩
                  clear PA
                  go_wp2_with fail
                  refine (BU.out _).mono ?_
                  rintro r W3 ⟨rfl, hb7⟩
                  have HW3 : Hid (Below wr.heap.size wr W3) := hb6.trans (hb7.mono hb6.size)
                  have HO3 : Hid (W3.ownsRow B 24 10 u7 (CB.ls b m k).length (MP.flat (CB.ls b m k))) := MP.own_below HOW.out HW3.out
                  clear BU HOW hb6 hb7 c8
                  go_wp2_with (first
                    | (refine CB.bslice_m rfl 27 _ rfl rfl 24 (Try.bslice (CB.pc b m k)) ?_)
                    | (at_builtin; refine wpList_append_own _ rfl _ _ 27 rfl B 24 i0 _ 10 88 Try.underlying27 hi hz0 hz1 hz2 rfl (by decide) _ _ _ rfl (HO3.out.alloc _) ⟨W3.heap.size, 0, none⟩ 1 1 (CB.pc b m k).cs rfl rfl (CB.newN _ _ _) (MA.cs_one _) ?c3 ?c4 ?c5 ?_))
                  case c3 => rw [CB.ls_len]; unfold maxLen; have := HKN.out; have := CB.num_le (b := b) HM.out.1; omega
                  case c4 => rw [CB.ls_len]; have := HKN.out; have := CB.num_le (b := b) HM.out.1; omega
                  case c5 => have := HW3.out.size; simp; omega
                  intro v' w5 hown5 hgrow _
                  have R := CB.grow HO3.out (hb.trans (HW3.out.mono hbs)) (by have := HW3.out.size; omega) (by exact hown5) hgrow
                  have R1 := R.1
                  have R2 := R.2
                  rw [← CB.ls_succ] at R1
                  clear hown5 hgrow R HO3 HW3 hb
                  go_wp2
                  go_roundw
                  case rel => exact ⟨v', .int .i64 ((p : Int) + (m : Int)), _, _, _, _, _, _, _, _, _, _, _, _, _, _, _, _, _, _, _, _, ⟨k + 1, p + m, by go_num, ⟨by rw [HK.out.1, Nat.succ_mul], HKN.out⟩, R1, R2⟩, rfl⟩
                  case measure => simp [intOf]; omega
              · have HKN : Hid (k = CB.num b m) := Nat.le_antisymm HK.out.2 (CB.num_ge HM.out.1 (by rw [← HK.out.1]; exact hl))
                have hl' : ¬ (p : Int) < (b.py.size : Int) := by omega
                obtain ⟨a, cap, hv, _⟩ := CB.view hown
                rw [hv] at hown ⊢
                have HO : Hid _ := hown
                clear hown hv
                go_wp2
                go_ret2
                refine ⟨a, cap, ?_, ?_, ?_⟩
                · rw [CB.res_yes HOK.out, HOK.out, ← HKN.out]; rfl
                · rw [CB.res_yes HOK.out, ← HKN.out]; exact CB.own_mono HO.out HB3.out
                · exact H4.out.2.1.trans (hb.mono HB3.out)
          · have HN : Hid (CB.ok b x = false) := by show _ = _; unfold CB.ok; simp [inB]; omega
            have h3' : 60 < x := by omega
            have h3'' : decide (x ≤ 60) = false := decide_eq_false h3
            clear HG HT0
            go_wp2
            go_ret2
            exact NO.out HN.out _ HX.out.2
        · have HN : Hid (CB.ok b x = false) := by show _ = _; unfold CB.ok; simp [inB]; omega
          have h2' : x < 1 := by omega
          have h2'' : decide (1 ≤ x) = false := decide_eq_false h2
          clear HG HT0
          go_wp2
          go_ret2
          exact NO.out HN.out _ HX.out.2
    · have HN : Hid (CB.ok b x = false) := by simp [Hid, CB.ok, h0]
      have h0' : decide (b.tl ≠ 0) = true := by simp [h0]
      rw [h0']
      clear h0 h0' HG
      go_wp2
      go_ret2
      exact NO.out HN.out _ HX.out.2
end Go.Proofs.Ytepgmmigacafeaa
