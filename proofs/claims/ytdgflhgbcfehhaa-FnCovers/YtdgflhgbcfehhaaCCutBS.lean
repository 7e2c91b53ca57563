/- The specification's CutBundle, at any bundle and any number. -/
import Derived.Test.YtdgflhgbcfehhaaRows
import Derived.Test.YtdgflhgbcfehhaaCGoodBundle
import Derived.Test.YtdgflhgbcfehhaaCBundleInfo
import Derived.Test.YtdgflhgbcfehhaaCL1In
import Derived.Test.YtdgflhgbcfehhaaMCB
import Derived.WalkKit
import Derived.WalkSpells
import Derived.WalkLawsBesides
import Derived.Outline
namespace Go.Proofs.Ytdgflhgbcfehhaa
open Go.RowKit
theorem Try.infoBundle3 : (Try.prog.info? 24).map (fun i => (i.zero, i.size, i.bytes)) = some (some (.agg (Bd.cs B1.zero).toArray), 10, 88) := by kernel_rfl
theorem Try.bslice (x : Bd) (W : World) : (Instr.buildSlice 27 1 #[(0, .agg x.cs.toArray)]).run Try.prog W = .ok (.slice (some ⟨W.heap.size, 0, none⟩) 1 1) (W.alloc (.cells x.cs.toArray 24)) := by
  obtain ⟨fr, to, gr, md, no, lf, hp, of, tl, py⟩ := x
  simp only [Bd.cs]
  go_simp
set_option linter.unusedSimpArgs false in
set_option maxHeartbeats 1600000 in
set_option maxRecDepth 100000 in
theorem specCutB_any (b : Bd) (x : Int) (w : World) (hs : b.py.size ≤ 1048576) :
    Calls Try.prog 7 #[.agg b.cs.toArray, .int .i64 x] w fun e w' => ∃ a cap, e = .returned (.tuple #[.slice a (CB.res b x).length cap, .bool (CB.ok b x)]) ∧ w'.ownsRow w.heap.size 24 10 (.slice a (CB.res b x).length cap) (CB.res b x).length (MP.flat (CB.res b x)) ∧ Below w.heap.size w w' := by
  have SG : Hid (∀ W : World, Calls Try.prog 36 #[.agg b.cs.toArray] W fun e w' => e = .returned (.bool (B1.good b)) ∧ Below W.heap.size W w') := fun W => specGoodBundle_any b W hs _ rfl
  have L1 : Hid (∀ W : World, Calls Try.prog 37 #[.int .i64 x, .int .i64 1, .int .i64 60] W fun e w' => e = .returned (.bool (inB x 1 60)) ∧ W = w') := fun W => l1In_any x 1 60 W
  have r0 := MA.Rg.new w b.cs 24
  have hb : Below w.heap.size w (w.alloc (.cells b.cs.toArray 24)) := (Below.refl _ w).alloc (Nat.le_refl _) _
  have HR : Hid _ := And.intro r0 hb
  have HR0 : Hid _ := r0.rng
  clear r0 hb hs
  go_enter Try.func7, Try.ntmps7
  go_wp2_with (refine MA.load_r rfl 24 _ rfl rfl (cs := b.cs) ?_ Try.underlying24 rfl Try.sizeBundle rfl ?_; exact HR0.out)
  refine (SG.out _).mono ?_
  rintro e w1 ⟨rfl, hb1⟩
  replace HR : Hid _ := And.intro (HR.out.1.below hb1 HR.out.1.lt) (HR.out.2.trans (hb1.mono HR.out.2.size))
  have c8 : w1.cell? ⟨w.heap.size, 8, none⟩ = some (.int .i64 b.tl) := by have := HR.out.1.cell (j := 8) (v := .int .i64 b.tl) rfl; rwa [Nat.zero_add] at this
  have c9 : w1.cell? ⟨w.heap.size, 9, none⟩ = some (.string b.py) := by have := HR.out.1.cell (j := 9) (v := .string b.py) rfl; rwa [Nat.zero_add] at this
  clear SG HR0 hb1
  have NO : Hid (CB.ok b x = false → ∃ a cap, Ending.returned (.tuple #[.slice none 0 0, .bool false]) = .returned (.tuple #[.slice a (CB.res b x).length cap, .bool (CB.ok b x)]) ∧ w1.ownsRow w.heap.size 24 10 (.slice a (CB.res b x).length cap) (CB.res b x).length (MP.flat (CB.res b x)) ∧ Below w.heap.size w w1) := fun h => ⟨none, 0, by rw [CB.res_no h, h]; rfl, by rw [CB.res_no h]; exact World.ownsRow_nil _ _ _ _, HR.out.2⟩
  cases hg : B1.good b with
  | false =>
    have HN : Hid (CB.ok b x = false) := by simp [Hid, CB.ok, hg]
    clear hg L1
    go_wp2
    go_ret2
    exact NO.out HN.out
  | true =>
    have HG : Hid (B1.good b = true) := hg
    have hge := (B1.good_is hg)
    have htl : 0 ≤ b.tl ∧ b.tl ≤ 60 := by omega
    clear hg hge
    by_cases h0 : 0 < b.tl
    · have HN : Hid (CB.ok b x = false) := by show _ = _; unfold CB.ok; rw [decide_eq_false (p := b.tl = 0) (by omega)]; simp
      clear L1
      go_wp2
      go_ret2
      exact NO.out HN.out
    · have HT0 : Hid (b.tl = 0) := show _ = _ by omega
      by_cases h1 : b.py.size = 0
      · have HN : Hid (CB.ok b x = false) := by simp [Hid, CB.ok, h1]
        have hE : b.py.toList.isEmpty = true := CB.empty_of h1
        clear L1 HG HT0
        go_wp2
        go_ret2
        exact NO.out HN.out
      · have hE : b.py.toList.isEmpty = false := CB.full_of h1
        by_cases h2 : 1 ≤ x
        · by_cases h3 : x ≤ 60
          · obtain ⟨m, rfl⟩ := Int.eq_ofNat_of_zero_le (show 0 ≤ x by omega)
            have HM : Hid (1 ≤ m ∧ m ≤ 60) := ⟨by omega, by omega⟩
            have HOK : Hid (CB.ok b (m : Int) = true) := by show _ = _; unfold CB.ok; rw [HG.out, HT0.out, decide_eq_true (show 0 < b.py.size by omega)]; simp [inB]; omega
            have HPY : Hid (b.py.size ≤ 60) := (CB.good_of HG.out HT0.out).2
            obtain ⟨i0, hi, hz0, hz1, hz2⟩ := info_parts Try.infoBundle3
            clear NO L1 HG HT0
            go_wp2
            go_loopw [6, 7, 8, 9] (fun v av _ _ wr => ∃ k p : Nat, av = .int .i64 (p : Int) ∧ Hid (p = k * m ∧ k ≤ CB.num b m) ∧ wr.ownsRow (w.heap.size + 1) 24 10 v (CB.ls b m k).length (MP.flat (CB.ls b m k)) ∧ Below (w.heap.size + 1) w1 wr) (fun _ av _ _ _ => (60 - intOf av).toNat)
            case atStart => exact ⟨0, 0, rfl, ⟨by simp, Nat.zero_le _⟩, World.ownsRow_nil _ _ _ _, Below.refl _ _⟩
            case round =>
              obtain ⟨k, p, rfl, HK, hown, hb⟩ := hrel
              have hpy := HPY.out
              have hR := HR.out.1.below hb (by omega)
              have c9' := CB.c_of hR (j := 9) rfl
              clear c8 c9
              by_cases hl : p < b.py.size
              · have hl' : (p : Int) < (b.py.size : Int) := by omega
                have HKN : Hid (k < CB.num b m) := CB.num_lt HM.out.1 (by rw [← HK.out.1]; exact hl)
                have hRN := MA.Rg.new wr (Bd.cs B1.zero) 24
                have hNB := CB.new_bd wr b 24
                have HNB : Hid _ := And.intro hNB.1 (And.intro hNB.2 (hR.below hNB.1 hR.lt))
                have HRN : Hid _ := hRN
                have HRR : Hid _ := hR.rng
                have HOW : Hid (wr.ownsRow (w.heap.size + 1) 24 10 u6 (CB.ls b m k).length (MP.flat (CB.ls b m k))) := hown
                have hbs := hb.size
                have hm60 := HM.out
                clear hRN hNB hR hown
                by_cases hE2 : p + m ≤ b.py.size
                · have hE3 : ¬ (b.py.size : Int) < (p : Int) + (m : Int) := by omega
                  have HP0 : Hid (∀ W : World, MA.Rg W wr.heap.size 0 b.cs → (((W.setCell ⟨wr.heap.size, 7, none⟩ (.int .i64 (p : Int))).setCell ⟨wr.heap.size, 8, none⟩ (.int .i64 (b.py.size : Int))).setCell ⟨wr.heap.size, 9, none⟩ (.string (b.py.extract p (p + m)))).rangeAt wr.heap.size 0 (CB.pc b m k).cs) := fun W h => by
                    have := CB.put789 h rfl (.int .i64 (p : Int)) (.int .i64 (b.py.size : Int)) (.string (b.py.extract p (p + m)))
                    rw [CB.pc_cs HK.out.1 (by omega)] at this
                    exact this.rng
                  have HB0 : Hid (∀ W : World, Below wr.heap.size wr W → Below wr.heap.size wr (((W.setCell ⟨wr.heap.size, 7, none⟩ (.int .i64 (p : Int))).setCell ⟨wr.heap.size, 8, none⟩ (.int .i64 (b.py.size : Int))).setCell ⟨wr.heap.size, 9, none⟩ (.string (b.py.extract p (p + m))))) := fun W h => ((h.setCell (p := ⟨wr.heap.size, 7, none⟩) (by simp) _).setCell (p := ⟨wr.heap.size, 8, none⟩) (by simp) _).setCell (p := ⟨wr.heap.size, 9, none⟩) (by simp) _
                  have hbs0 : Hid (w.heap.size + 1 ≤ wr.heap.size) := Nat.le_trans HR.out.1.lt hbs
                  go_wp2_with (first
                    | (refine MA.load_r rfl 24 _ rfl rfl (cs := b.cs) ?_ Try.underlying24 rfl Try.sizeBundle rfl ?_; exact HRR.out; clear HRR)
                    | (refine MA.alloc_z rfl 24 rfl _ _ Try.infoBundle ?_)
                    | (refine MA.store_m rfl 24 _ _ rfl rfl rfl (vs := b.cs) (cs := Bd.cs B1.zero) ?_ Try.sizeBundle rfl rfl (MA.cs_one _) ?_; exact HRN.out; clear HRN; generalize World.setCells _ _ _ _ = W2 at *; have c7 := CB.c_of HNB.out.2.1 (j := 7) rfl; have f7 := CB.f_of HNB.out.2.1 (j := 7) (by simp [Bd.cs]); have c8 := CB.c_of HNB.out.2.1 (j := 8) rfl; have f8 := CB.f_of HNB.out.2.1 (j := 8) (by simp [Bd.cs]); have c9q := CB.c_of HNB.out.2.1 (j := 9) rfl; have f9 := CB.f_of HNB.out.2.1 (j := 9) (by simp [Bd.cs]); have c9b := CB.c_of HNB.out.2.2 (j := 9) rfl)
                    | (refine MA.load_r rfl 24 _ rfl rfl (cs := (CB.pc b m k).cs) ?_ Try.underlying24 rfl Try.sizeBundle rfl ?_; exact HP0.out _ HNB.out.2.1; have HW3 : Hid _ := HB0.out _ HNB.out.1; generalize World.setCell _ ⟨wr.heap.size, 9, none⟩ _ = W3 at HW3 ⊢; have HO3 : Hid (W3.ownsRow (w.heap.size + 1) 24 10 u6 (CB.ls b m k).length (MP.flat (CB.ls b m k))) := MP.own_below HOW.out HW3.out; clear HNB c7 f7 c8 f8 c9q f9 c9b HOW HP0 HB0 c9')
                    | (refine CB.bslice_m rfl 27 _ rfl rfl 24 (Try.bslice (CB.pc b m k)) ?_)
                    | (at_builtin; refine wpList_append_own _ rfl _ _ 27 rfl (w.heap.size + 1) 24 i0 _ 10 88 Try.underlying27 hi hz0 hz1 hz2 rfl (by decide) _ _ _ rfl (HO3.out.alloc _) ⟨W3.heap.size, 0, none⟩ 1 1 (CB.pc b m k).cs rfl rfl (CB.newN _ _ _) (MA.cs_one _) ?c3 ?c4 ?c5 ?_))
                  case c3 => rw [CB.ls_len]; unfold maxLen; have := HKN.out; have := CB.num_le (b := b) HM.out.1; omega
                  case c4 => rw [CB.ls_len]; have := HKN.out; have := CB.num_le (b := b) HM.out.1; omega
                  case c5 => have := HW3.out.size; have := hbs0.out; simp; omega
                  intro v' w5 hown5 hgrow _
                  have R := CB.grow HO3.out (hb.trans (HW3.out.mono hbs0.out)) (by have := HW3.out.size; have := hbs0.out; omega) (by exact hown5) hgrow
                  have R1 := R.1
                  have R2 := R.2
                  rw [← CB.ls_succ] at R1
                  clear hown5 hgrow R HO3 HW3 hb
                  go_wp2
                  go_roundw
                  case rel => exact ⟨k + 1, p + m, by go_num, ⟨by rw [HK.out.1, Nat.succ_mul], HKN.out⟩, R1, R2⟩
                  case measure => simp [intOf]; omega
                · have hE3 : (b.py.size : Int) < (p : Int) + (m : Int) := by omega
                  have HP0 : Hid (∀ W : World, MA.Rg W wr.heap.size 0 b.cs → (((W.setCell ⟨wr.heap.size, 7, none⟩ (.int .i64 (p : Int))).setCell ⟨wr.heap.size, 8, none⟩ (.int .i64 (b.py.size : Int))).setCell ⟨wr.heap.size, 9, none⟩ (.string (b.py.extract p (b.py.size)))).rangeAt wr.heap.size 0 (CB.pc b m k).cs) := fun W h => by
                    have := CB.put789 h rfl (.int .i64 (p : Int)) (.int .i64 (b.py.size : Int)) (.string (b.py.extract p (b.py.size)))
                    rw [CB.pc_cs HK.out.1 (by omega)] at this
                    exact this.rng
                  have HB0 : Hid (∀ W : World, Below wr.heap.size wr W → Below wr.heap.size wr (((W.setCell ⟨wr.heap.size, 7, none⟩ (.int .i64 (p : Int))).setCell ⟨wr.heap.size, 8, none⟩ (.int .i64 (b.py.size : Int))).setCell ⟨wr.heap.size, 9, none⟩ (.string (b.py.extract p (b.py.size))))) := fun W h => ((h.setCell (p := ⟨wr.heap.size, 7, none⟩) (by simp) _).setCell (p := ⟨wr.heap.size, 8, none⟩) (by simp) _).setCell (p := ⟨wr.heap.size, 9, none⟩) (by simp) _
                  have hbs0 : Hid (w.heap.size + 1 ≤ wr.heap.size) := Nat.le_trans HR.out.1.lt hbs
                  go_wp2_with (first
                    | (refine MA.load_r rfl 24 _ rfl rfl (cs := b.cs) ?_ Try.underlying24 rfl Try.sizeBundle rfl ?_; exact HRR.out; clear HRR)
                    | (refine MA.alloc_z rfl 24 rfl _ _ Try.infoBundle ?_)
                    | (refine MA.store_m rfl 24 _ _ rfl rfl rfl (vs := b.cs) (cs := Bd.cs B1.zero) ?_ Try.sizeBundle rfl rfl (MA.cs_one _) ?_; exact HRN.out; clear HRN; generalize World.setCells _ _ _ _ = W2 at *; have c7 := CB.c_of HNB.out.2.1 (j := 7) rfl; have f7 := CB.f_of HNB.out.2.1 (j := 7) (by simp [Bd.cs]); have c8 := CB.c_of HNB.out.2.1 (j := 8) rfl; have f8 := CB.f_of HNB.out.2.1 (j := 8) (by simp [Bd.cs]); have c9q := CB.c_of HNB.out.2.1 (j := 9) rfl; have f9 := CB.f_of HNB.out.2.1 (j := 9) (by simp [Bd.cs]); have c9b := CB.c_of HNB.out.2.2 (j := 9) rfl)
                    | (refine MA.load_r rfl 24 _ rfl rfl (cs := (CB.pc b m k).cs) ?_ Try.underlying24 rfl Try.sizeBundle rfl ?_; exact HP0.out _ HNB.out.2.1; have HW3 : Hid _ := HB0.out _ HNB.out.1; generalize World.setCell _ ⟨wr.heap.size, 9, none⟩ _ = W3 at HW3 ⊢; have HO3 : Hid (W3.ownsRow (w.heap.size + 1) 24 10 u6 (CB.ls b m k).length (MP.flat (CB.ls b m k))) := MP.own_below HOW.out HW3.out; clear HNB c7 f7 c8 f8 c9q f9 c9b HOW HP0 HB0 c9')
                    | (refine CB.bslice_m rfl 27 _ rfl rfl 24 (Try.bslice (CB.pc b m k)) ?_)
                    | (at_builtin; refine wpList_append_own _ rfl _ _ 27 rfl (w.heap.size + 1) 24 i0 _ 10 88 Try.underlying27 hi hz0 hz1 hz2 rfl (by decide) _ _ _ rfl (HO3.out.alloc _) ⟨W3.heap.size, 0, none⟩ 1 1 (CB.pc b m k).cs rfl rfl (CB.newN _ _ _) (MA.cs_one _) ?c3 ?c4 ?c5 ?_))
                  case c3 => rw [CB.ls_len]; unfold maxLen; have := HKN.out; have := CB.num_le (b := b) HM.out.1; omega
                  case c4 => rw [CB.ls_len]; have := HKN.out; have := CB.num_le (b := b) HM.out.1; omega
                  case c5 => have := HW3.out.size; have := hbs0.out; simp; omega
                  intro v' w5 hown5 hgrow _
                  have R := CB.grow HO3.out (hb.trans (HW3.out.mono hbs0.out)) (by have := HW3.out.size; have := hbs0.out; omega) (by exact hown5) hgrow
                  have R1 := R.1
                  have R2 := R.2
                  rw [← CB.ls_succ] at R1
                  clear hown5 hgrow R HO3 HW3 hb
                  go_wp2
                  go_roundw
                  case rel => exact ⟨k + 1, p + m, by go_num, ⟨by rw [HK.out.1, Nat.succ_mul], HKN.out⟩, R1, R2⟩
                  case measure => simp [intOf]; omega
              · have HKN : Hid (k = CB.num b m) := Nat.le_antisymm HK.out.2 (CB.num_ge HM.out.1 (by rw [← HK.out.1]; exact hl))
                have hl' : ¬ (p : Int) < (b.py.size : Int) := by omega
                obtain ⟨a, cap, hv, _⟩ := CB.view hown
                rw [hv] at hown ⊢
                have HO : Hid _ := hown
                clear hown hv
                go_wp2
                go_ret2
                refine ⟨a, cap, ?_, ?_, ?_⟩
                · rw [CB.res_yes HOK.out, HOK.out, ← HKN.out]; rfl
                · rw [CB.res_yes HOK.out, ← HKN.out]; exact CB.own_mono HO.out (by omega)
                · exact HR.out.2.trans (hb.mono (by omega))
          · have HN : Hid (CB.ok b x = false) := by show _ = _; unfold CB.ok; simp [inB]; omega
            have h3' : 60 < x := by omega
            have h3'' : decide (x ≤ 60) = false := decide_eq_false h3
            clear L1 HG HT0
            go_wp2
            go_ret2
            exact NO.out HN.out
        · have HN : Hid (CB.ok b x = false) := by show _ = _; unfold CB.ok; simp [inB]; omega
          have h2' : x < 1 := by omega
          have h2'' : decide (1 ≤ x) = false := decide_eq_false h2
          clear L1 HG HT0
          go_wp2
          go_ret2
          exact NO.out HN.out
end Go.Proofs.Ytdgflhgbcfehhaa
