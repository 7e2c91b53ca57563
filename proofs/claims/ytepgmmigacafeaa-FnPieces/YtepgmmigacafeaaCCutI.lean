/- The program's CutPiece, at any bundle and any number. -/
import Derived.Test.YtepgmmigacafeaaRows
import Derived.Test.YtepgmmigacafeaaCCutPiece
import Derived.WalkKit
import Derived.WalkSpells
import Derived.WalkLawsBesides
import Derived.Outline
namespace Go.Proofs.Ytepgmmigacafeaa
open Go.RowKit
theorem Try.infoParcel2 : (Try.prog.info? 62).map (fun i => (i.zero, i.size)) = some (some (.agg (Bd.cs B1.zero).toArray), 10) := by kernel_rfl
theorem Try.sizeParcel2 : (Try.prog.info? 62).map (·.size) = some 10 := by kernel_rfl
theorem CutIn.keep1 {w W : World} {b : Bd} (h : CutIn w W b) (x : Bd) : CutIn w (W.setCells (w.heap.size + 1) 0 x.cs) b := by
  obtain ⟨c1, h1, r1⟩ := h.r1
  obtain ⟨c2, h2, r2⟩ := h.r2
  exact ⟨MA.below_cells (by omega) _ _ _ h.below, h.arg.other (.inl (by omega)), ⟨_, rfl, r1.put (vs := x.cs) (by rw [h1]; rfl)⟩, ⟨c2, h2, r2.other (.inl (by omega))⟩⟩
theorem CutIn.keep2 {w W : World} {b : Bd} (h : CutIn w W b) (x : Bd) : CutIn w (W.setCells (w.heap.size + 1 + 1) 0 x.cs) b := by
  obtain ⟨c1, h1, r1⟩ := h.r1
  obtain ⟨c2, h2, r2⟩ := h.r2
  exact ⟨MA.below_cells (by omega) _ _ _ h.below, h.arg.other (.inl (by omega)), ⟨c1, h1, r1.other (.inl (by omega))⟩, ⟨_, rfl, r2.put (vs := x.cs) (by rw [h2]; rfl)⟩⟩
set_option linter.unusedSimpArgs false in
set_option maxHeartbeats 800000 in
set_option maxRecDepth 100000 in
theorem part_any (b : Bd) (x y : Nat) (w : World) (hxy : x ≤ y) (hy : y ≤ b.py.size) (hs : b.py.size ≤ 1048576) (ho : 0 ≤ b.of ∧ b.of ≤ 60) :
    Calls Try.prog 34 #[.agg b.cs.toArray, .int .i64 (x : Int), .int .i64 (y : Int)] w fun e w' => e = .returned (.agg (partB b x y).cs.toArray) ∧ Below w.heap.size w w' := by
  have r0 := (MA.Rg.new w b.cs 62).alloc (.cells (Bd.cs B1.zero).toArray 62)
  have r1 := MA.Rg.new' (w.alloc (.cells b.cs.toArray 62)) (Bd.cs B1.zero) 62 (w.heap.size + 1) (by simp)
  have hb : Below w.heap.size w ((w.alloc (.cells b.cs.toArray 62)).alloc (.cells (Bd.cs B1.zero).toArray 62)) := ((Below.refl _ w).alloc (Nat.le_refl _) _).alloc (by simp) _
  have HR : Hid _ := And.intro r0 (And.intro r1 hb)
  clear r0 r1 hb
  have HP0 : Hid (∀ W : World, MA.Rg W w.heap.size 0 b.cs ∧ MA.Rg W (w.heap.size + 1) 0 (Bd.cs B1.zero) ∧ Below w.heap.size w W → MA.Rg ((W.setCell ⟨w.heap.size, 7, none⟩ (.int .i64 (b.of + (x : Int)))).setCell ⟨w.heap.size, 9, none⟩ (.string (b.py.extract x y))) w.heap.size 0 (partB b x y).cs ∧ MA.Rg ((W.setCell ⟨w.heap.size, 7, none⟩ (.int .i64 (b.of + (x : Int)))).setCell ⟨w.heap.size, 9, none⟩ (.string (b.py.extract x y))) (w.heap.size + 1) 0 (Bd.cs B1.zero) ∧ Below w.heap.size w ((W.setCell ⟨w.heap.size, 7, none⟩ (.int .i64 (b.of + (x : Int)))).setCell ⟨w.heap.size, 9, none⟩ (.string (b.py.extract x y)))) := fun W h => by
    obtain ⟨g0, g1, g2⟩ := h
    have q := (g0.put1 (j := 7) (by simp [Bd.cs]) (.int .i64 (b.of + (x : Int)))).put1 (j := 9) (by simp [Bd.cs]) (.string (b.py.extract x y))
    have e : (b.cs.set 7 (.int .i64 (b.of + (x : Int)))).set 9 (.string (b.py.extract x y)) = (partB b x y).cs := by simp [Bd.cs, partB]
    rw [e] at q
    simp only [Nat.zero_add] at q
    exact ⟨q, (g1.other (k' := w.heap.size) (o' := 7) (vs := [.int .i64 (b.of + (x : Int))]) (.inl (by omega))).other (k' := w.heap.size) (o' := 9) (vs := [.string (b.py.extract x y)]) (.inl (by omega)), (g2.setCell (p := ⟨w.heap.size, 7, none⟩) (by simp) _).setCell (p := ⟨w.heap.size, 9, none⟩) (by simp) _⟩
  go_enter Try.func34, Try.ntmps34
  go_wp2_with (first
    | (refine MA.alloc_z rfl 62 rfl _ _ Try.infoParcel2 ?_; simp only [MA.sz_alloc]; generalize World.alloc _ _ = W at *; have c7 := cell7 HR.out.1; have f7 := free7 HR.out.1; have c9 := cell9 HR.out.1; have f9 := free9 HR.out.1; have HP : Hid _ := HP0.out W HR.out)
    | (refine MA.load_r rfl 62 _ rfl rfl (cs := (partB b x y).cs) ?_ Try.underlying62 rfl Try.sizeParcel2 rfl ?_; exact HP.out.1.rng)
    | (refine MA.store_m rfl 62 _ _ rfl rfl rfl (vs := (partB b x y).cs) (cs := Bd.cs B1.zero) ?_ Try.sizeParcel2 rfl rfl (MA.cs_one _) ?_; exact HP.out.2.1))
  exact bodyPost_ret (MA.ret_cell rfl rfl (MA.load_rg (HP.out.2.1.put (vs := (partB b x y).cs) rfl) Try.underlying62 rfl Try.sizeParcel2 rfl)) rfl ⟨rfl, MA.below_cells (by omega) _ _ _ HP.out.2.2⟩
set_option linter.unusedSimpArgs false in
set_option maxHeartbeats 1600000 in
set_option maxRecDepth 100000 in
theorem implCut_any (b : Bd) (x : Int) (w : World) (hs : b.py.size ≤ 1048576) (hxr : -9223372036854775808 ≤ x ∧ x ≤ 9223372036854775807) :
    Calls Try.prog 9 #[.agg b.cs.toArray, .int .i64 x] w fun e w' => e = .returned (.tuple #[.agg (cutA b x).cs.toArray, .agg (cutB b x).cs.toArray, .bool (cutOk b x)]) ∧ Below w.heap.size w w' := by
  have PO : Hid (∀ W : World, Calls Try.prog 30 #[.agg b.cs.toArray] W fun e w' => e = .returned (.agg b.cs.toArray) ∧ Below W.heap.size W w') := fun W => parcelOf_any b W
  have GP : Hid (∀ W : World, Calls Try.prog 38 #[.agg b.cs.toArray] W fun e w' => e = .returned (.bool (PL.pg b)) ∧ Below W.heap.size W w') := fun W => isGoodPiece_any b W hs _ rfl
  have HI : Hid _ := cut_start w b
  have HR0 : Hid _ := HI.out.arg.rng
  go_enter Try.func9, Try.ntmps9
  go_wp2_with (first
    | (refine MA.alloc_z rfl 24 rfl _ _ Try.infoBundle ?_; simp only [MA.sz_alloc])
    | (refine MA.load_r rfl 24 _ rfl rfl (cs := b.cs) ?_ Try.underlying24 rfl Try.sizeBundle rfl ?_; exact HR0.out))
  refine (PO.out _).mono ?_
  rintro e w1 ⟨rfl, hb1⟩
  have HII : Hid _ := HI.out.kept hb1
  have hw2 : w.heap.size + 1 + 1 < w1.heap.size := (let ⟨_, _, hr⟩ := HII.out.r2; hr.lt)
  have HX : Hid _ := new_bd w1 b 62
  have HRN : Hid _ := MA.Rg.new w1 (Bd.cs B1.zero) 62
  clear PO HI HR0 hb1
  go_wp2_with (first
    | (refine MA.alloc_z rfl 62 rfl _ _ Try.infoParcel2 ?_; simp only [MA.sz_alloc])
    | (refine MA.store_m rfl 62 _ _ rfl rfl rfl (vs := b.cs) (cs := Bd.cs B1.zero) ?_ Try.sizeParcel2 rfl rfl (MA.cs_one _) ?_; exact HRN.out; clear HRN; generalize World.setCells _ _ _ _ = Wx at *; replace HII : Hid _ := HII.out.kept HX.out.1; have HRX : Hid _ := HX.out.2; clear HX; have HRR : Hid _ := HRX.out.rng)
    | (refine MA.load_r rfl 62 _ rfl rfl (cs := b.cs) ?_ Try.underlying62 rfl Try.sizeParcel2 rfl ?_; exact HRR.out))
  refine (GP.out _).mono ?_
  rintro e w3 ⟨rfl, hb3⟩
  replace HII : Hid _ := HII.out.kept hb3
  replace HRX : Hid _ := HRX.out.below hb3 HRX.out.lt
  have c9 := cell9 HRX.out
  clear GP hb3 HRR
  generalize w1.heap.size = q at *
  cases hg : PL.pg b with
  | false =>
    have hok : Hid (cutOk b x = false) := by simp [Hid, cutOk, hg]
    clear hg
    obtain ⟨s1, s2, s3, s4, s5⟩ := HII.out.store B1.zero B1.zero
    have S1 : Hid _ := s1
    have S2 : Hid _ := s2
    have S3 : Hid _ := s3
    have S4 : Hid _ := s4
    have S5 : Hid _ := s5
    clear s1 s2 s3 s4 s5
    obtain ⟨k1, m1, S1⟩ := S1.out
    obtain ⟨k2, m2, S2⟩ := S2.out
    have S1 : Hid _ := S1
    have S2 : Hid _ := S2
    have M1 : Hid _ := m1
    have M2 : Hid _ := m2
    clear m1 m2
    go_wp2_with (first
      | (refine MA.store_m rfl 24 _ _ rfl rfl rfl (vs := Bd.cs B1.zero) (cs := k1) ?_ Try.sizeBundle M1.out rfl (MA.cs_one _) ?_; exact S1.out; clear S1; generalize World.setCells w3 (w.heap.size + 1) 0 (Bd.cs B1.zero) = Wa at *)
      | (refine MA.store_m rfl 24 _ _ rfl rfl rfl (vs := Bd.cs B1.zero) (cs := k2) ?_ Try.sizeBundle M2.out rfl (MA.cs_one _) ?_; exact S2.out))
    exact bodyPost_ret (MA.ret_cell3 rfl rfl rfl rfl (MA.load_rg S3.out Try.underlying24 rfl Try.sizeBundle rfl) (MA.load_rg S4.out Try.underlying24 rfl Try.sizeBundle rfl)) rfl ⟨by rw [hok.out, (cut_no hok.out).1, (cut_no hok.out).2]; rfl, S5.out⟩
  | true =>
    obtain ⟨_, q1, q2, q3, q4, q5⟩ := PL.pg_is hg
    by_cases h1 : x < 1
    · have hok : Hid (cutOk b x = false) := by show _ = _; unfold cutOk; rw [decide_eq_false (show ¬ 1 ≤ x by omega)]; simp
      clear hg
      obtain ⟨s1, s2, s3, s4, s5⟩ := HII.out.store B1.zero B1.zero
      have S1 : Hid _ := s1
      have S2 : Hid _ := s2
      have S3 : Hid _ := s3
      have S4 : Hid _ := s4
      have S5 : Hid _ := s5
      clear s1 s2 s3 s4 s5
      obtain ⟨k1, m1, S1⟩ := S1.out
      obtain ⟨k2, m2, S2⟩ := S2.out
      have S1 : Hid _ := S1
      have S2 : Hid _ := S2
      have M1 : Hid _ := m1
      have M2 : Hid _ := m2
      clear m1 m2
      go_wp2_with (first
        | go_in
        | (refine MA.store_m rfl 24 _ _ rfl rfl rfl (vs := Bd.cs B1.zero) (cs := k1) ?_ Try.sizeBundle M1.out rfl (MA.cs_one _) ?_; exact S1.out; clear S1; generalize World.setCells w3 (w.heap.size + 1) 0 (Bd.cs B1.zero) = Wa at *)
        | (refine MA.store_m rfl 24 _ _ rfl rfl rfl (vs := Bd.cs B1.zero) (cs := k2) ?_ Try.sizeBundle M2.out rfl (MA.cs_one _) ?_; exact S2.out))
      exact bodyPost_ret (MA.ret_cell3 rfl rfl rfl rfl (MA.load_rg S3.out Try.underlying24 rfl Try.sizeBundle rfl) (MA.load_rg S4.out Try.underlying24 rfl Try.sizeBundle rfl)) rfl ⟨by rw [hok.out, (cut_no hok.out).1, (cut_no hok.out).2]; rfl, S5.out⟩
    · by_cases h2 : x < (b.py.size : Int)
      · obtain ⟨n, rfl⟩ := Int.eq_ofNat_of_zero_le (show 0 ≤ x by omega)
        have hok : Hid (cutOk b (n : Int) = true) := by show _ = _; unfold cutOk; rw [hg, decide_eq_true (show (1 : Int) ≤ (n : Int) by omega), decide_eq_true h2]; rfl
        have PA1 : Hid (∀ W : World, Calls Try.prog 34 #[.agg b.cs.toArray, .int .i64 0, .int .i64 (n : Int)] W fun e w' => e = .returned (.agg (partB b 0 n).cs.toArray) ∧ Below W.heap.size W w') := fun W => part_any b 0 n W (by omega) (by omega) hs (by omega)
        have PA2 : Hid (∀ W : World, Calls Try.prog 34 #[.agg b.cs.toArray, .int .i64 (n : Int), .int .i64 (b.py.size : Int)] W fun e w' => e = .returned (.agg (partB b n b.py.size).cs.toArray) ∧ Below W.heap.size W w') := fun W => part_any b n b.py.size W (by omega) (by omega) hs (by omega)
        have BA : Hid (∀ W : World, Calls Try.prog 35 #[.agg (partB b 0 n).cs.toArray] W fun e w' => e = .returned (.agg (partB b 0 n).cs.toArray) ∧ Below W.heap.size W w') := fun W => parcelBundle_any (partB b 0 n) W (by simp [partB]; omega)
        have BB : Hid (∀ W : World, Calls Try.prog 35 #[.agg (partB b n b.py.size).cs.toArray] W fun e w' => e = .returned (.agg (partB b n b.py.size).cs.toArray) ∧ Below W.heap.size W w') := fun W => parcelBundle_any (partB b n b.py.size) W (by simp [partB]; omega)
        have hn1 : (1 : Int) ≤ (n : Int) := by omega
        have hn2 : (n : Int) ≤ (b.py.size : Int) - 1 := by omega
        clear hg h1
        go_wp2
        have hS0 : (fun w' : World => CutIn w w' b ∧ MA.Rg w' q 0 b.cs) w3.drew := ⟨HII.out.kept ((Below.refl _ w3).drew), HRX.out.drew⟩
        clear HII HRX c9
        refine MR.frame fun A hA => ?_
        have hsz : A.tmps.size = 35 := by rw [hA]; rfl
        have e1 : A.eval (.tmp 1) = .int .i64 (n : Int) := by rw [hA]; rfl
        have f1 := MR.read (t := 1) (by rw [hsz]; decide) e1
        have e4 : A.eval (.tmp 4) = .pointer (some ⟨w.heap.size + 1, 0, none⟩) := by rw [hA]; rfl
        have f4 := MR.read (t := 4) (by rw [hsz]; decide) e4
        have e5 : A.eval (.tmp 5) = .pointer (some ⟨w.heap.size + 1 + 1, 0, none⟩) := by rw [hA]; rfl
        have f5 := MR.read (t := 5) (by rw [hsz]; decide) e5
        have e7 : A.eval (.tmp 7) = .pointer (some ⟨q, 0, none⟩) := by rw [hA]; rfl
        have f7 := MR.read (t := 7) (by rw [hsz]; decide) e7
        have HA : Hid (A = _) := hA
        clear hA
        have hS : (fun w' : World => CutIn w w' b ∧ MA.Rg w' q 0 b.cs) (World.drew _) := hS0
        refine wp_region_held (S := fun w' : World => CutIn w w' b ∧ MA.Rg w' q 0 b.cs) (by kernel_rfl) ?_
        change wpAnyH _ _ _ _ _ _ _ _ (World.drew _)
        refine MR.takeH (i := 0) (some 24) (.agg b.cs.toArray) rfl rfl (by kernel_rfl) (by kernel_rfl) (by kernel_rfl) (fun _ _ _ h => h) hS (MR.free rfl) (fun w hw => MA.ex_load rfl (by simp [MR.ev, MR.evN, MR.size, hsz, e1, f1, e4, f4, e5, f5, e7, f7]) hw.2.rng Try.underlying62 rfl Try.sizeParcel2 rfl) ?_
        refine MR.takeH (i := 1) (some 25) (.int .i64 (n : Int)) rfl rfl (by kernel_rfl) (by kernel_rfl) (by kernel_rfl) (fun _ _ _ h => h) hS (MR.free rfl) (fun wq hw => by simp [execOp, MR.ev, MR.evN, MR.size, hsz, e1, f1, e4, f4, e5, f5, e7, f7, go_sem]) ?_
        refine MR.takeH (i := 4) (some 28) (.agg b.cs.toArray) rfl rfl (by kernel_rfl) (by kernel_rfl) (by kernel_rfl) (fun _ _ _ h => h) hS (MR.free rfl) (fun w hw => MA.ex_load rfl (by simp [MR.ev, MR.evN, MR.size, hsz, e1, f1, e4, f4, e5, f5, e7, f7]) hw.2.rng Try.underlying62 rfl Try.sizeParcel2 rfl) ?_
        refine MR.takeH (i := 5) (some 29) (.int .i64 (n : Int)) rfl rfl (by kernel_rfl) (by kernel_rfl) (by kernel_rfl) (fun _ _ _ h => h) hS (MR.free rfl) (fun wq hw => by simp [execOp, MR.ev, MR.evN, MR.size, hsz, e1, f1, e4, f4, e5, f5, e7, f7, go_sem]) ?_
        refine MR.takeH (i := 6) (some 30) (.pointer (some ⟨q, 9, none⟩)) rfl rfl (by kernel_rfl) (by kernel_rfl) (by kernel_rfl) (fun _ _ _ h => h) hS (MR.free rfl) (fun wq hw => by simp [execOp, MR.ev, MR.evN, MR.size, hsz, e1, f1, e4, f4, e5, f5, e7, f7, go_sem]) ?_
        refine MR.takeH (i := 7) (some 31) (.string b.py) rfl rfl (by kernel_rfl) (by kernel_rfl) (by kernel_rfl) (fun _ _ _ h => h) hS (MR.free rfl) (fun wq hw => by simp [execOp, MR.ev, MR.evN, MR.size, hsz, e1, f1, e4, f4, e5, f5, e7, f7, cell9 hw.2, go_sem]) ?_
        refine MR.takeH (i := 8) (some 32) (.int .i64 (b.py.size : Int)) rfl rfl (by kernel_rfl) (by kernel_rfl) (by kernel_rfl) (fun _ _ _ h => h) hS (MR.free rfl) (fun wq hw => by simp [execOp, MR.ev, MR.evN, MR.size, hsz, e1, f1, e4, f4, e5, f5, e7, f7, go_sem]) ?_
        refine MR.callH (i := 2) (some 26) (34) (#[.agg b.cs.toArray, .int .i64 0, .int .i64 (n : Int)]) (by kernel_rfl) rfl rfl (MR.free rfl) (by simp [execOp, MR.ev, MR.evN, MR.size, hsz, e1, f1, e4, f4, e5, f5, e7, f7, go_sem]) ?_
        refine Calls.mono (PA1.out _) ?_
        rintro e w5 ⟨rfl, hb5⟩
        have hS5 : CutIn w w5 b ∧ MA.Rg w5 q 0 b.cs := ⟨hS.1.kept hb5, hS.2.below hb5 hS.2.lt⟩
        refine ⟨_, rfl, hS5, ?_⟩
        refine MR.callH (i := 3) (some 27) (35) (#[.agg (partB b 0 n).cs.toArray]) (by kernel_rfl) rfl rfl (MR.free rfl) (by simp [execOp, MR.ev, MR.evN, MR.size, hsz, e1, f1, e4, f4, e5, f5, e7, f7, go_sem]) ?_
        refine Calls.mono (BA.out _) ?_
        rintro e w6 ⟨rfl, hb6⟩
        have hS6 : CutIn w w6 b ∧ MA.Rg w6 q 0 b.cs := ⟨hS5.1.kept hb6, hS5.2.below hb6 hS5.2.lt⟩
        refine ⟨_, rfl, hS6, ?_⟩
        refine MR.callH (i := 9) (some 33) (34) (#[.agg b.cs.toArray, .int .i64 (n : Int), .int .i64 (b.py.size : Int)]) (by kernel_rfl) rfl rfl (MR.free rfl) (by simp [execOp, MR.ev, MR.evN, MR.size, hsz, e1, f1, e4, f4, e5, f5, e7, f7, go_sem]) ?_
        refine Calls.mono (PA2.out _) ?_
        rintro e w7 ⟨rfl, hb7⟩
        have hS7 : CutIn w w7 b ∧ MA.Rg w7 q 0 b.cs := ⟨hS6.1.kept hb7, hS6.2.below hb7 hS6.2.lt⟩
        refine ⟨_, rfl, hS7, ?_⟩
        refine MR.callH (i := 10) (some 34) (35) (#[.agg (partB b n b.py.size).cs.toArray]) (by kernel_rfl) rfl rfl (MR.free rfl) (by simp [execOp, MR.ev, MR.evN, MR.size, hsz, e1, f1, e4, f4, e5, f5, e7, f7, go_sem]) ?_
        refine Calls.mono (BB.out _) ?_
        rintro e w8 ⟨rfl, hb8⟩
        have hS8 : CutIn w w8 b ∧ MA.Rg w8 q 0 b.cs := ⟨hS7.1.kept hb8, hS7.2.below hb8 hS7.2.lt⟩
        refine ⟨_, rfl, hS8, ?_⟩
        obtain ⟨s1, s2, s3, s4, s5⟩ := hS8.1.store (partB b 0 n) (partB b n b.py.size)
        have hok1 : w8.there (w.heap.size + 1) 0 10 := by obtain ⟨c, hc, hr⟩ := s1; have := hr.ok; rwa [hc] at this
        have hok2 : (w8.setCells (w.heap.size + 1) 0 (partB b 0 n).cs).there (w.heap.size + 1 + 1) 0 10 := by obtain ⟨c, hc, hr⟩ := s2; have := hr.ok; rwa [hc] at this
        have hS9 : CutIn w (w8.setCells (w.heap.size + 1) 0 (partB b 0 n).cs) b ∧ MA.Rg (w8.setCells (w.heap.size + 1) 0 (partB b 0 n).cs) q 0 b.cs := ⟨hS8.1.keep1 _, hS8.2.other (.inl (by omega))⟩
        have hS10 : CutIn w ((w8.setCells (w.heap.size + 1) 0 (partB b 0 n).cs).setCells (w.heap.size + 1 + 1) 0 (partB b n b.py.size).cs) b ∧ MA.Rg ((w8.setCells (w.heap.size + 1) 0 (partB b 0 n).cs).setCells (w.heap.size + 1 + 1) 0 (partB b n b.py.size).cs) q 0 b.cs := ⟨hS9.1.keep2 _, hS9.2.other (.inl (by omega))⟩
        refine MR.storeH (i := 11) (by kernel_rfl) rfl (MR.free rfl) (MA.ex_store rfl (b := w.heap.size + 1) (o := 0) (vs := (partB b 0 n).cs) (by simp [MR.ev, MR.evN, MR.size, hsz, e1, f1, e4, f4, e5, f5, e7, f7]) (by simp [MR.ev, MR.evN, MR.size, hsz, e1, f1, e4, f4, e5, f5, e7, f7]) hok1 Try.sizeBundle rfl (MA.cs_one _)) ⟨hS9, ?_⟩
        refine MR.storeH (i := 12) (by kernel_rfl) rfl (MR.free rfl) (MA.ex_store rfl (b := w.heap.size + 1 + 1) (o := 0) (vs := (partB b n b.py.size).cs) (by simp [MR.ev, MR.evN, MR.size, hsz, e1, f1, e4, f4, e5, f5, e7, f7]) (by simp [MR.ev, MR.evN, MR.size, hsz, e1, f1, e4, f4, e5, f5, e7, f7]) hok2 Try.sizeBundle rfl (MA.cs_one _)) ⟨hS10, ?_⟩
        refine MR.takeH (i := 13) (some 6) (.bool true) rfl rfl (by kernel_rfl) (by kernel_rfl) (by kernel_rfl) (fun _ _ _ h => h) hS10 (MR.free rfl) (fun wq hw => by simp [execOp, MR.ev, MR.evN, MR.size, hsz, e1, f1, e4, f4, e5, f5, e7, f7, go_sem]) ?_
        refine wpAnyH_done (by kernel_rfl) ?_ _
        rw [HA.out]
        have hl3 := MA.load_rg (P := Try.prog) s3 Try.underlying24 rfl Try.sizeBundle rfl
        have hl4 := MA.load_rg (P := Try.prog) s4 Try.underlying24 rfl Try.sizeBundle rfl
        have HL3 : Hid _ := hl3
        have HL4 : Hid _ := hl4
        have HS5 : Hid _ := s5
        clear hl3 hl4 s1 s2 s3 s4 s5 hok1 hok2 hS hS0 hS5 hS6 hS7 hS8 hS9 hS10 hb5 hb6 hb7 hb8 HA e1 e4 e5 e7 f1 f4 f5 f7 hsz PA1 PA2 BA BB
        simp only [Act.put, List.setIfInBounds_toArray, List.set_cons_succ, List.set_cons_zero]
        generalize World.setCells _ (w.heap.size + 1 + 1) _ _ = Wq at *
        go_wp2
        exact bodyPost_ret (MA.ret_cell3 rfl rfl rfl rfl HL3.out HL4.out) rfl ⟨by rw [hok.out, (cut_yes hok.out).1, (cut_yes hok.out).2]; rfl, HS5.out⟩
      · have hok : Hid (cutOk b x = false) := by show _ = _; unfold cutOk; rw [decide_eq_false h2]; simp
        have h3 : decide (x ≤ (b.py.size : Int) - 1) = false := decide_eq_false (by omega)
        have h4 : (b.py.size : Int) - 1 < x := by omega
        clear hg h2
        obtain ⟨s1, s2, s3, s4, s5⟩ := HII.out.store B1.zero B1.zero
        have S1 : Hid _ := s1
        have S2 : Hid _ := s2
        have S3 : Hid _ := s3
        have S4 : Hid _ := s4
        have S5 : Hid _ := s5
        clear s1 s2 s3 s4 s5
        obtain ⟨k1, m1, S1⟩ := S1.out
        obtain ⟨k2, m2, S2⟩ := S2.out
        have S1 : Hid _ := S1
        have S2 : Hid _ := S2
        have M1 : Hid _ := m1
        have M2 : Hid _ := m2
        clear m1 m2
        go_wp2_with (first
          | go_in
          | (refine MA.store_m rfl 24 _ _ rfl rfl rfl (vs := Bd.cs B1.zero) (cs := k1) ?_ Try.sizeBundle M1.out rfl (MA.cs_one _) ?_; exact S1.out; clear S1; generalize World.setCells w3 (w.heap.size + 1) 0 (Bd.cs B1.zero) = Wa at *)
          | (refine MA.store_m rfl 24 _ _ rfl rfl rfl (vs := Bd.cs B1.zero) (cs := k2) ?_ Try.sizeBundle M2.out rfl (MA.cs_one _) ?_; exact S2.out))
        exact bodyPost_ret (MA.ret_cell3 rfl rfl rfl rfl (MA.load_rg S3.out Try.underlying24 rfl Try.sizeBundle rfl) (MA.load_rg S4.out Try.underlying24 rfl Try.sizeBundle rfl)) rfl ⟨by rw [hok.out, (cut_no hok.out).1, (cut_no hok.out).2]; rfl, S5.out⟩
end Go.Proofs.Ytepgmmigacafeaa
