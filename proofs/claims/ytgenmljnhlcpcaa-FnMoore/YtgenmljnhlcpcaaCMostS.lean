/- FewestLate of the specification. -/
import Derived.Test.YtgenmljnhlcpcaaRows
import Derived.Test.YtgenmljnhlcpcaaMJM
import Derived.Test.YtgenmljnhlcpcaaCJobS1
import Derived.Test.YtgenmljnhlcpcaaCJobsS
import Derived.Test.YtgenmljnhlcpcaaCMost1
import Derived.Test.YtgenmljnhlcpcaaMRP
import Derived.Test.YtgenmljnhlcpcaaMRA
namespace Go.Proofs.Ytgenmljnhlcpcaa
open Go.RowKit
set_option linter.unusedSimpArgs false in
set_option maxHeartbeats 3200000 in
set_option maxRecDepth 100000 in
theorem specFewest_any (a : Option Addr) (ca : Nat) (xs : List I2) (w : World) (hn : xs.length ≤ 1048576) (hin : MI2.RowAt w a xs) :
    Calls Try.prog 17 #[.slice a xs.length ca] w fun e w' => ∃ a1 c1, e = .returned (.tuple #[.slice a1 (JD.fewL xs).length c1, .bool (JD.okP xs)]) ∧ w'.ownsRow w.heap.size 3 1 (.slice a1 (JD.fewL xs).length c1) (JD.fewL xs).length (M4.iv (JD.fewL xs)) ∧ Below w.heap.size w w' := by
  obtain ⟨i0, hi, hz0, hz1, hz2⟩ := info_parts Try.info3
  have GJ : Hid _ := specGoodJobs_any a ca xs w hn hin _ rfl
  have HB : Hid (JD.okP xs = true → ∀ w1, Below w.heap.size w w1 → ∀ b cb, M4.IntsAt w1 b (JD.nums xs.length) → Calls Try.prog 28 #[.slice a xs.length ca, .slice b xs.length cb] w1 fun e w' => ∃ a1 c1, e = .returned (.slice a1 xs.length c1) ∧ w'.ownsRow w1.heap.size 3 1 (.slice a1 xs.length c1) xs.length (M4.iv (JD.byD xs)) ∧ Below w1.heap.size w1 w') := fun hg w1 hb b cb hi => by
    have h := l12By_any a b ca cb xs (JD.nums xs.length) w1 hg (hin.below hb) (by rw [JD.nums_len]; exact ((JD.okP_iff xs).1 hg).1) hi (fun z hz => (JD.nums_mem _ _).1 hz)
    rw [JD.nums_len] at h
    exact h
  have HXI : Hid (MI2.RowAt w a xs) := hin
  obtain ⟨q, hq⟩ : ∃ q, JD.okP xs = q := ⟨_, rfl⟩
  rw [hq] at GJ ⊢
  clear hin
  cases q with
  | false =>
    have HF : Hid (JD.fewL xs = []) := JD.fewL_no hq
    generalize JD.fewL xs = L at *
    have hL := HF.out
    subst hL
    clear HF HB hq HXI
    go_enter Try.func17, Try.ntmps17
    go_wp2_with fail
    refine Calls.mono GJ.out ?_
    rintro e w1 ⟨rfl, hb⟩
    clear GJ
    go_wp2
    go_ret2
    exact ⟨none, 0, rfl, World.ownsRow_nil _ _ _ _, hb⟩
  | true =>
    have HG : Hid (JD.okP xs = true) := hq
    have hlen := ((JD.okP_iff xs).1 hq).1
    have HB1 : Hid (∀ w1, _ → ∀ b cb, _) := HB.out hq
    have HBL : Hid _ := JD.byD_len hq
    have HFL : Hid _ := JD.fewL_yes hq
    clear hq HB
    go_enter Try.func17, Try.ntmps17
    go_wp2_with fail
    refine Calls.mono GJ.out ?_
    rintro e w1 ⟨rfl, hb⟩
    clear GJ
    go_wp2_with fail
    refine (l12All_any xs.length w1 (by omega)).mono ?_
    rintro e w2 ⟨a2, c2, rfl, o2, b2⟩
    have hB2 := hb.trans (b2.mono hb.size)
    have B2 : Hid _ := HB1.out w2 hB2 a2 c2 (M5.own_ints o2)
    clear HB1 o2 b2 hb
    go_wp2_with fail
    refine Calls.mono B2.out ?_
    rintro e W ⟨a3, c3, rfl, o3, b3⟩
    have hBW := hB2.trans (b3.mono hB2.size)
    have HBY : Hid (M4.IntsAt W a3 (JD.byD xs)) := M5.own_ints o3
    clear B2 o3 b3 hB2
    have hWs := hBW.size
    go_wp2
    go_loopw [4, 5, 7, 8, 9, 10, 23] (fun v nv _ _ _ _ iv wr => ∃ (k tl : Nat) (ta : Option Addr) (tc : Nat) (now : Int), iv = .int .i64 k ∧ k ≤ xs.length ∧ v = .slice ta tl tc ∧ nv = .int .i64 now ∧ Hid ((JD.tak xs k).length = tl) ∧ Hid (((JD.tak xs k).map fun y => (JD.lngN xs y : Int)).sum = now) ∧ Hid (World.ownsRow wr W.heap.size 3 1 (.slice ta tl tc) tl (M4.iv (JD.tak xs k))) ∧ Below W.heap.size W wr) (fun _ _ _ _ _ _ iv _ => (xs.length - intOf iv).toNat)
    case atStart => exact ⟨0, 0, none, 0, 0, rfl, by omega, rfl, rfl, (show Hid _ from by show _ = _; rw [JD.tak_zero]; rfl), (show Hid _ from by show _ = _; rw [JD.tak_zero]; rfl), (show Hid _ from by show World.ownsRow _ _ _ _ _ _ _; rw [JD.tak_zero]; exact World.ownsRow_nil _ _ _ _), Below.refl _ _⟩
    case round =>
      obtain ⟨k, tl, ta, tc, now, rfl, hk, rfl, rfl, HTL, HNW, HO, hb⟩ := hrel
      have hbs := hb.size
      by_cases hlk : k < xs.length
      · have hlk2 : k < (JD.byD xs).length := by rw [HBL.out]; exact hlk
        obtain ⟨z, hz, hzx⟩ := JD.nat_at (fun z hz => (JD.byD_mem HG.out z).1 hz) hlk2
        obtain ⟨b6, off6, hb6, hlt6, hc6⟩ := M4.IntsAt.at (HBY.out.below hb) hlk2
        rw [hz] at hc6
        have HSU : Hid _ := JD.tak_succ hlk2
        have htl := JD.tak_len xs (Nat.le_of_lt hlk2)
        have HRG : Hid (∀ y, y ∈ JD.tak xs k ++ [(z : Int)] → 0 ≤ y ∧ y < xs.length) := fun y hy => by
          rcases List.mem_append.1 hy with h | h
          · exact JD.tak_rng HG.out (Nat.le_of_lt hlk2) y h
          · rw [List.mem_singleton.1 h]; omega
        rw [hz] at HSU
        rw [HTL.out] at htl
        clear hz hlk2
        obtain ⟨t, ht⟩ : ∃ t, JD.tak xs k = t := ⟨_, rfl⟩
        rw [ht] at HO HSU HRG HTL HNW
        clear ht
        subst hb6
        have hnow : 0 ≤ now ∧ now ≤ 1000 := by
          have h1 := JD.endK_bd2 HG.out (ts := t) (fun y hy => HRG.out y (List.mem_append.2 (.inl hy))) t.length (Nat.le_refl _)
          rw [JD.endK_sum HG.out (fun y hy => HRG.out y (List.mem_append.2 (.inl hy))) t.length (Nat.le_refl _), List.take_length, HNW.out, HTL.out] at h1
          omega
        go_wp2_with (at_builtin; go_loud (refine wpList_append_own _ rfl _ _ 24 rfl W.heap.size 3 i0 (.int .i64 0) 1 8 Try.underlying24 hi hz0 hz1 hz2 rfl (by decide) _ _ _ rfl (World.ownsRow.alloc HO.out _) ⟨wr.heap.size, 0, none⟩ 1 1 [.int .i64 (z : Int)] rfl rfl ?c1 ?c2 ?c3 ?c4 ?c5 ?_))
        all_goals try (first | rfl | omega | exact M2.new1 _ _ _ | exact M2.one1 _ _ | (unfold maxLen; omega) | (simp; omega))
        intro v' wn hown1 hgrow _
        obtain ⟨tg, tc2, rfl⟩ : ∃ tg tc2, v' = .slice (some ⟨tg, 0, none⟩) (tl + 1) tc2 := by
          rcases hown1.2 with ⟨-, h0⟩ | ⟨g', c', cur, rfl, -⟩
          · omega
          · exact ⟨g', c', rfl⟩
        obtain ⟨ts, hts⟩ : ∃ ts, t ++ [(z : Int)] = ts := ⟨_, rfl⟩
        have HTS : Hid (ts.length = tl + 1) := by show _ = _; rw [← hts, List.length_append, HTL.out]; rfl
        have hb1 : Below W.heap.size W wn := (hb.alloc hbs _).grown hgrow (by simp; omega) (fun j hj => (HO.out.lt j hj).1)
        have HO1 : Hid (World.ownsRow wn W.heap.size 3 1 (.slice (some ⟨tg, 0, none⟩) (tl + 1) tc2) (tl + 1) (M4.iv ts)) := by
          show World.ownsRow _ _ _ _ _ _ _
          rw [← hts]; simpa [M4.iv] using hown1
        have HSM : Hid ((ts.map fun y => (JD.lngN xs y : Int)).sum = now + (JD.lngN xs (z : Int) : Int)) := by
          show _ = _
          rw [← hts, List.map_append, List.sum_append, HNW.out]; simp
        rw [hts] at HRG
        have HSU2 : Hid (JD.tak xs (k + 1) = if (ts.map fun y => (JD.lngN xs y : Int)).sum ≤ JD.duI xs (z : Int) then ts else ts.eraseIdx (JD.lmx (JD.lngN xs) ts ts.length)) := by
          show _ = _
          rw [HSU.out, JD.mst, hts]
        rw [HSM.out] at HSU2
        have hbs1 := hb1.size
        have hBn : Below w.heap.size w wn := hBW.trans (hb1.mono hWs)
        clear hown1 hgrow HO HSU hts HTL hc6 hlt6 HNW hb
        obtain ⟨b8, off8, hb8, hlt8, hc7, hc8⟩ := (HXI.out.below hBn).at hzx
        have e8 := JD.due_is HG.out (z := (z : Int)) (by omega) (by omega)
        have e7 := JD.lng_is HG.out (z := (z : Int)) (by omega) (by omega)
        have e7l := (JD.okP_good HG.out hzx).l1
        rw [Int.toNat_natCast] at e8 e7
        rw [e7] at e7l
        rw [e8] at hc8
        rw [e7] at hc7
        have hDU : JD.duI xs (z : Int) = (JD.dueN xs (z : Int) : Int) := rfl
        rw [hDU] at HSU2
        clear e8 e7 hDU
        generalize JD.dueN xs (z : Int) = dz at *
        generalize hlz : JD.lngN xs (z : Int) = lz at *
        clear hlz
        subst hb8
        have q0 : IntKind.i64.wrap (now + (lz : Int)) = now + (lz : Int) := by rw [IntKind.wrap_i64]; omega
        by_cases hen : now + (lz : Int) ≤ (dz : Int)
        · have q1 : decide (now + (lz : Int) ≤ (dz : Int)) = true := by simp; omega
          have HT2 : Hid (JD.tak xs (k + 1) = ts) := by show _ = _; rw [HSU2.out, if_pos hen]
          have A1 : Hid ((JD.tak xs (k + 1)).length = tl + 1) := by show _ = _; rw [HT2.out]; exact HTS.out
          have A2 : Hid (((JD.tak xs (k + 1)).map fun y => (JD.lngN xs y : Int)).sum = now + (lz : Int)) := by show _ = _; rw [HT2.out]; exact HSM.out
          have A3 : Hid (World.ownsRow wn W.heap.size 3 1 (.slice (some ⟨tg, 0, none⟩) (tl + 1) tc2) (tl + 1) (M4.iv (JD.tak xs (k + 1)))) := by show World.ownsRow _ _ _ _ _ _ _; rw [HT2.out]; exact HO1.out
          clear HSU2 HT2 HO1 HTS HSM HRG
          go_wp2
          go_roundw
          case rel => exact ⟨k + 1, tl + 1, some ⟨tg, 0, none⟩, tc2, now + (lz : Int), by go_num, by omega, rfl, rfl, A1, A2, A3, hb1⟩
          case measure => simp [intOf]; omega
        · have q1 : decide (now + (lz : Int) ≤ (dz : Int)) = false := by simp; omega
          have HSU3 : Hid (JD.tak xs (k + 1) = ts.eraseIdx (JD.lmx (JD.lngN xs) ts ts.length)) := by show _ = _; rw [HSU2.out, if_neg hen]
          clear HSU2
          have LR : Hid (∀ i, i < tl + 1 → ∃ y : Nat, ts.getD i 0 = (y : Int) ∧ y < xs.length) := fun i hi => JD.nat_at HRG.out (by rw [HTS.out]; exact hi)
          have LC : Hid (∀ wq, Below w.heap.size w wq → ∀ y : Nat, y < xs.length → wq.cell? ⟨b8, off8 + y * 2, none⟩ = some (.int .i64 (JD.lngN xs (y : Int) : Int))) := fun wq hq y hy => by
            obtain ⟨b9, off9, hb9, _, hc9, _⟩ := (HXI.out.below hq).at hy
            cases hb9
            have e9 := JD.lng_is HG.out (z := (y : Int)) (by omega) (by omega)
            rw [Int.toNat_natCast] at e9
            rw [hc9, e9]
          go_wp2
          go_loopw [8, 9, 10, 47] (fun av _ _ iv2 wq => ∃ i p : Nat, iv2 = .int .i64 i ∧ i ≤ tl + 1 ∧ av = .int .i64 (p : Int) ∧ Hid (JD.lmx (JD.lngN xs) ts i = p) ∧ p < tl + 1 ∧ Hid (World.ownsRow wq W.heap.size 3 1 (.slice (some ⟨tg, 0, none⟩) (tl + 1) tc2) (tl + 1) (M4.iv ts)) ∧ Below W.heap.size W wq) (fun _ _ _ iv2 _ => (tl + 1 - intOf iv2).toNat)
          case atStart => exact ⟨0, 0, rfl, by omega, rfl, (show Hid _ from rfl), by omega, HO1, hb1⟩
          case round =>
            clear HO1 hb1 hbs1 hBn hc7 hc8 hlt8
            obtain ⟨wx, hwx⟩ : ∃ wx, wx = wr := ⟨_, rfl⟩
            obtain ⟨i, p, rfl, hik, rfl, HP, hpl, HO1, hb1⟩ := hrel
            subst hwx
            have hbs1 := hb1.size
            have hBn : Below w.heap.size w wx := hBW.trans (hb1.mono hWs)
            obtain ⟨yp, hyp, hypx⟩ := LR.out p hpl
            obtain ⟨b9, off9, hb9, hlt9, hc9⟩ := (M4.IntsAt.of_own HO1.out).at (k := p) (by rw [HTS.out]; exact hpl)
            cases hb9
            rw [hyp, Nat.zero_add] at hc9
            have hcp := LC.out wx hBn yp hypx
            by_cases hil : i < tl + 1
            · obtain ⟨yi, hyi, hyix⟩ := LR.out i hil
              obtain ⟨b10, off10, hb10, hlt10, hc10⟩ := (M4.IntsAt.of_own HO1.out).at (k := i) (by rw [HTS.out]; exact hil)
              cases hb10
              rw [hyi, Nat.zero_add] at hc10
              have hci := LC.out wx hBn yi hyix
              have HL : Hid (JD.lmx (JD.lngN xs) ts (i + 1) = if JD.lngN xs (yp : Int) ≤ JD.lngN xs (yi : Int) then i else p) := by
                show _ = _
                rw [JD.lmx, HP.out, hyp, hyi]
              have KO : Hid (∀ n, World.ownsRow (wx.drewN n) W.heap.size 3 1 (.slice (some ⟨tg, 0, none⟩) (tl + 1) tc2) (tl + 1) (M4.iv ts)) := fun n => HO1.out
              have KB : Hid (∀ n, Below W.heap.size W (wx.drewN n)) := fun n => ⟨hb1.os, hb1.tape, hb1.output, hb1.size, hb1.block⟩
              clear hyp hyi HP LR LC HO1 HSU3 HSM
              generalize JD.lngN xs (yp : Int) = lp at *
              generalize JD.lngN xs (yi : Int) = li at *
              have kn : (i : Int) < (tl : Int) + 1 := by omega
              have kp : (p : Int) < (tl : Int) + 1 := by omega
              by_cases hle : lp ≤ li
              · have r1 : decide (lp ≤ li) = true := by simp; omega
                replace HL : Hid (JD.lmx (JD.lngN xs) ts (i + 1) = i) := by show _ = _; rw [HL.out, if_pos hle]
                go_wp2_with fail
                go_quiet (fail)
                go_wp2
                go_roundw
                case rel => exact ⟨i + 1, i, by go_num, by omega, rfl, HL, hil, KO.out _, KB.out _⟩
                case measure => simp [intOf]; omega
              · have r1 : decide (lp ≤ li) = false := by simp; omega
                replace HL : Hid (JD.lmx (JD.lngN xs) ts (i + 1) = p) := by show _ = _; rw [HL.out, if_neg hle]
                go_wp2_with fail
                go_quiet (fail)
                go_wp2
                go_roundw
                case rel => exact ⟨i + 1, p, by go_num, by omega, rfl, HL, hpl, KO.out _, KB.out _⟩
                case measure => simp [intOf]; omega
            · obtain rfl : i = tl + 1 := by omega
              clear LR LC
              have HSU4 : Hid (JD.tak xs (k + 1) = ts.eraseIdx p) := by show _ = _; rw [HSU3.out, HTS.out, HP.out]
              have hlp : JD.lngN xs (ts.getD p 0) = JD.lngN xs (yp : Int) := by rw [hyp]
              have A1 : Hid ((JD.tak xs (k + 1)).length = tl) := by
                show _ = _
                rw [HSU4.out, List.length_eraseIdx, if_pos (by rw [HTS.out]; exact hpl), HTS.out]; rfl
              have A2 : Hid (((JD.tak xs (k + 1)).map fun y => (JD.lngN xs y : Int)).sum = now + (lz : Int) - (JD.lngN xs (yp : Int) : Int)) := by
                show _ = _
                rw [HSU4.out, JD.sum_erase _ (by rw [HTS.out]; exact hpl), HSM.out, hlp]
              have hlp1 := (JD.okP_good HG.out hypx).l1
              have hlp2 := JD.lng_is HG.out (z := (yp : Int)) (by omega) (by omega)
              rw [Int.toNat_natCast] at hlp2
              rw [hlp2] at hlp1
              clear hlp hlp2 HSU3 HSM HP hyp
              generalize JD.lngN xs (yp : Int) = lp at *
              have q2 : IntKind.i64.wrap (now + (lz : Int) - (lp : Int)) = now + (lz : Int) - (lp : Int) := by rw [IntKind.wrap_i64]; omega
              obtain ⟨hp1, hp2⟩ := JD.own_cap HO1.out
              have hp3 : p ≤ tc2 := by omega
              have hp4 : p + 1 ≤ tl + 1 := by omega
              have hp5 : (p : Int) ≤ (tc2 : Int) := by omega
              have hp6 : (p : Int) + 1 ≤ (tl : Int) + 1 := by omega
              have hwp : IntKind.i64.wrap ((p : Int) + 1) = (p : Int) + 1 := by rw [IntKind.wrap_i64]; unfold maxLen at hp2; omega
              have hc63 : tc2 ≤ 9223372036854775807 := by unfold maxLen at hp2; omega
              have hgl := (HO1.out.lt tg rfl).2
              have HO1b : World.ownsRow wx W.heap.size 3 1 (.slice (some ⟨tg, 0, none⟩) ts.length tc2) ts.length (M4.iv ts) := by rw [HTS.out]; exact HO1.out
              have OWL : Hid (World.ownsRow ((World.drew wx).alloc (.cells #[] 3)) wx.heap.size 3 1 (.slice (some ⟨wx.heap.size, 0, none⟩) 0 0) 0 []) := by
                have := World.ownsRow_lit (base := wx.heap.size) (e := 3) (size := 1) (World.drew wx) #[] 0 (Nat.le_refl _) (by unfold maxLen; omega) (by simp)
                show World.ownsRow _ _ _ _ _ _ _
                simpa using this
              have BL : Below wx.heap.size wx ((World.drew wx).alloc (.cells #[] 3)) := ((Below.refl _ wx).drew).alloc (Nat.le_refl _) _
              have N1 : Hid (∀ j u, (M4.iv (ts.take p))[j]? = some u → ((World.drew wx).alloc (.cells #[] 3)).cell? ((⟨tg, 0, none⟩ : Addr).add j) = some u) := fun j u hj => by
                rw [EG.add_is, BL.cell (p := ⟨tg, 0 + j, none⟩) hgl, ← EG.add_is]
                exact EG.cells_take HO1b p j u hj
              go_wp2
              by_cases hq0 : tc2 = p + 1
              · have N2 : Hid (∀ W2, Below wx.heap.size wx W2 → ∀ j u, (M4.iv (ts.drop (p + 1)))[j]? = some u → W2.cell? ((⟨tg, 0, none⟩ : Addr).add j) = some u) := fun W2 hW j u hj => by rw [List.drop_of_length_le (by rw [HTS.out]; omega)] at hj; simp [M4.iv] at hj
                obtain rfl : p = tl := by omega
                subst hq0
                refine MR.frame fun A hA => ?_
                have hsz : A.tmps.size = 100 := by rw [hA]; rfl
                have e4 : A.eval (.tmp 4) = .slice (some ⟨tg, 0, none⟩) (p + 1) (p + 1) := by rw [hA]; rfl
                have f4 := MR.read (t := 4) (by rw [hsz]; decide) e4
                have e8 : A.eval (.tmp 8) = .int .i64 (p : Int) := by rw [hA]; rfl
                have f8 := MR.read (t := 8) (by rw [hsz]; decide) e8
                have HA : Hid (A = _) := hA
                clear hA
                refine MR.cut (fun aa w' => ∃ (v5 : Value) (a6 : Option Addr) (c6 : Nat), aa = (((((((((((A.put (some 78) (.slice (some ⟨wx.heap.size, 0, none⟩) 0 0)).put (some 79) (.slice (some ⟨tg, 0, none⟩) (p + 1) (p + 1))).put (some 80) (.int .i64 (p : Int))).put (some 81) (.slice (some ⟨tg, 0, none⟩) p (p + 1))).put (some 82) (v5)).put (some 83) (.slice (some ⟨tg, 0, none⟩) (p + 1) (p + 1))).put (some 84) (.int .i64 (p : Int))).put (some 85) (.int .i64 ((p : Int) + 1))).put (some 86) (.slice (some ⟨tg, 0, none⟩) 0 0)).put (some 87) (.slice a6 p c6)).put (some 4) (.slice a6 p c6)) ∧ Hid (World.ownsRow w' W.heap.size 3 1 (.slice a6 p c6) p (M4.iv (JD.tak xs (k + 1)))) ∧ Below W.heap.size W w') ?_ ?_
                · refine wp_region_held (S := fun _ => True) (by kernel_rfl) ?_
                  change wpAnyH _ _ _ _ _ _ _ _ (World.drew _)
                  refine MR.takeH (i := 1) (some 79) (.slice (some ⟨tg, 0, none⟩) (p + 1) (p + 1)) rfl rfl (by kernel_rfl) (by kernel_rfl) (by kernel_rfl) nofun trivial (MR.free rfl) (fun wq hw => by simp [execOp, MR.ev, MR.size, hsz, e4, f4, e8, f8, go_sem]) ?_
                  refine MR.takeH (i := 2) (some 80) (.int .i64 (p : Int)) rfl rfl (by kernel_rfl) (by kernel_rfl) (by kernel_rfl) nofun trivial (MR.free rfl) (fun wq hw => by simp [execOp, MR.ev, MR.size, hsz, e4, f4, e8, f8, go_sem]) ?_
                  refine MR.takeH (i := 3) (some 81) (.slice (some ⟨tg, 0, none⟩) p (p + 1)) rfl rfl (by kernel_rfl) (by kernel_rfl) (by kernel_rfl) nofun trivial (MR.free rfl) (fun wq hw => by simp [execOp, MR.ev, MR.size, hsz, e4, f4, e8, f8, hp1, hp2, hp3, hp4, hp5, hp6, go_sem]; try (intro h; omega)) ?_
                  refine MR.takeH (i := 5) (some 83) (.slice (some ⟨tg, 0, none⟩) (p + 1) (p + 1)) rfl rfl (by kernel_rfl) (by kernel_rfl) (by kernel_rfl) nofun trivial (MR.free rfl) (fun wq hw => by simp [execOp, MR.ev, MR.size, hsz, e4, f4, e8, f8, go_sem]) ?_
                  refine MR.takeH (i := 6) (some 84) (.int .i64 (p : Int)) rfl rfl (by kernel_rfl) (by kernel_rfl) (by kernel_rfl) nofun trivial (MR.free rfl) (fun wq hw => by simp [execOp, MR.ev, MR.size, hsz, e4, f4, e8, f8, go_sem]) ?_
                  refine MR.takeH (i := 7) (some 85) (.int .i64 ((p : Int) + 1)) rfl rfl (by kernel_rfl) (by kernel_rfl) (by kernel_rfl) nofun trivial (MR.free rfl) (fun wq hw => by simp [execOp, MR.ev, MR.size, hsz, e4, f4, e8, f8, hwp, go_sem]) ?_
                  refine MR.takeH (i := 8) (some 86) (.slice (some ⟨tg, 0, none⟩) 0 0) rfl rfl (by kernel_rfl) (by kernel_rfl) (by kernel_rfl) nofun trivial (MR.free rfl) (fun wq hw => by simp [execOp, MR.ev, MR.size, hsz, e4, f4, e8, f8, hp1, hp2, hp3, hp4, hp5, hp6, go_sem]; try (intro h; omega)) ?_
                  refine MR.nowH (w' := (World.drew wx).alloc (.cells #[] 3)) (i := 0) (some 78) (.slice (some ⟨wx.heap.size, 0, none⟩) 0 0) (by kernel_rfl) rfl rfl (MR.free rfl) (by simp [execOp, MR.ev, MR.size, hsz, e4, f4, e8, f8, go_sem]) ⟨trivial, ?_⟩
                  obtain ⟨v5, w5, hrun5, hown5, hgrow5, _⟩ := run_append_own (P := Try.prog) (w := (World.drew wx).alloc (.cells #[] 3)) wx.heap.size 24 24 3 i0 (.int .i64 0) 1 8 Try.underlying24 hi hz0 hz1 hz2 rfl (by decide) (.slice (some ⟨wx.heap.size, 0, none⟩) 0 0) 0 [] OWL.out ⟨tg, 0, none⟩ p (p + 1) (M4.iv (ts.take p)) (by simp [M4.iv, HTS.out]; try omega) N1.out (EG.iv_one _) (by unfold maxLen; omega) (by omega) (by simp)
                  have B5 : Below wx.heap.size wx w5 := BL.grown hgrow5 (by simp) (fun j hj => by simp [Value.ownBlock] at hj; omega)
                  refine MR.nowH (w' := w5) (i := 4) (some 82) v5 (by kernel_rfl) rfl rfl (MR.free rfl) (RA.app_run rfl (by simp [MR.ev, MR.size, hsz, e4, f4, e8, f8]) (by simp [MR.ev, MR.size, hsz, e4, f4, e8, f8]) hrun5) ⟨trivial, ?_⟩
                  obtain ⟨v6, w6, hrun6, hown6, hgrow6, _⟩ := run_append_own (P := Try.prog) (w := w5) wx.heap.size 24 24 3 i0 (.int .i64 0) 1 8 Try.underlying24 hi hz0 hz1 hz2 rfl (by decide) v5 (0 + p) ([] ++ M4.iv (ts.take p)) hown5 ⟨tg, 0, none⟩ 0 0 (M4.iv (ts.drop (p + 1))) (by simp [M4.iv, HTS.out]; try omega) (N2.out w5 B5) (EG.iv_one _) (by unfold maxLen; omega) (by omega) B5.size
                  have B6 : Below wx.heap.size wx w6 := B5.grown hgrow6 B5.size (fun j hj => (World.ownsRow.lt hown5 j hj).1)
                  have e6 : 0 + p + 0 = p := by omega
                  have R6 : w6.ownsRow wx.heap.size 3 1 v6 p (M4.iv (JD.tak xs (k + 1))) := by
                    rw [HSU4.out, JD.erase_is, M4.iv, List.map_append]
                    rw [e6] at hown6
                    exact hown6
                  obtain ⟨a6, c6, rfl⟩ := JD.own_slice R6
                  refine MR.nowH (w' := w6) (i := 9) (some 87) (.slice a6 p c6) (by kernel_rfl) rfl rfl (MR.free rfl) (RA.app_run rfl (by simp [MR.ev, MR.size, hsz, e4, f4, e8, f8]) (by simp [MR.ev, MR.size, hsz, e4, f4, e8, f8]) hrun6) ⟨trivial, ?_⟩
                  refine MR.takeH (i := 10) (some 4) (.slice a6 p c6) rfl rfl (by kernel_rfl) (by kernel_rfl) (by kernel_rfl) nofun trivial (MR.free rfl) (fun wq hw => by simp [execOp, MR.ev, MR.size, hsz, e4, f4, e8, f8, go_sem]) ?_
                  exact wpAnyH_done (by kernel_rfl) ⟨rfl, v5, a6, c6, by simp [Act.put, Array.setIfInBounds_comm], JD.own_le R6 hbs1, hb1.trans (B6.mono hbs1)⟩ _
                · rintro aa w7 ⟨v5, a6, c6, rfl, HO7, hb7⟩
                  rw [HA.out]
                  simp only [Act.put, List.setIfInBounds_toArray, List.set_cons_succ, List.set_cons_zero]
                  clear HA hsz e4 f4 e8 f8
                  clear hc9 hlt9 hcp hp1 hp2 hp3 hp4 hp5 hp6 OWL N1 N2 HO1 HTS HSU4
                  go_wp2
                  go_roundw
                  case rel => exact ⟨k + 1, p, a6, c6, now + (lz : Int) - (lp : Int), by go_num, by omega, rfl, rfl, A1, A2, HO7, hb7⟩
                  case measure => simp [intOf]; omega
              · have hq1 : ¬ (p + 1 = tc2) := by omega
                have hq2 : ¬ (tc2 = p + 1) := hq0
                have N2 : Hid (∀ W2, Below wx.heap.size wx W2 → ∀ j u, (M4.iv (ts.drop (p + 1)))[j]? = some u → W2.cell? ((⟨tg, p + 1, none⟩ : Addr).add j) = some u) := fun W2 hW => EG.cells_drop HO1b (p + 1) hgl hW
                refine MR.frame fun A hA => ?_
                have hsz : A.tmps.size = 100 := by rw [hA]; rfl
                have e4 : A.eval (.tmp 4) = .slice (some ⟨tg, 0, none⟩) (tl + 1) tc2 := by rw [hA]; rfl
                have f4 := MR.read (t := 4) (by rw [hsz]; decide) e4
                have e8 : A.eval (.tmp 8) = .int .i64 (p : Int) := by rw [hA]; rfl
                have f8 := MR.read (t := 8) (by rw [hsz]; decide) e8
                have HA : Hid (A = _) := hA
                clear hA
                refine MR.cut (fun aa w' => ∃ (v5 : Value) (a6 : Option Addr) (c6 : Nat), aa = (((((((((((A.put (some 78) (.slice (some ⟨wx.heap.size, 0, none⟩) 0 0)).put (some 79) (.slice (some ⟨tg, 0, none⟩) (tl + 1) tc2)).put (some 80) (.int .i64 (p : Int))).put (some 81) (.slice (some ⟨tg, 0, none⟩) p tc2)).put (some 82) (v5)).put (some 83) (.slice (some ⟨tg, 0, none⟩) (tl + 1) tc2)).put (some 84) (.int .i64 (p : Int))).put (some 85) (.int .i64 ((p : Int) + 1))).put (some 86) (.slice (some ⟨tg, p + 1, none⟩) (tl + 1 - (p + 1)) (tc2 - (p + 1)))).put (some 87) (.slice a6 tl c6)).put (some 4) (.slice a6 tl c6)) ∧ Hid (World.ownsRow w' W.heap.size 3 1 (.slice a6 tl c6) tl (M4.iv (JD.tak xs (k + 1)))) ∧ Below W.heap.size W w') ?_ ?_
                · refine wp_region_held (S := fun _ => True) (by kernel_rfl) ?_
                  change wpAnyH _ _ _ _ _ _ _ _ (World.drew _)
                  refine MR.takeH (i := 1) (some 79) (.slice (some ⟨tg, 0, none⟩) (tl + 1) tc2) rfl rfl (by kernel_rfl) (by kernel_rfl) (by kernel_rfl) nofun trivial (MR.free rfl) (fun wq hw => by simp [execOp, MR.ev, MR.size, hsz, e4, f4, e8, f8, go_sem]) ?_
                  refine MR.takeH (i := 2) (some 80) (.int .i64 (p : Int)) rfl rfl (by kernel_rfl) (by kernel_rfl) (by kernel_rfl) nofun trivial (MR.free rfl) (fun wq hw => by simp [execOp, MR.ev, MR.size, hsz, e4, f4, e8, f8, go_sem]) ?_
                  refine MR.takeH (i := 3) (some 81) (.slice (some ⟨tg, 0, none⟩) p tc2) rfl rfl (by kernel_rfl) (by kernel_rfl) (by kernel_rfl) nofun trivial (MR.free rfl) (fun wq hw => by simp [execOp, MR.ev, MR.size, hsz, e4, f4, e8, f8, hp1, hp2, hp3, hp4, hp5, hp6, hq1, hq2, go_sem]; try (intro h; omega)) ?_
                  refine MR.takeH (i := 5) (some 83) (.slice (some ⟨tg, 0, none⟩) (tl + 1) tc2) rfl rfl (by kernel_rfl) (by kernel_rfl) (by kernel_rfl) nofun trivial (MR.free rfl) (fun wq hw => by simp [execOp, MR.ev, MR.size, hsz, e4, f4, e8, f8, go_sem]) ?_
                  refine MR.takeH (i := 6) (some 84) (.int .i64 (p : Int)) rfl rfl (by kernel_rfl) (by kernel_rfl) (by kernel_rfl) nofun trivial (MR.free rfl) (fun wq hw => by simp [execOp, MR.ev, MR.size, hsz, e4, f4, e8, f8, go_sem]) ?_
                  refine MR.takeH (i := 7) (some 85) (.int .i64 ((p : Int) + 1)) rfl rfl (by kernel_rfl) (by kernel_rfl) (by kernel_rfl) nofun trivial (MR.free rfl) (fun wq hw => by simp [execOp, MR.ev, MR.size, hsz, e4, f4, e8, f8, hwp, go_sem]) ?_
                  refine MR.takeH (i := 8) (some 86) (.slice (some ⟨tg, p + 1, none⟩) (tl + 1 - (p + 1)) (tc2 - (p + 1))) rfl rfl (by kernel_rfl) (by kernel_rfl) (by kernel_rfl) nofun trivial (MR.free rfl) (fun wq hw => by simp [execOp, MR.ev, MR.size, hsz, e4, f4, e8, f8, hp1, hp2, hp3, hp4, hp5, hp6, hq1, hq2, go_sem]; try (intro h; omega)) ?_
                  refine MR.nowH (w' := (World.drew wx).alloc (.cells #[] 3)) (i := 0) (some 78) (.slice (some ⟨wx.heap.size, 0, none⟩) 0 0) (by kernel_rfl) rfl rfl (MR.free rfl) (by simp [execOp, MR.ev, MR.size, hsz, e4, f4, e8, f8, go_sem]) ⟨trivial, ?_⟩
                  obtain ⟨v5, w5, hrun5, hown5, hgrow5, _⟩ := run_append_own (P := Try.prog) (w := (World.drew wx).alloc (.cells #[] 3)) wx.heap.size 24 24 3 i0 (.int .i64 0) 1 8 Try.underlying24 hi hz0 hz1 hz2 rfl (by decide) (.slice (some ⟨wx.heap.size, 0, none⟩) 0 0) 0 [] OWL.out ⟨tg, 0, none⟩ p tc2 (M4.iv (ts.take p)) (by simp [M4.iv, HTS.out]; try omega) N1.out (EG.iv_one _) (by unfold maxLen; omega) (by omega) (by simp)
                  have B5 : Below wx.heap.size wx w5 := BL.grown hgrow5 (by simp) (fun j hj => by simp [Value.ownBlock] at hj; omega)
                  refine MR.nowH (w' := w5) (i := 4) (some 82) v5 (by kernel_rfl) rfl rfl (MR.free rfl) (RA.app_run rfl (by simp [MR.ev, MR.size, hsz, e4, f4, e8, f8]) (by simp [MR.ev, MR.size, hsz, e4, f4, e8, f8]) hrun5) ⟨trivial, ?_⟩
                  obtain ⟨v6, w6, hrun6, hown6, hgrow6, _⟩ := run_append_own (P := Try.prog) (w := w5) wx.heap.size 24 24 3 i0 (.int .i64 0) 1 8 Try.underlying24 hi hz0 hz1 hz2 rfl (by decide) v5 (0 + p) ([] ++ M4.iv (ts.take p)) hown5 ⟨tg, p + 1, none⟩ (tl + 1 - (p + 1)) (tc2 - (p + 1)) (M4.iv (ts.drop (p + 1))) (by simp [M4.iv, HTS.out]; try omega) (N2.out w5 B5) (EG.iv_one _) (by unfold maxLen; omega) (by omega) B5.size
                  have B6 : Below wx.heap.size wx w6 := B5.grown hgrow6 B5.size (fun j hj => (World.ownsRow.lt hown5 j hj).1)
                  have e6 : 0 + p + (tl + 1 - (p + 1)) = tl := by omega
                  have R6 : w6.ownsRow wx.heap.size 3 1 v6 tl (M4.iv (JD.tak xs (k + 1))) := by
                    rw [HSU4.out, JD.erase_is, M4.iv, List.map_append]
                    rw [e6] at hown6
                    exact hown6
                  obtain ⟨a6, c6, rfl⟩ := JD.own_slice R6
                  refine MR.nowH (w' := w6) (i := 9) (some 87) (.slice a6 tl c6) (by kernel_rfl) rfl rfl (MR.free rfl) (RA.app_run rfl (by simp [MR.ev, MR.size, hsz, e4, f4, e8, f8]) (by simp [MR.ev, MR.size, hsz, e4, f4, e8, f8]) hrun6) ⟨trivial, ?_⟩
                  refine MR.takeH (i := 10) (some 4) (.slice a6 tl c6) rfl rfl (by kernel_rfl) (by kernel_rfl) (by kernel_rfl) nofun trivial (MR.free rfl) (fun wq hw => by simp [execOp, MR.ev, MR.size, hsz, e4, f4, e8, f8, go_sem]) ?_
                  exact wpAnyH_done (by kernel_rfl) ⟨rfl, v5, a6, c6, by simp [Act.put, Array.setIfInBounds_comm], JD.own_le R6 hbs1, hb1.trans (B6.mono hbs1)⟩ _
                · rintro aa w7 ⟨v5, a6, c6, rfl, HO7, hb7⟩
                  rw [HA.out]
                  simp only [Act.put, List.setIfInBounds_toArray, List.set_cons_succ, List.set_cons_zero]
                  clear HA hsz e4 f4 e8 f8
                  clear hc9 hlt9 hcp hp1 hp2 hp3 hp4 hp5 hp6 OWL N1 N2 HO1 HTS HSU4
                  go_wp2
                  go_roundw
                  case rel => exact ⟨k + 1, tl, a6, c6, now + (lz : Int) - (lp : Int), by go_num, by omega, rfl, rfl, A1, A2, HO7, hb7⟩
                  case measure => simp [intOf]; omega
      · obtain rfl : k = xs.length := by omega
        have hln : xs.length ≤ (JD.byD xs).length := by rw [HBL.out]; exact Nat.le_refl _
        have hND := JD.tak_nodup xs hln
        have htl := JD.tak_len xs hln
        rw [HTL.out] at htl
        have HFI : Hid (∀ os : List Int, os.Perm (JD.tak xs xs.length) → os.Pairwise (· ≤ ·) → JD.fewL xs = os) := fun os h1 h2 => by rw [HFL.out]; exact JD.sort_is h1.symm h2
        obtain ⟨t, ht⟩ : ∃ t, JD.tak xs xs.length = t := ⟨_, rfl⟩
        rw [ht] at HO HTL hND HFI
        clear ht hln HNW
        have HND : Hid _ := hND
        have HTI : Hid (M4.IntsAt wr ta t) := M5.own_ints HO.out
        have hBr : Below w.heap.size w wr := hBW.trans (hb.mono hWs)
        have hBs := hBr.size
        clear HO hb hND HBY
        obtain ⟨Wt, hWt⟩ : ∃ Wt, Wt = wr := ⟨_, rfl⟩
        subst hWt
        go_wp2
        go_loopw [11, 13, 91] (fun v _ iv wq => ∃ (j : Nat) (oa : Option Addr) (oc ol : Nat) (os : List Int), iv = .int .i64 j ∧ j ≤ tl ∧ v = .slice oa ol oc ∧ Hid (os.length = ol) ∧ Hid (os.Perm (t.take j)) ∧ Hid (os.Pairwise (· ≤ ·)) ∧ Hid (World.ownsRow wq Wt.heap.size 3 1 (.slice oa ol oc) ol (M4.iv os)) ∧ Below Wt.heap.size Wt wq) (fun _ _ iv _ => (tl - intOf iv).toNat)
        case atStart => exact ⟨0, none, 0, 0, [], rfl, by omega, rfl, (show Hid _ from rfl), (show Hid _ from List.Perm.refl _), (show Hid _ from List.Pairwise.nil), (show Hid _ from World.ownsRow_nil _ _ _ _), Below.refl _ _⟩
        case round =>
          obtain ⟨j, oa, oc, ol, os, rfl, hj, rfl, HOL, HPM, HSO, HO, hb⟩ := hrel
          have hbs2 := hb.size
          by_cases hlj : j < tl
          · have hlj2 : j < t.length := by rw [HTL.out]; exact hlj
            obtain ⟨b6, off6, hb6, hlt6, hc6⟩ := M4.IntsAt.at (HTI.out.below hb) hlj2
            have hol : ol ≤ 10 := by
              have := HPM.out.length_eq
              rw [HOL.out, List.length_take, HTL.out] at this
              omega
            have hni : t.getD j 0 ∉ os := fun hm => by
              have h1 := HPM.out.mem_iff.1 hm
              obtain ⟨i, hi, e⟩ := List.mem_take_iff_getElem.1 h1
              rw [JD.getD_at hlj2] at e
              exact List.pairwise_iff_getElem.1 (List.nodup_iff_pairwise_ne.1 HND.out) i j (by omega) hlj2 (by omega) e
            have PU : Hid (Calls Try.prog 35 #[.slice oa ol oc, .int .i64 (t.getD j 0)] _ fun e w' => ∃ a1 c1, e = .returned (.slice a1 (EG.putS os (t.getD j 0)).length c1) ∧ w'.ownsRow _ 3 1 (.slice a1 (EG.putS os (t.getD j 0)).length c1) (EG.putS os (t.getD j 0)).length (M4.iv (EG.putS os (t.getD j 0))) ∧ Below _ _ w') := l7Put_any Wt.heap.size (.slice oa ol oc) os (t.getD j 0) wr (by rw [HOL.out]; omega) hni (by rw [HOL.out]; exact HO.out)
            have P1 : Hid ((EG.putS os (t.getD j 0)).Perm (t.take (j + 1))) := by
              show List.Perm _ _
              rw [M4.take_snoc _ _ hlj2]
              exact (EG.putS_perm os _).trans (HPM.out.append (List.Perm.refl _))
            have P2 : Hid ((EG.putS os (t.getD j 0)).Pairwise (· ≤ ·)) := EG.putS_sorted os _ HSO.out
            clear HOL HPM HSO HO hni hlj2
            generalize EG.putS os (t.getD j 0) = os2 at *
            generalize t.getD j 0 = z at *
            subst hb6
            go_wp2_with fail
            refine Calls.mono PU.out ?_
            rintro e w5 ⟨a5, c5, rfl, o5, b5⟩
            have O5 : Hid (World.ownsRow w5 Wt.heap.size 3 1 (.slice a5 os2.length c5) os2.length (M4.iv os2)) := JD.own_le o5 hbs2
            have hb5 := hb.trans (b5.mono hbs2)
            clear PU o5 b5 hc6
            generalize hl5 : os2.length = ol2 at *
            have HL5 : Hid _ := hl5
            clear hl5
            go_wp2
            go_roundw
            case rel => exact ⟨j + 1, a5, c5, ol2, os2, by go_num, by omega, rfl, HL5, P1, P2, O5, hb5⟩
            case measure => simp [intOf]; omega
          · obtain rfl : j = tl := by omega
            have HF : Hid (JD.fewL xs = os) := HFI.out os (by have := HPM.out; rwa [List.take_of_length_le (by rw [HTL.out]; exact Nat.le_refl _)] at this) HSO.out
            clear HFI HPM HSO HTI
            go_wp2
            go_ret2
            refine ⟨oa, oc, by rw [HF.out, HOL.out]; rfl, ?_, hBr.trans (hb.mono hBs)⟩
            rw [HF.out, HOL.out]
            exact JD.own_le HO.out hBs
end Go.Proofs.Ytgenmljnhlcpcaa
