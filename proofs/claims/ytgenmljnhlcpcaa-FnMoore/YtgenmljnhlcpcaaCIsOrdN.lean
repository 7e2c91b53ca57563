import Derived.Test.YtgenmljnhlcpcaaRows
import Derived.Test.YtgenmljnhlcpcaaMJO
import Derived.Test.YtgenmljnhlcpcaaCCloneJ
import Derived.Test.YtgenmljnhlcpcaaCSort
import Derived.Test.YtgenmljnhlcpcaaCRiseI
import Derived.Test.YtgenmljnhlcpcaaCHasS
import Derived.Test.YtgenmljnhlcpcaaCJobsI
import Derived.Test.YtgenmljnhlcpcaaCJobsS
import Derived.Test.YtgenmljnhlcpcaaMJT
import Derived.WalkKit
import Derived.WalkSpells
import Derived.WalkLawsBesides
import Derived.Outline
/- IsJobOrder of the program and of the specification. -/
namespace Go.Proofs.Ytgenmljnhlcpcaa
open Go.RowKit
set_option linter.unusedSimpArgs false in
set_option maxHeartbeats 1600000 in
set_option maxRecDepth 100000 in
theorem implIsOrder_any (a : Option Addr) (ca g cb : Nat) (xs : List I2) (os : List Int) (w : World) (hn : xs.length ≤ 1048576) (hm : os.length ≤ 1048576) (hin : MI2.RowAt w a xs) (hos : M4.IntsAt w (some ⟨g, 0, none⟩) os) :
    Calls Try.prog 12 #[.slice a xs.length ca, .slice (some ⟨g, 0, none⟩) os.length cb] w fun e w' => e = .returned (.bool (JD.isO xs os)) ∧ Below w.heap.size w w' := by
  have GJ : Hid _ := implGoodJobs_any a ca xs w hn hin _ rfl
  have CL : Hid (∀ w1, Below w.heap.size w w1 → _) := fun w1 hb => cloneJ_any g os.length cb os w1 rfl hm (hos.below hb)
  have SO : Hid (∀ (w2 : World) (base g1 c1 : Nat), w2.ownsRow base 3 1 (.slice (some ⟨g1, 0, none⟩) os.length c1) os.length (M4.iv os) → _) := fun w2 base g1 c1 ho => sortsI base g1 c1 os w2 ho hm
  have RI : Hid (∀ (w3 : World) (base g1 c1 : Nat), w3.ownsRow base 3 1 (.slice (some ⟨g1, 0, none⟩) os.length c1) os.length (M4.iv (os.mergeSort fun x y => decide (x ≤ y))) → Calls Try.prog 33 #[.slice (some ⟨g1, 0, none⟩) os.length c1, .int .i64 ((xs.length : Int) - 1)] w3 fun e w' => e = .returned (.bool (JD.onceB xs.length os)) ∧ w3 = w') := fun w3 base g1 c1 ho => by
    have := areRising_any (some ⟨g1, 0, none⟩) c1 xs.length (os.mergeSort fun x y => decide (x ≤ y)) w3 hn (by rw [List.length_mergeSort]; exact hm) (M5.own_ints ho) _ (JD.rises_sort xs.length os)
    rw [List.length_mergeSort] at this
    exact this
  have HI : Hid (JD.isO xs os = (JD.okP xs && decide (os.length = xs.length) && JD.onceB xs.length os)) := rfl
  generalize JD.isO xs os = R at *
  generalize JD.okP xs = q at *
  generalize JD.onceB xs.length os = o at *
  clear hin hos
  go_enter Try.func12, Try.ntmps12
  go_wp2_with fail
  refine Calls.mono GJ.out ?_
  rintro e w1 ⟨rfl, hb⟩
  have C1 : Hid _ := CL.out w1 hb
  clear GJ CL
  cases q with
  | false =>
    have HR : Hid (R = false) := by show _ = _; rw [HI.out]; rfl
    clear HI C1 SO RI
    go_wp2
    go_ret
    exact ⟨retB7 HR.out.symm, hb⟩
  | true =>
    by_cases hl : os.length = xs.length
    · have HR : Hid (R = o) := by show _ = _; rw [HI.out, hl]; simp
      have hq : ((os.length : Int) != (xs.length : Int)) = false := by rw [hl]; simp
      have hq2 : (os.length != xs.length) = false := by rw [hl]; simp
      have HLL : Hid _ := hl
      clear HI hl
      go_wp2_with fail
      refine Calls.mono C1.out ?_
      rintro e w2 ⟨g1, c1, rfl, o2, b2⟩
      have hB2 := hb.trans (b2.mono hb.size)
      have S2 : Hid _ := SO.out w2 _ g1 c1 o2
      have HG : Hid (w1.heap.size ≤ g1) := (o2.lt g1 rfl).1
      clear C1 SO o2 b2
      go_wp2_with fail
      refine Calls.mono S2.out ?_
      rintro e w3 ⟨rfl, o3, gr3⟩
      have hB3 : Below w.heap.size w w3 := hB2.grown gr3 hB2.size (fun k hk => by cases hk; exact Nat.le_trans hb.size HG.out)
      have R3 : Hid _ := RI.out w3 _ g1 c1 o3
      clear S2 RI o3 gr3 hB2 hb HG
      go_wp2_with fail
      refine Calls.mono R3.out ?_
      rintro e w4 ⟨rfl, rfl⟩
      clear R3
      go_wp2
      go_ret
      exact ⟨retB7 HR.out.symm, hB3⟩
    · have HR : Hid (R = false) := by show _ = _; rw [HI.out, decide_eq_false hl]; rfl
      have hq : ((os.length : Int) != (xs.length : Int)) = true := by simp; omega
      have hq2 : (os.length != xs.length) = true := by simp; exact hl
      have HLL : Hid _ := hl
      clear HI C1 SO RI hl
      go_wp2
      go_ret
      exact ⟨retB7 HR.out.symm, hb⟩
set_option linter.unusedSimpArgs false in
set_option maxHeartbeats 1600000 in
set_option maxRecDepth 100000 in
theorem specIsOrder_any (a : Option Addr) (ca g cb : Nat) (xs : List I2) (os : List Int) (w : World) (hn : xs.length ≤ 1048576) (hm : os.length ≤ 1048576) (hcb : os.length ≤ cb) (hcm : cb ≤ maxLen) (hin : MI2.RowAt w a xs) (hos : M4.IntsAt w (some ⟨g, 0, none⟩) os) :
    Calls Try.prog 24 #[.slice a xs.length ca, .slice (some ⟨g, 0, none⟩) os.length cb] w fun e w' => e = .returned (.bool (JD.isO xs os)) ∧ Below w.heap.size w w' := by
  have GJ : Hid _ := specGoodJobs_any a ca xs w hn hin _ rfl
  have HOS : Hid (M4.IntsAt w (some ⟨g, 0, none⟩) os) := hos
  have HI : Hid (JD.isO xs os = (JD.okP xs && decide (os.length = xs.length) && JD.onceB xs.length os)) := rfl
  have hc63 : cb ≤ 9223372036854775807 := by unfold maxLen at hcm; omega
  generalize JD.isO xs os = R at *
  generalize JD.okP xs = q at *
  clear hin hos
  go_enter Try.func24, Try.ntmps24
  go_wp2_with fail
  refine Calls.mono GJ.out ?_
  rintro e w1 ⟨rfl, hb⟩
  clear GJ
  cases q with
  | false =>
    have HR : Hid (R = false) := by show _ = _; rw [HI.out]; rfl
    clear HI HOS
    go_wp2
    go_ret
    exact ⟨retB7 HR.out.symm, hb⟩
  | true =>
    by_cases hl : os.length = xs.length
    · have HR : Hid (R = JD.onceB xs.length os) := by show _ = _; rw [HI.out, hl]; simp
      have hq : ((os.length : Int) != (xs.length : Int)) = false := by rw [hl]; simp
      have hq2 : (os.length != xs.length) = false := by rw [hl]; simp
      clear HI hl
      replace HOS : Hid (M4.IntsAt w1 (some ⟨g, 0, none⟩) os) := M4.IntsAt.below HOS.out hb
      go_wp2
      go_loopw [5, 6, 19] (fun _ _ iv wr => ∃ k : Nat, iv = .int .i64 k ∧ k ≤ os.length ∧ Hid (JD.onceUp xs.length os k) ∧ w1 = wr) (fun _ _ iv _ => (os.length - intOf iv).toNat)
      case atStart => exact ⟨0, rfl, by omega, (show Hid _ from JD.onceUp_zero _ _), rfl⟩
      case round =>
        obtain ⟨k, rfl, hk, HU, rfl⟩ := hrel
        by_cases hlk : k < os.length
        · obtain ⟨b6, off6, hb6, hlt6, hc6⟩ := HOS.out.at hlk
          cases hb6
          rw [Nat.zero_add] at hc6
          have LH : Hid (Calls Try.prog 40 #[.slice (some ⟨g, 0, none⟩) k cb, .int .i64 (os.getD k 0)] w1 fun e w' => e = .returned (.bool (decide (os.getD k 0 ∈ os.take k))) ∧ w1 = w') := by
            have := l1Has_any (some ⟨g, 0, none⟩) cb (os.take k) (os.getD k 0) w1 (by rw [List.length_take]; omega) (by
              refine .inr ⟨g, 0, rfl, hlt6, fun j hj => ?_⟩
              rw [List.length_take] at hj
              obtain ⟨b7, off7, hb7, _, hc7⟩ := HOS.out.at (k := j) (by omega)
              cases hb7
              rw [hc7]
              congr 2
              simp only [List.getD_eq_getElem?_getD]
              rw [List.getElem?_take, if_pos (by omega)])
            rw [List.length_take, Nat.min_eq_left hk] at this
            exact this
          have HN : Hid _ := fun h => JD.onceB_no (n := xs.length) hlk h
          have HS : Hid _ := fun h0 h1 h2 => JD.onceUp_succ (k := k) HU.out h0 h1 h2
          obtain ⟨m, hmm⟩ : ∃ m, decide (os.getD k 0 ∈ os.take k) = m := ⟨_, rfl⟩
          have HM : Hid (decide (os.getD k 0 ∈ os.take k) = m) := hmm
          rw [hmm] at LH
          clear hmm
          generalize hy : os.getD k 0 = y at *
          clear hy
          clear HU HOS
          by_cases h0 : y < 0
          · have HF : Hid (R = false) := by show _ = _; rw [HR.out]; exact HN.out (fun h => by omega)
            clear HN HS HR HM LH
            have q1 : decide (y < 0) = true := by simp; omega
            go_wp2
            go_ret
            exact ⟨retB7 HF.out.symm, hb⟩
          · obtain ⟨z, rfl⟩ := Int.eq_ofNat_of_zero_le (show 0 ≤ y by omega)
            have q1 : decide ((z : Int) < 0) = false := by simp
            by_cases h1 : z < xs.length
            · have q2 : decide (xs.length ≤ z) = false := by simp; omega
              cases m with
              | true =>
                have HF : Hid (R = false) := by show _ = _; rw [HR.out]; exact HN.out (fun h => h.2.2 (by have := HM.out; rwa [decide_eq_true_eq] at this))
                clear HN HS HR HM
                go_wp2_with (go_at_call 40; refine Calls.mono LH.out ?_; rintro e w2 ⟨rfl, rfl⟩)
                go_ret
                exact ⟨retB7 HF.out.symm, hb⟩
              | false =>
                have HU : Hid (JD.onceUp xs.length os (k + 1)) := HS.out (by omega) (by omega) (by have := HM.out; rwa [decide_eq_false_iff_not] at this)
                clear HN HS HM
                go_wp2_with (go_at_call 40; refine Calls.mono LH.out ?_; rintro e w2 ⟨rfl, rfl⟩)
                go_roundw
                case rel => exact ⟨k + 1, by go_num, by omega, HU, trivial⟩
                case measure => simp [intOf]; omega
            · have q2 : decide (xs.length ≤ z) = true := by simp; omega
              have HF : Hid (R = false) := by show _ = _; rw [HR.out]; exact HN.out (fun h => by omega)
              clear HN HS HR HM LH
              go_wp2
              go_ret
              exact ⟨retB7 HF.out.symm, hb⟩
        · obtain rfl : k = os.length := by omega
          have HF : Hid (R = true) := by show _ = _; rw [HR.out]; exact JD.onceB_yes HU.out
          clear HOS HU HR
          go_wp2
          go_ret
          exact ⟨retB7 HF.out.symm, hb⟩
    · have HR : Hid (R = false) := by show _ = _; rw [HI.out, decide_eq_false hl]; rfl
      have hq : ((os.length : Int) != (xs.length : Int)) = true := by simp; omega
      have hq2 : (os.length != xs.length) = true := by simp; exact hl
      have HLL : Hid _ := hl
      clear HI HOS hl
      go_wp2
      go_ret
      exact ⟨retB7 HR.out.symm, hb⟩
end Go.Proofs.Ytgenmljnhlcpcaa

/- How late jobs are in an order: latenesses, LatenessOf, LateIn of the program, l12Late, LatenessOf, LateIn of the specification. -/
namespace Go.Proofs.Ytgenmljnhlcpcaa
open Go.RowKit
set_option linter.unusedSimpArgs false in
set_option maxHeartbeats 1600000 in
set_option maxRecDepth 100000 in
theorem latenesses_any (a b : Option Addr) (ca cb : Nat) (xs : List I2) (os : List Int) (w : World) (HO : Hid (JD.Ord xs os)) (hin : MI2.RowAt w a xs) (hos : M4.IntsAt w b os) :
    Calls Try.prog 23 #[.slice a xs.length ca, .slice b os.length cb] w fun e w' => ∃ a1 c1, e = .returned (.slice a1 os.length c1) ∧ w'.ownsRow w.heap.size 3 1 (.slice a1 os.length c1) os.length (M4.iv (JD.lts xs os os.length)) ∧ Below w.heap.size w w' := by
  obtain ⟨i0, hi, hz0, hz1, hz2⟩ := info_parts Try.info3
  have hsm := HO.out.small
  have HXI : Hid (MI2.RowAt w a xs) := hin
  have HOS : Hid (M4.IntsAt w b os) := hos
  have OW0 : Hid (World.ownsRow (w.alloc (.cells #[] 3)) w.heap.size 3 1 (.slice (some ⟨w.heap.size, 0, none⟩) 0 0) 0 (M4.iv (JD.lts xs os 0))) := by
    have := World.ownsRow_lit (base := w.heap.size) (e := 3) (size := 1) w #[] 0 (Nat.le_refl _) (by unfold maxLen; omega) (by simp)
    show World.ownsRow _ _ _ _ _ _ _
    simpa [M4.iv, JD.lts] using this
  clear hin hos
  go_enter Try.func23, Try.ntmps23
  go_wp2
  go_loopw [5, 6, 8, 12] (fun v ev _ iv wr => ∃ (k : Nat) (oa : Option Addr) (oc : Nat) (en : Int), iv = .int .i64 k ∧ k ≤ os.length ∧ v = .slice oa k oc ∧ ev = .int .i64 en ∧ Hid (JD.endK xs os k = en) ∧ Hid (World.ownsRow wr w.heap.size 3 1 (.slice oa k oc) k (M4.iv (JD.lts xs os k))) ∧ Below w.heap.size w wr) (fun _ _ _ iv _ => (os.length - intOf iv).toNat)
  case atStart => exact ⟨0, some ⟨w.heap.size, 0, none⟩, 0, 0, rfl, by omega, rfl, rfl, (show Hid _ from rfl), OW0, (Below.refl _ _).alloc (Nat.le_refl _) _⟩
  case round =>
    clear OW0
    obtain ⟨k, oa, oc, en, rfl, hk, rfl, rfl, HE, HR, hb⟩ := hrel
    have hbs := hb.size
    by_cases hlk : k < os.length
    · obtain ⟨b6, off6, rfl, hlt6, hc6⟩ := (HOS.out.below hb).at hlk
      obtain ⟨z, hz, hzx⟩ : ∃ z : Nat, os.getD k 0 = (z : Int) ∧ z < xs.length := by
        obtain ⟨h0, h1⟩ := HO.out.rng k hlk
        exact ⟨(os.getD k 0).toNat, by omega, by omega⟩
      obtain ⟨b8, off8, rfl, hlt8, hc8, hc9⟩ := (HXI.out.below hb).at hzx
      obtain ⟨j1, j2, j3, j4⟩ := HO.out.jl1 hlk
      obtain ⟨e1, e2⟩ := HO.out.endK_bd k hk
      have ejl : (MI2.at_ xs z).a0 = JD.jl xs os k := by unfold JD.jl; rw [hz, Int.toNat_natCast]
      have ejd : (MI2.at_ xs z).a1 = JD.jd xs os k := by unfold JD.jd; rw [hz, Int.toNat_natCast]
      rw [ejl] at hc8
      rw [ejd] at hc9
      rw [HE.out] at e1 e2
      have HE2 : Hid (JD.endK xs os (k + 1) = en + JD.jl xs os k) := by show _ = _; rw [JD.endK, HE.out]
      have HT : Hid (JD.lts xs os (k + 1) = JD.lts xs os k ++ [en + JD.jl xs os k - JD.jd xs os k]) := by show _ = _; rw [JD.lts_succ, JD.ltK, HE.out]
      rw [hz] at hc6
      clear hz ejl ejd
      generalize JD.jl xs os k = l at *
      generalize JD.jd xs os k = d at *
      have q1 : IntKind.i64.wrap (en + l) = en + l := by rw [IntKind.wrap_i64]; omega
      have q2 : IntKind.i64.wrap (en + l - d) = en + l - d := by rw [IntKind.wrap_i64]; omega
      go_wp2_with (at_builtin; refine wpList_append_own _ rfl _ _ 24 rfl w.heap.size 3 i0 (.int .i64 0) 1 8 Try.underlying24 hi hz0 hz1 hz2 rfl (by decide) _ _ _ rfl (World.ownsRow.alloc HR.out _) ⟨wr.heap.size, 0, none⟩ 1 1 [.int .i64 (en + l - d)] rfl rfl ?c1 ?c2 ?c3 ?c4 ?c5 ?_)
      all_goals try (first | rfl | omega | exact M2.new1 _ _ _ | exact M2.one1 _ _ | (unfold maxLen; omega) | (simp; omega))
      intro v' wn hown1 hgrow _
      have R1 : wn.ownsRow w.heap.size 3 1 v' (k + 1) (M4.iv (JD.lts xs os (k + 1))) := by
        rw [HT.out]; simpa [M4.iv] using hown1
      have R3 := (hb.alloc hbs _).grown hgrow (by simp; omega) (fun j hj => (HR.out.lt j hj).1)
      obtain ⟨a', c', rfl⟩ : ∃ a' c', v' = .slice a' (k + 1) c' := JD.own_slice R1
      have HR1 : Hid _ := R1
      clear hown1 hgrow HR R1
      go_wp2
      go_roundw
      case rel => exact ⟨k + 1, a', c', en + l, by go_num, by omega, rfl, rfl, HE2, HR1, R3⟩
      case measure => simp [intOf]; omega
    · obtain rfl : k = os.length := by omega
      clear HXI HOS HE
      go_wp2
      go_ret
      exact ⟨oa, oc, rfl, HR.out, hb⟩
set_option linter.unusedSimpArgs false in
set_option maxHeartbeats 1600000 in
set_option maxRecDepth 100000 in
theorem l12Late_any (a b : Option Addr) (ca cb : Nat) (xs : List I2) (os : List Int) (w : World) (HO : Hid (JD.Ord xs os)) (hin : MI2.RowAt w a xs) (hos : M4.IntsAt w b os) :
    Calls Try.prog 25 #[.slice a xs.length ca, .slice b os.length cb] w fun e w' => e = .returned (.tuple #[.int .i64 (JD.mxK xs os os.length), .int .i64 (JD.mnK xs os os.length : Int)]) ∧ w = w' := by
  have hsm := HO.out.small
  have HXI : Hid (MI2.RowAt w a xs) := hin
  have HOS : Hid (M4.IntsAt w b os) := hos
  clear hin hos
  go_enter Try.func25, Try.ntmps25
  go_wp2
  go_loopw [6, 7, 8, 10, 11, 14] (fun ev xv nv _ _ iv wr => ∃ (k : Nat) (en mx : Int) (mn : Nat), iv = .int .i64 k ∧ k ≤ os.length ∧ ev = .int .i64 en ∧ xv = .int .i64 mx ∧ nv = .int .i64 (mn : Int) ∧ Hid (JD.endK xs os k = en) ∧ Hid (JD.mxK xs os k = mx) ∧ Hid (JD.mnK xs os k = mn) ∧ w = wr) (fun _ _ _ _ _ iv _ => (os.length - intOf iv).toNat)
  case atStart => exact ⟨0, 0, 0, 0, rfl, by omega, rfl, rfl, rfl, (show Hid _ from rfl), (show Hid _ from rfl), (show Hid _ from rfl), rfl⟩
  case round =>
    obtain ⟨k, en, mx, mn, rfl, hk, rfl, rfl, rfl, HE, HX, HN, rfl⟩ := hrel
    by_cases hlk : k < os.length
    · obtain ⟨b6, off6, rfl, hlt6, hc6⟩ := HOS.out.at hlk
      obtain ⟨z, hz, hzx⟩ : ∃ z : Nat, os.getD k 0 = (z : Int) ∧ z < xs.length := by
        obtain ⟨h0, h1⟩ := HO.out.rng k hlk
        exact ⟨(os.getD k 0).toNat, by omega, by omega⟩
      obtain ⟨b8, off8, rfl, hlt8, hc8, hc9⟩ := HXI.out.at hzx
      obtain ⟨j1, j2, j3, j4⟩ := HO.out.jl1 hlk
      obtain ⟨e1, e2⟩ := HO.out.endK_bd k hk
      have hmn := JD.mnK_le xs os k
      have hmx := JD.mxK_pos xs os k
      rw [HN.out] at hmn
      rw [HX.out] at hmx
      have ejl : (MI2.at_ xs z).a0 = JD.jl xs os k := by unfold JD.jl; rw [hz, Int.toNat_natCast]
      have ejd : (MI2.at_ xs z).a1 = JD.jd xs os k := by unfold JD.jd; rw [hz, Int.toNat_natCast]
      rw [ejl] at hc8
      rw [ejd] at hc9
      rw [HE.out] at e1 e2
      have HE2 : Hid (JD.endK xs os (k + 1) = en + JD.jl xs os k) := by show _ = _; rw [JD.endK, HE.out]
      have HX2 : Hid (JD.mxK xs os (k + 1) = if mx < en + JD.jl xs os k - JD.jd xs os k then en + JD.jl xs os k - JD.jd xs os k else mx) := by show _ = _; rw [JD.mxK, JD.ltK, HE.out, HX.out]
      have HN2 : Hid (JD.mnK xs os (k + 1) = if 0 < en + JD.jl xs os k - JD.jd xs os k then mn + 1 else mn) := by show _ = _; rw [JD.mnK, JD.ltK, HE.out, HN.out]
      rw [hz] at hc6
      clear hz ejl ejd
      generalize JD.jl xs os k = l at *
      generalize JD.jd xs os k = d at *
      have q1 : IntKind.i64.wrap (en + l) = en + l := by rw [IntKind.wrap_i64]; omega
      have q2 : IntKind.i64.wrap (en + l - d) = en + l - d := by rw [IntKind.wrap_i64]; omega
      clear HE HX HN
      by_cases h0 : 0 < en + l - d
      · have r0 : decide (0 < en + l - d) = true := by simp; omega
        replace HN2 : Hid (JD.mnK xs os (k + 1) = mn + 1) := by show _ = _; rw [HN2.out, if_pos h0]
        by_cases h1 : mx < en + l - d
        · have r1 : decide (mx < en + l - d) = true := by simp; omega
          replace HX2 : Hid (JD.mxK xs os (k + 1) = en + l - d) := by show _ = _; rw [HX2.out, if_pos h1]
          go_wp2
          go_roundw
          case rel => exact ⟨k + 1, en + l, en + l - d, mn + 1, by go_num, by omega, rfl, rfl, rfl, HE2, HX2, HN2, trivial⟩
          case measure => simp [intOf]; omega
        · have r1 : decide (mx < en + l - d) = false := by simp; omega
          replace HX2 : Hid (JD.mxK xs os (k + 1) = mx) := by show _ = _; rw [HX2.out, if_neg h1]
          go_wp2
          go_roundw
          case rel => exact ⟨k + 1, en + l, mx, mn + 1, by go_num, by omega, rfl, rfl, rfl, HE2, HX2, HN2, trivial⟩
          case measure => simp [intOf]; omega
      · have r0 : decide (0 < en + l - d) = false := by simp; omega
        replace HN2 : Hid (JD.mnK xs os (k + 1) = mn) := by show _ = _; rw [HN2.out, if_neg h0]
        replace HX2 : Hid (JD.mxK xs os (k + 1) = mx) := by show _ = _; rw [HX2.out, if_neg (by omega)]
        go_wp2
        go_roundw
        case rel => exact ⟨k + 1, en + l, mx, mn, by go_num, by omega, rfl, rfl, rfl, HE2, HX2, HN2, trivial⟩
        case measure => simp [intOf]; omega
    · obtain rfl : k = os.length := by omega
      clear HXI HOS HE
      go_wp2
      go_ret2
      exact ⟨by rw [HX.out, HN.out]; rfl, rfl⟩
set_option linter.unusedSimpArgs false in
set_option maxHeartbeats 1600000 in
set_option maxRecDepth 100000 in
theorem specLatenessOfG_any (a b : Option Addr) (ca cb : Nat) (xs : List I2) (os : List Int) (w : World) (io : Calls Try.prog 24 #[.slice a xs.length ca, .slice b os.length cb] w fun e w' => e = .returned (.bool (JD.isO xs os)) ∧ Below w.heap.size w w') (hin : MI2.RowAt w a xs) (hos : M4.IntsAt w b os) :
    Calls Try.prog 7 #[.slice a xs.length ca, .slice b os.length cb] w fun e w' => e = .returned (.tuple #[.int .i64 (JD.mxA xs os), .bool (JD.isO xs os)]) ∧ Below w.heap.size w w' := by
  have IO : Hid _ := io
  have LL : Hid (JD.isO xs os = true → ∀ w1, Below w.heap.size w w1 → Calls Try.prog 25 #[.slice a xs.length ca, .slice b os.length cb] w1 fun e w' => e = .returned (.tuple #[.int .i64 (JD.mxK xs os os.length), .int .i64 (JD.mnK xs os os.length : Int)]) ∧ w1 = w') := fun h w1 hb => l12Late_any a b ca cb xs os w1 (JD.Ord.of h) (hin.below hb) (hos.below hb)
  have HA : Hid (JD.mxA xs os = if JD.isO xs os = true then JD.mxK xs os os.length else 0) := rfl
  generalize JD.mxA xs os = A at *
  generalize JD.mxK xs os os.length = mx at *
  generalize JD.mnK xs os os.length = mn at *
  generalize JD.isO xs os = q at *
  clear hin hos io
  go_enter Try.func7, Try.ntmps7
  go_wp2_with fail
  refine Calls.mono IO.out ?_
  rintro e w1 ⟨rfl, hb⟩
  clear IO
  cases q with
  | false =>
    have HA2 : Hid (A = 0) := by show _ = _; rw [HA.out]; rfl
    clear HA LL
    go_wp2
    go_ret2
    exact ⟨by rw [HA2.out]; rfl, hb⟩
  | true =>
    have HA2 : Hid (A = mx) := by show _ = _; rw [HA.out]; rfl
    have L2 : Hid _ := LL.out rfl w1 hb
    clear HA LL
    go_wp2_with fail
    refine Calls.mono L2.out ?_
    rintro e w2 ⟨rfl, rfl⟩
    clear L2
    go_wp2
    go_ret2
    exact ⟨by rw [HA2.out]; rfl, hb⟩
theorem specLatenessOf_any (a : Option Addr) (ca g cb : Nat) (xs : List I2) (os : List Int) (w : World) (hn : xs.length ≤ 1048576) (hm : os.length ≤ 1048576) (hcb : os.length ≤ cb) (hcm : cb ≤ maxLen) (hin : MI2.RowAt w a xs) (hos : M4.IntsAt w (some ⟨g, 0, none⟩) os) :
    Calls Try.prog 7 #[.slice a xs.length ca, .slice (some ⟨g, 0, none⟩) os.length cb] w fun e w' => e = .returned (.tuple #[.int .i64 (JD.mxA xs os), .bool (JD.isO xs os)]) ∧ Below w.heap.size w w' :=
  specLatenessOfG_any a (some ⟨g, 0, none⟩) ca cb xs os w (specIsOrder_any a ca g cb xs os w hn hm hcb hcm hin hos) hin hos
set_option linter.unusedSimpArgs false in
set_option maxHeartbeats 1600000 in
set_option maxRecDepth 100000 in
theorem specLateInG_any (a b : Option Addr) (ca cb : Nat) (xs : List I2) (os : List Int) (w : World) (io : Calls Try.prog 24 #[.slice a xs.length ca, .slice b os.length cb] w fun e w' => e = .returned (.bool (JD.isO xs os)) ∧ Below w.heap.size w w') (hin : MI2.RowAt w a xs) (hos : M4.IntsAt w b os) :
    Calls Try.prog 15 #[.slice a xs.length ca, .slice b os.length cb] w fun e w' => e = .returned (.tuple #[.int .i64 (JD.mnA xs os), .bool (JD.isO xs os)]) ∧ Below w.heap.size w w' := by
  have IO : Hid _ := io
  have LL : Hid (JD.isO xs os = true → ∀ w1, Below w.heap.size w w1 → Calls Try.prog 25 #[.slice a xs.length ca, .slice b os.length cb] w1 fun e w' => e = .returned (.tuple #[.int .i64 (JD.mxK xs os os.length), .int .i64 (JD.mnK xs os os.length : Int)]) ∧ w1 = w') := fun h w1 hb => l12Late_any a b ca cb xs os w1 (JD.Ord.of h) (hin.below hb) (hos.below hb)
  have HA : Hid (JD.mnA xs os = if JD.isO xs os = true then (JD.mnK xs os os.length : Int) else 0) := rfl
  generalize JD.mnA xs os = A at *
  generalize JD.mxK xs os os.length = mx at *
  generalize JD.mnK xs os os.length = mn at *
  generalize JD.isO xs os = q at *
  clear hin hos io
  go_enter Try.func15, Try.ntmps15
  go_wp2_with fail
  refine Calls.mono IO.out ?_
  rintro e w1 ⟨rfl, hb⟩
  clear IO
  cases q with
  | false =>
    have HA2 : Hid (A = 0) := by show _ = _; rw [HA.out]; rfl
    clear HA LL
    go_wp2
    go_ret2
    exact ⟨by rw [HA2.out]; rfl, hb⟩
  | true =>
    have HA2 : Hid (A = (mn : Int)) := by show _ = _; rw [HA.out]; rfl
    have L2 : Hid _ := LL.out rfl w1 hb
    clear HA LL
    go_wp2_with fail
    refine Calls.mono L2.out ?_
    rintro e w2 ⟨rfl, rfl⟩
    clear L2
    go_wp2
    go_ret2
    exact ⟨by rw [HA2.out]; rfl, hb⟩
theorem specLateIn_any (a : Option Addr) (ca g cb : Nat) (xs : List I2) (os : List Int) (w : World) (hn : xs.length ≤ 1048576) (hm : os.length ≤ 1048576) (hcb : os.length ≤ cb) (hcm : cb ≤ maxLen) (hin : MI2.RowAt w a xs) (hos : M4.IntsAt w (some ⟨g, 0, none⟩) os) :
    Calls Try.prog 15 #[.slice a xs.length ca, .slice (some ⟨g, 0, none⟩) os.length cb] w fun e w' => e = .returned (.tuple #[.int .i64 (JD.mnA xs os), .bool (JD.isO xs os)]) ∧ Below w.heap.size w w' :=
  specLateInG_any a (some ⟨g, 0, none⟩) ca cb xs os w (specIsOrder_any a ca g cb xs os w hn hm hcb hcm hin hos) hin hos
set_option linter.unusedSimpArgs false in
set_option maxHeartbeats 1600000 in
set_option maxRecDepth 100000 in
theorem implLatenessOfG_any (a b : Option Addr) (ca cb : Nat) (xs : List I2) (os : List Int) (w : World) (hm : os.length ≤ 1048576) (io : Calls Try.prog 12 #[.slice a xs.length ca, .slice b os.length cb] w fun e w' => e = .returned (.bool (JD.isO xs os)) ∧ Below w.heap.size w w') (hin : MI2.RowAt w a xs) (hos : M4.IntsAt w b os) :
    Calls Try.prog 6 #[.slice a xs.length ca, .slice b os.length cb] w fun e w' => e = .returned (.tuple #[.int .i64 (JD.mxA xs os), .bool (JD.isO xs os)]) ∧ Below w.heap.size w w' := by
  have IO : Hid _ := io
  have LL : Hid (JD.isO xs os = true → ∀ w1, Below w.heap.size w w1 → Calls Try.prog 23 #[.slice a xs.length ca, .slice b os.length cb] w1 fun e w' => ∃ a1 c1, e = .returned (.slice a1 os.length c1) ∧ w'.ownsRow w1.heap.size 3 1 (.slice a1 os.length c1) os.length (M4.iv (JD.lts xs os os.length)) ∧ Below w1.heap.size w1 w') := fun h w1 hb => latenesses_any a b ca cb xs os w1 (JD.Ord.of h) (hin.below hb) (hos.below hb)
  have HA : Hid (JD.mxA xs os = if JD.isO xs os = true then JD.mxK xs os os.length else 0) := rfl
  generalize JD.mxA xs os = A at *
  generalize JD.isO xs os = q at *
  clear hin hos io
  go_enter Try.func6, Try.ntmps6
  go_wp2_with fail
  refine Calls.mono IO.out ?_
  rintro e w1 ⟨rfl, hb⟩
  clear IO
  cases q with
  | false =>
    have HA2 : Hid (A = 0) := by show _ = _; rw [HA.out]; rfl
    clear HA LL
    go_wp2
    go_ret2
    exact ⟨by rw [HA2.out]; rfl, hb⟩
  | true =>
    have HA2 : Hid (A = JD.mxK xs os os.length) := by show _ = _; rw [HA.out]; rfl
    have L2 : Hid _ := LL.out rfl w1 hb
    clear HA LL
    go_wp2_with fail
    refine Calls.mono L2.out ?_
    rintro e w2 ⟨a1, c1, rfl, o2, b2⟩
    have hB2 := hb.trans (b2.mono hb.size)
    have HLT : Hid (M4.IntsAt w2 a1 (JD.lts xs os os.length)) := M5.own_ints o2
    clear L2 o2 b2 hb
    go_wp2
    go_loopw [6, 8, 17] (fun xv _ iv wr => ∃ (k : Nat) (mx : Int), iv = .int .i64 k ∧ k ≤ os.length ∧ xv = .int .i64 mx ∧ Hid (JD.mxK xs os k = mx) ∧ w2 = wr) (fun _ _ iv _ => (os.length - intOf iv).toNat)
    case atStart => exact ⟨0, 0, rfl, by omega, rfl, (show Hid _ from rfl), rfl⟩
    case round =>
      obtain ⟨k, mx, rfl, hk, rfl, HX, rfl⟩ := hrel
      by_cases hlk : k < os.length
      · obtain ⟨b6, off6, rfl, hlt6, hc6⟩ := HLT.out.at (k := k) (by rw [JD.lts_len]; exact hlk)
        rw [JD.lts_at xs os hlk] at hc6
        have HX2 : Hid (JD.mxK xs os (k + 1) = if mx < JD.ltK xs os k then JD.ltK xs os k else mx) := by show _ = _; rw [JD.mxK, HX.out]
        clear HX HLT
        generalize JD.ltK xs os k = lt at *
        by_cases h1 : mx < lt
        · replace HX2 : Hid (JD.mxK xs os (k + 1) = lt) := by show _ = _; rw [HX2.out, if_pos h1]
          have r1 : max mx lt = lt := by omega
          go_wp2
          go_roundw
          case rel => exact ⟨k + 1, lt, by go_num, by omega, rfl, HX2, trivial⟩
          case measure => simp [intOf]; omega
        · replace HX2 : Hid (JD.mxK xs os (k + 1) = mx) := by show _ = _; rw [HX2.out, if_neg h1]
          have r1 : max mx lt = mx := by omega
          go_wp2
          go_roundw
          case rel => exact ⟨k + 1, mx, by go_num, by omega, rfl, HX2, trivial⟩
          case measure => simp [intOf]; omega
      · obtain rfl : k = os.length := by omega
        clear HLT
        go_wp2
        go_ret2
        exact ⟨by rw [HA2.out, HX.out]; rfl, hB2⟩
theorem implLatenessOf_any (a : Option Addr) (ca g cb : Nat) (xs : List I2) (os : List Int) (w : World) (hn : xs.length ≤ 1048576) (hm : os.length ≤ 1048576) (hin : MI2.RowAt w a xs) (hos : M4.IntsAt w (some ⟨g, 0, none⟩) os) :
    Calls Try.prog 6 #[.slice a xs.length ca, .slice (some ⟨g, 0, none⟩) os.length cb] w fun e w' => e = .returned (.tuple #[.int .i64 (JD.mxA xs os), .bool (JD.isO xs os)]) ∧ Below w.heap.size w w' :=
  implLatenessOfG_any a (some ⟨g, 0, none⟩) ca cb xs os w hm (implIsOrder_any a ca g cb xs os w hn hm hin hos) hin hos
set_option linter.unusedSimpArgs false in
set_option maxHeartbeats 1600000 in
set_option maxRecDepth 100000 in
theorem implLateInG_any (a b : Option Addr) (ca cb : Nat) (xs : List I2) (os : List Int) (w : World) (hm : os.length ≤ 1048576) (io : Calls Try.prog 12 #[.slice a xs.length ca, .slice b os.length cb] w fun e w' => e = .returned (.bool (JD.isO xs os)) ∧ Below w.heap.size w w') (hin : MI2.RowAt w a xs) (hos : M4.IntsAt w b os) :
    Calls Try.prog 14 #[.slice a xs.length ca, .slice b os.length cb] w fun e w' => e = .returned (.tuple #[.int .i64 (JD.mnA xs os), .bool (JD.isO xs os)]) ∧ Below w.heap.size w w' := by
  have IO : Hid _ := io
  have LL : Hid (JD.isO xs os = true → ∀ w1, Below w.heap.size w w1 → Calls Try.prog 23 #[.slice a xs.length ca, .slice b os.length cb] w1 fun e w' => ∃ a1 c1, e = .returned (.slice a1 os.length c1) ∧ w'.ownsRow w1.heap.size 3 1 (.slice a1 os.length c1) os.length (M4.iv (JD.lts xs os os.length)) ∧ Below w1.heap.size w1 w') := fun h w1 hb => latenesses_any a b ca cb xs os w1 (JD.Ord.of h) (hin.below hb) (hos.below hb)
  have HA : Hid (JD.mnA xs os = if JD.isO xs os = true then (JD.mnK xs os os.length : Int) else 0) := rfl
  generalize JD.mnA xs os = A at *
  generalize JD.isO xs os = q at *
  clear hin hos io
  go_enter Try.func14, Try.ntmps14
  go_wp2_with fail
  refine Calls.mono IO.out ?_
  rintro e w1 ⟨rfl, hb⟩
  clear IO
  cases q with
  | false =>
    have HA2 : Hid (A = 0) := by show _ = _; rw [HA.out]; rfl
    clear HA LL
    go_wp2
    go_ret2
    exact ⟨by rw [HA2.out]; rfl, hb⟩
  | true =>
    have HA2 : Hid (A = (JD.mnK xs os os.length : Int)) := by show _ = _; rw [HA.out]; rfl
    have L2 : Hid _ := LL.out rfl w1 hb
    clear HA LL
    go_wp2_with fail
    refine Calls.mono L2.out ?_
    rintro e w2 ⟨a1, c1, rfl, o2, b2⟩
    have hB2 := hb.trans (b2.mono hb.size)
    have HLT : Hid (M4.IntsAt w2 a1 (JD.lts xs os os.length)) := M5.own_ints o2
    clear L2 o2 b2 hb
    go_wp2
    go_loopw [6, 8, 17] (fun xv _ iv wr => ∃ (k mn : Nat), iv = .int .i64 k ∧ k ≤ os.length ∧ xv = .int .i64 (mn : Int) ∧ Hid (JD.mnK xs os k = mn) ∧ w2 = wr) (fun _ _ iv _ => (os.length - intOf iv).toNat)
    case atStart => exact ⟨0, 0, rfl, by omega, rfl, (show Hid _ from rfl), rfl⟩
    case round =>
      obtain ⟨k, mn, rfl, hk, rfl, HX, rfl⟩ := hrel
      by_cases hlk : k < os.length
      · obtain ⟨b6, off6, rfl, hlt6, hc6⟩ := HLT.out.at (k := k) (by rw [JD.lts_len]; exact hlk)
        rw [JD.lts_at xs os hlk] at hc6
        have HX2 : Hid (JD.mnK xs os (k + 1) = if 0 < JD.ltK xs os k then mn + 1 else mn) := by show _ = _; rw [JD.mnK, HX.out]
        have hmn := JD.mnK_le xs os k
        rw [HX.out] at hmn
        clear HX HLT
        generalize JD.ltK xs os k = lt at *
        by_cases h1 : 0 < lt
        · replace HX2 : Hid (JD.mnK xs os (k + 1) = mn + 1) := by show _ = _; rw [HX2.out, if_pos h1]
          have r1 : decide (0 < lt) = true := by simp; omega
          go_wp2
          go_roundw
          case rel => exact ⟨k + 1, mn + 1, by go_num, by omega, rfl, HX2, trivial⟩
          case measure => simp [intOf]; omega
        · replace HX2 : Hid (JD.mnK xs os (k + 1) = mn) := by show _ = _; rw [HX2.out, if_neg h1]
          have r1 : decide (0 < lt) = false := by simp; omega
          go_wp2
          go_roundw
          case rel => exact ⟨k + 1, mn, by go_num, by omega, rfl, HX2, trivial⟩
          case measure => simp [intOf]; omega
      · obtain rfl : k = os.length := by omega
        clear HLT
        go_wp2
        go_ret2
        exact ⟨by rw [HA2.out, HX.out]; rfl, hB2⟩
theorem implLateIn_any (a : Option Addr) (ca g cb : Nat) (xs : List I2) (os : List Int) (w : World) (hn : xs.length ≤ 1048576) (hm : os.length ≤ 1048576) (hin : MI2.RowAt w a xs) (hos : M4.IntsAt w (some ⟨g, 0, none⟩) os) :
    Calls Try.prog 14 #[.slice a xs.length ca, .slice (some ⟨g, 0, none⟩) os.length cb] w fun e w' => e = .returned (.tuple #[.int .i64 (JD.mnA xs os), .bool (JD.isO xs os)]) ∧ Below w.heap.size w w' :=
  implLateInG_any a (some ⟨g, 0, none⟩) ca cb xs os w hm (implIsOrder_any a ca g cb xs os w hn hm hin hos) hin hos
end Go.Proofs.Ytgenmljnhlcpcaa

/- slices.Sort of no numbers at all. -/
namespace Go.Proofs.Ytgenmljnhlcpcaa
open Go.RowKit
set_option maxHeartbeats 1600000 in
set_option maxRecDepth 100000 in
theorem len64_0 (w : World) : Calls Try.prog 72 #[.int .u64 0] w fun e w' => (∃ z : Int, e = .returned (.int .i64 z)) ∧ w = w' := by
  go_enter Try.func72, Try.ntmps72
  go_wp2
  go_ret
  exact ⟨⟨_, rfl⟩, rfl⟩
set_option maxHeartbeats 1600000 in
set_option maxRecDepth 100000 in
theorem len_0 (w : World) : Calls Try.prog 49 #[.int .u64 0] w fun e w' => (∃ z : Int, e = .returned (.int .i64 z)) ∧ w = w' := by
  go_enter Try.func49, Try.ntmps49
  go_wp2_with fail
  refine (len64_0 w).mono ?_
  rintro e w1 ⟨⟨z, rfl⟩, rfl⟩
  go_wp2
  go_ret
  exact ⟨⟨z, rfl⟩, rfl⟩
set_option maxHeartbeats 1600000 in
set_option maxRecDepth 100000 in
theorem ins_0 (a : Option Addr) (c : Nat) (w : World) : Calls Try.prog 62 #[.slice a 0 c, .int .i64 0, .int .i64 0] w fun e w' => e = .returned (.tuple #[]) ∧ w = w' := by
  go_enter Try.func62, Try.ntmps62
  go_wp2
  refine wp_loop_rounds 1 ?_
  rw [rounds_succ]
  go_wp2
  go_end0
  exact ⟨rfl, rfl⟩
set_option maxHeartbeats 1600000 in
set_option maxRecDepth 100000 in
theorem pdq_0 (a : Option Addr) (c : Nat) (z : Int) (w : World) : Calls Try.prog 48 #[.slice a 0 c, .int .i64 0, .int .i64 0, .int .i64 z] w fun e w' => e = .returned (.tuple #[]) ∧ w = w' := by
  go_enter Try.func48, Try.ntmps48
  go_wp2_with fail
  refine wp_loop_rounds 1 ?_
  rw [rounds_succ]
  go_wp2_with fail
  refine (ins_0 a c w).mono ?_
  rintro e w1 ⟨rfl, rfl⟩
  go_wp2
  exact bodyPost_ret (v := .tuple #[]) (by simp [results, Try.results48, go_sem]) rfl ⟨rfl, rfl⟩
set_option maxHeartbeats 1600000 in
set_option maxRecDepth 100000 in
theorem sortI_0 (a : Option Addr) (c : Nat) (w : World) : Calls Try.prog 32 #[.slice a 0 c] w fun e w' => e = .returned (.tuple #[]) ∧ w = w' := by
  go_enter Try.func32, Try.ntmps32
  go_wp2_with fail
  refine (len_0 w).mono ?_
  rintro e w1 ⟨⟨z, rfl⟩, rfl⟩
  go_wp2_with fail
  refine (pdq_0 a c z w).mono ?_
  rintro e w1 ⟨rfl, rfl⟩
  go_wp2
  go_end0
  exact ⟨rfl, rfl⟩
end Go.Proofs.Ytgenmljnhlcpcaa

/- IsJobOrder, LatenessOf, LateIn of both at whatever row of numbers the call owns, or none. -/
namespace Go.Proofs.Ytgenmljnhlcpcaa
open Go.RowKit
set_option maxRecDepth 100000 in
theorem cloneJN_any (w : World) : Calls Try.prog 31 #[.slice none 0 0] w fun e w' => e = .returned (.slice none 0 0) ∧ w = w' := by
  have hE : ∀ W, Sem.run Try.prog (binOp BinOp.eql 24 (.slice none 0 0) (.slice none 0 0)) W = .ok (.bool true) W := fun W => rfl
  go_enter Try.func31, Try.ntmps31
  go_wp2
  go_ret
  exact ⟨rfl, rfl⟩
set_option linter.unusedSimpArgs false in
set_option maxHeartbeats 1600000 in
set_option maxRecDepth 100000 in
theorem implIsOrder_nil (a : Option Addr) (ca : Nat) (xs : List I2) (w : World) (hn : xs.length ≤ 1048576) (hin : MI2.RowAt w a xs) :
    Calls Try.prog 12 #[.slice a xs.length ca, .slice none 0 0] w fun e w' => e = .returned (.bool (JD.isO xs [])) ∧ Below w.heap.size w w' := by
  have GJ : Hid _ := implGoodJobs_any a ca xs w hn hin _ rfl
  have RI : Hid (∀ w3 : World, Calls Try.prog 33 #[.slice none 0 0, .int .i64 ((xs.length : Int) - 1)] w3 fun e w' => e = .returned (.bool true) ∧ w3 = w') := fun w3 => areRising_any none 0 xs.length [] w3 hn (by simp) (.inl rfl) true (EG.rises_yes (fun i hi => by simp at hi))
  have HI : Hid (JD.isO xs [] = (JD.okP xs && decide (0 = xs.length) && true)) := by
    show _ = _
    rw [JD.isO]
    congr 1
  generalize JD.isO xs [] = R at *
  generalize JD.okP xs = q at *
  clear hin
  go_enter Try.func12, Try.ntmps12
  go_wp2_with fail
  refine Calls.mono GJ.out ?_
  rintro e w1 ⟨rfl, hb⟩
  clear GJ
  cases q with
  | false =>
    have HR : Hid (R = false) := by show _ = _; rw [HI.out]; rfl
    clear HI RI
    go_wp2
    go_ret
    exact ⟨retB7 HR.out.symm, hb⟩
  | true =>
    by_cases hl : xs.length = 0
    · have HR : Hid (R = true) := by show _ = _; rw [HI.out, hl]; rfl
      have HLL : Hid _ := hl
      rw [hl] at RI ⊢
      clear HI hl
      go_wp2_with fail
      refine (cloneJN_any _).mono ?_
      rintro e w2 ⟨rfl, rfl⟩
      go_wp2_with fail
      refine (sortI_0 _ _ _).mono ?_
      rintro e w2 ⟨rfl, rfl⟩
      go_wp2_with fail
      refine Calls.mono (RI.out _) ?_
      rintro e w2 ⟨rfl, rfl⟩
      clear RI
      go_wp2
      go_ret
      exact ⟨retB7 HR.out.symm, hb⟩
    · have HR : Hid (R = false) := by show _ = _; rw [HI.out, decide_eq_false (by omega)]; rfl
      have hq : ((0 : Int) != (xs.length : Int)) = true := by simp; omega
      have hq2 : (0 != xs.length) = true := by simp; omega
      have hq3 : (xs.length == 0) = false := by simp; exact List.ne_nil_of_length_pos (by omega)
      have HLL : Hid _ := hl
      clear HI RI hl
      go_wp2
      go_ret
      exact ⟨retB7 HR.out.symm, hb⟩
set_option linter.unusedSimpArgs false in
set_option maxHeartbeats 1600000 in
set_option maxRecDepth 100000 in
theorem specIsOrder_nil (a : Option Addr) (ca : Nat) (xs : List I2) (w : World) (hn : xs.length ≤ 1048576) (hin : MI2.RowAt w a xs) :
    Calls Try.prog 24 #[.slice a xs.length ca, .slice none 0 0] w fun e w' => e = .returned (.bool (JD.isO xs [])) ∧ Below w.heap.size w w' := by
  have GJ : Hid _ := specGoodJobs_any a ca xs w hn hin _ rfl
  have HI : Hid (JD.isO xs [] = (JD.okP xs && decide (0 = xs.length) && true)) := by
    show _ = _
    rw [JD.isO]
    congr 1
  generalize JD.isO xs [] = R at *
  generalize JD.okP xs = q at *
  clear hin
  go_enter Try.func24, Try.ntmps24
  go_wp2_with fail
  refine Calls.mono GJ.out ?_
  rintro e w1 ⟨rfl, hb⟩
  clear GJ
  cases q with
  | false =>
    have HR : Hid (R = false) := by show _ = _; rw [HI.out]; rfl
    clear HI
    go_wp2
    go_ret
    exact ⟨retB7 HR.out.symm, hb⟩
  | true =>
    by_cases hl : xs.length = 0
    · have HR : Hid (R = true) := by show _ = _; rw [HI.out, hl]; rfl
      have HLL : Hid _ := hl
      rw [hl]
      clear HI hl
      go_wp2
      refine wp_loop_rounds 1 ?_
      rw [rounds_succ]
      go_wp2
      go_ret
      exact ⟨retB7 HR.out.symm, hb⟩
    · have HR : Hid (R = false) := by show _ = _; rw [HI.out, decide_eq_false (by omega)]; rfl
      have hq : ((0 : Int) != (xs.length : Int)) = true := by simp; omega
      have hq2 : (0 != xs.length) = true := by simp; omega
      have HLL : Hid _ := hl
      clear HI hl
      go_wp2
      go_ret
      exact ⟨retB7 HR.out.symm, hb⟩
theorem implIsOrder_own (a b : Option Addr) (ca cb base : Nat) (xs : List I2) (os : List Int) (w : World) (hn : xs.length ≤ 1048576) (hm : os.length ≤ 1048576) (hin : MI2.RowAt w a xs) (ho : w.ownsRow base 3 1 (.slice b os.length cb) os.length (M4.iv os)) :
    Calls Try.prog 12 #[.slice a xs.length ca, .slice b os.length cb] w fun e w' => e = .returned (.bool (JD.isO xs os)) ∧ Below w.heap.size w w' := by
  rcases ho.2 with ⟨hv, h0⟩ | ⟨g, cap, cur, hv, _⟩
  · simp only [Value.slice.injEq] at hv
    obtain ⟨rfl, -, rfl⟩ := hv
    obtain rfl := List.eq_nil_of_length_eq_zero h0
    exact implIsOrder_nil a ca xs w hn hin
  · simp only [Value.slice.injEq] at hv
    obtain ⟨rfl, -, rfl⟩ := hv
    exact implIsOrder_any a ca g cb xs os w hn hm hin (M4.IntsAt.of_own ho)
theorem specIsOrder_own (a b : Option Addr) (ca cb base : Nat) (xs : List I2) (os : List Int) (w : World) (hn : xs.length ≤ 1048576) (hm : os.length ≤ 1048576) (hin : MI2.RowAt w a xs) (ho : w.ownsRow base 3 1 (.slice b os.length cb) os.length (M4.iv os)) :
    Calls Try.prog 24 #[.slice a xs.length ca, .slice b os.length cb] w fun e w' => e = .returned (.bool (JD.isO xs os)) ∧ Below w.heap.size w w' := by
  rcases ho.2 with ⟨hv, h0⟩ | ⟨g, cap, cur, hv, _⟩
  · simp only [Value.slice.injEq] at hv
    obtain ⟨rfl, -, rfl⟩ := hv
    obtain rfl := List.eq_nil_of_length_eq_zero h0
    exact specIsOrder_nil a ca xs w hn hin
  · simp only [Value.slice.injEq] at hv
    obtain ⟨rfl, -, rfl⟩ := hv
    obtain ⟨h1, h2⟩ := JD.own_cap ho
    exact specIsOrder_any a ca g cb xs os w hn hm h1 h2 hin (M4.IntsAt.of_own ho)
end Go.Proofs.Ytgenmljnhlcpcaa
