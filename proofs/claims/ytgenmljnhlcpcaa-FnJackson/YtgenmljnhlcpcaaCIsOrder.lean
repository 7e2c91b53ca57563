/- IsJobOrder of the program and of the specification. -/
import Derived.Test.YtgenmljnhlcpcaaRows
import Derived.Test.YtgenmljnhlcpcaaMJO
import Derived.Test.YtgenmljnhlcpcaaCCloneJ
import Derived.Test.YtgenmljnhlcpcaaCSort
import Derived.Test.YtgenmljnhlcpcaaCRiseI
import Derived.Test.YtgenmljnhlcpcaaCHasS
import Derived.Test.YtgenmljnhlcpcaaCJobsI
import Derived.Test.YtgenmljnhlcpcaaCJobsS
import Derived.Test.YtgenmljnhlcpcaaMJT
namespace Go.Proofs.Ytgenmljnhlcpcaa
open Go.RowKit
set_option linter.unusedSimpArgs false in
set_option maxHeartbeats 1600000 in
set_option maxRecDepth 100000 in
theorem implIsOrder_any (a : Option Addr) (ca g cb : Nat) (xs : List I2) (os : List Int) (w : World) (hn : xs.length ≤ 1048576) (hm : os.length ≤ 1048576) (hin : MI2.RowAt w a xs) (hos : M4.IntsAt w (some ⟨g, 0, none⟩) os) :
    Calls Try.prog 12 #[.slice a xs.length ca, .slice (some ⟨g, 0, none⟩) os.length cb] w fun e w' => e = .returned (.bool (JD.isO xs os)) ∧ Below w.heap.size w w' := by
  have GJ : Hid _ := implGoodJobs_any a ca xs w hn hin _ rfl
  have CL : Hid (∀ w1, Below w.heap.size w w1 → _) := fun w1 hb => cloneJ_any g os.length cb os w1 rfl hm (hos.below hb)
  have SO : Hid (∀ (w2 : World) (base g1 c1 : Nat), w2.ownsRow base 3 1 (.slice (some ⟨g1, 0, none⟩) os.length c1) os.length (M4.iv os) → _) := fun w2 base g1 c1 ho => sortsI base g1 c1 os w2 ho hm
  have RI : Hid (∀ (w3 : World) (base g1 c1 : Nat), w3.ownsRow base 3 1 (.slice (some ⟨g1, 0, none⟩) os.length c1) os.length (M4.iv (os.mergeSort fun x y => decide (x ≤ y))) → Calls Try.prog 33 #[.slice (some ⟨g1, 0, none⟩) os.length c1, .int .i64 ((xs.length : Int) - 1)] w3 fun e w' => e = .returned (.bool (JD.onceB xs.length os)) ∧ w3 = w') := fun w3 base g1 c1 ho => by
    have := areRising_any (some ⟨g1, 0, none⟩) c1 xs.length (os.mergeSort fun x y => decide (x ≤ y)) w3 hn (by rw [List.length_mergeSort]; exact hm) (M5.own_ints ho) _ (JD.rises_sort xs.length os)
    rw [List.length_mergeSort] at this
    exact this
  have HI : Hid (JD.isO xs os = (JD.okP xs && decide (os.length = xs.length) && JD.onceB xs.length os)) := rfl
  generalize JD.isO xs os = R at *
  generalize JD.okP xs = q at *
  generalize JD.onceB xs.length os = o at *
  clear hin hos
  go_enter Try.func12, Try.ntmps12
  go_wp2_with fail
  refine Calls.mono GJ.out ?_
  rintro e w1 ⟨rfl, hb⟩
  have C1 : Hid _ := CL.out w1 hb
  clear GJ CL
  cases q with
  | false =>
    have HR : Hid (R = false) := by show _ = _; rw [HI.out]; rfl
    clear HI C1 SO RI
    go_wp2
    go_ret
    exact ⟨retB7 HR.out.symm, hb⟩
  | true =>
    by_cases hl : os.length = xs.length
    · have HR : Hid (R = o) := by show _ = _; rw [HI.out, hl]; simp
      have hq : ((os.length : Int) != (xs.length : Int)) = false := by rw [hl]; simp
      have hq2 : (os.length != xs.length) = false := by rw [hl]; simp
      have HLL : Hid _ := hl
      clear HI hl
      go_wp2_with fail
      refine Calls.mono C1.out ?_
      rintro e w2 ⟨g1, c1, rfl, o2, b2⟩
      have hB2 := hb.trans (b2.mono hb.size)
      have S2 : Hid _ := SO.out w2 _ g1 c1 o2
      have HG : Hid (w1.heap.size ≤ g1) := (o2.lt g1 rfl).1
      clear C1 SO o2 b2
      go_wp2_with fail
      refine Calls.mono S2.out ?_
      rintro e w3 ⟨rfl, o3, gr3⟩
      have hB3 : Below w.heap.size w w3 := hB2.grown gr3 hB2.size (fun k hk => by cases hk; exact Nat.le_trans hb.size HG.out)
      have R3 : Hid _ := RI.out w3 _ g1 c1 o3
      clear S2 RI o3 gr3 hB2 hb HG
      go_wp2_with fail
      refine Calls.mono R3.out ?_
      rintro e w4 ⟨rfl, rfl⟩
      clear R3
      go_wp2
      go_ret
      exact ⟨retB7 HR.out.symm, hB3⟩
    · have HR : Hid (R = false) := by show _ = _; rw [HI.out, decide_eq_false hl]; rfl
      have hq : ((os.length : Int) != (xs.length : Int)) = true := by simp; omega
      have hq2 : (os.length != xs.length) = true := by simp; exact hl
      have HLL : Hid _ := hl
      clear HI C1 SO RI hl
      go_wp2
      go_ret
      exact ⟨retB7 HR.out.symm, hb⟩
set_option linter.unusedSimpArgs false in
set_option maxHeartbeats 1600000 in
set_option maxRecDepth 100000 in
theorem specIsOrder_any (a : Option Addr) (ca g cb : Nat) (xs : List I2) (os : List Int) (w : World) (hn : xs.length ≤ 1048576) (hm : os.length ≤ 1048576) (hcb : os.length ≤ cb) (hcm : cb ≤ maxLen) (hin : MI2.RowAt w a xs) (hos : M4.IntsAt w (some ⟨g, 0, none⟩) os) :
    Calls Try.prog 24 #[.slice a xs.length ca, .slice (some ⟨g, 0, none⟩) os.length cb] w fun e w' => e = .returned (.bool (JD.isO xs os)) ∧ Below w.heap.size w w' := by
  have GJ : Hid _ := specGoodJobs_any a ca xs w hn hin _ rfl
  have HOS : Hid (M4.IntsAt w (some ⟨g, 0, none⟩) os) := hos
  have HI : Hid (JD.isO xs os = (JD.okP xs && decide (os.length = xs.length) && JD.onceB xs.length os)) := rfl
  have hc63 : cb ≤ 9223372036854775807 := by unfold maxLen at hcm; omega
  generalize JD.isO xs os = R at *
  generalize JD.okP xs = q at *
  clear hin hos
  go_enter Try.func24, Try.ntmps24
  go_wp2_with fail
  refine Calls.mono GJ.out ?_
  rintro e w1 ⟨rfl, hb⟩
  clear GJ
  cases q with
  | false =>
    have HR : Hid (R = false) := by show _ = _; rw [HI.out]; rfl
    clear HI HOS
    go_wp2
    go_ret
    exact ⟨retB7 HR.out.symm, hb⟩
  | true =>
    by_cases hl : os.length = xs.length
    · have HR : Hid (R = JD.onceB xs.length os) := by show _ = _; rw [HI.out, hl]; simp
      have hq : ((os.length : Int) != (xs.length : Int)) = false := by rw [hl]; simp
      have hq2 : (os.length != xs.length) = false := by rw [hl]; simp
      clear HI hl
      replace HOS : Hid (M4.IntsAt w1 (some ⟨g, 0, none⟩) os) := M4.IntsAt.below HOS.out hb
      go_wp2
      go_loopw [5, 6, 19] (fun _ _ iv wr => ∃ k : Nat, iv = .int .i64 k ∧ k ≤ os.length ∧ Hid (JD.onceUp xs.length os k) ∧ w1 = wr) (fun _ _ iv _ => (os.length - intOf iv).toNat)
      case atStart => exact ⟨0, rfl, by omega, (show Hid _ from JD.onceUp_zero _ _), rfl⟩
      case round =>
        obtain ⟨k, rfl, hk, HU, rfl⟩ := hrel
        by_cases hlk : k < os.length
        · obtain ⟨b6, off6, hb6, hlt6, hc6⟩ := HOS.out.at hlk
          cases hb6
          rw [Nat.zero_add] at hc6
          have LH : Hid (Calls Try.prog 40 #[.slice (some ⟨g, 0, none⟩) k cb, .int .i64 (os.getD k 0)] w1 fun e w' => e = .returned (.bool (decide (os.getD k 0 ∈ os.take k))) ∧ w1 = w') := by
            have := l1Has_any (some ⟨g, 0, none⟩) cb (os.take k) (os.getD k 0) w1 (by rw [List.length_take]; omega) (by
              refine .inr ⟨g, 0, rfl, hlt6, fun j hj => ?_⟩
              rw [List.length_take] at hj
              obtain ⟨b7, off7, hb7, _, hc7⟩ := HOS.out.at (k := j) (by omega)
              cases hb7
              rw [hc7]
              congr 2
              simp only [List.getD_eq_getElem?_getD]
              rw [List.getElem?_take, if_pos (by omega)])
            rw [List.length_take, Nat.min_eq_left hk] at this
            exact this
          have HN : Hid _ := fun h => JD.onceB_no (n := xs.length) hlk h
          have HS : Hid _ := fun h0 h1 h2 => JD.onceUp_succ (k := k) HU.out h0 h1 h2
          obtain ⟨m, hmm⟩ : ∃ m, decide (os.getD k 0 ∈ os.take k) = m := ⟨_, rfl⟩
          have HM : Hid (decide (os.getD k 0 ∈ os.take k) = m) := hmm
          rw [hmm] at LH
          clear hmm
          generalize hy : os.getD k 0 = y at *
          clear hy
          clear HU HOS
          by_cases h0 : y < 0
          · have HF : Hid (R = false) := by show _ = _; rw [HR.out]; exact HN.out (fun h => by omega)
            clear HN HS HR HM LH
            have q1 : decide (y < 0) = true := by simp; omega
            go_wp2
            go_ret
            exact ⟨retB7 HF.out.symm, hb⟩
          · obtain ⟨z, rfl⟩ := Int.eq_ofNat_of_zero_le (show 0 ≤ y by omega)
            have q1 : decide ((z : Int) < 0) = false := by simp
            by_cases h1 : z < xs.length
            · have q2 : decide (xs.length ≤ z) = false := by simp; omega
              cases m with
              | true =>
                have HF : Hid (R = false) := by show _ = _; rw [HR.out]; exact HN.out (fun h => h.2.2 (by have := HM.out; rwa [decide_eq_true_eq] at this))
                clear HN HS HR HM
                go_wp2_with (go_at_call 40; refine Calls.mono LH.out ?_; rintro e w2 ⟨rfl, rfl⟩)
                go_ret
                exact ⟨retB7 HF.out.symm, hb⟩
              | false =>
                have HU : Hid (JD.onceUp xs.length os (k + 1)) := HS.out (by omega) (by omega) (by have := HM.out; rwa [decide_eq_false_iff_not] at this)
                clear HN HS HM
                go_wp2_with (go_at_call 40; refine Calls.mono LH.out ?_; rintro e w2 ⟨rfl, rfl⟩)
                go_roundw
                case rel => exact ⟨k + 1, by go_num, by omega, HU, trivial⟩
                case measure => simp [intOf]; omega
            · have q2 : decide (xs.length ≤ z) = true := by simp; omega
              have HF : Hid (R = false) := by show _ = _; rw [HR.out]; exact HN.out (fun h => by omega)
              clear HN HS HR HM LH
              go_wp2
              go_ret
              exact ⟨retB7 HF.out.symm, hb⟩
        · obtain rfl : k = os.length := by omega
          have HF : Hid (R = true) := by show _ = _; rw [HR.out]; exact JD.onceB_yes HU.out
          clear HOS HU HR
          go_wp2
          go_ret
          exact ⟨retB7 HF.out.symm, hb⟩
    · have HR : Hid (R = false) := by show _ = _; rw [HI.out, decide_eq_false hl]; rfl
      have hq : ((os.length : Int) != (xs.length : Int)) = true := by simp; omega
      have hq2 : (os.length != xs.length) = true := by simp; exact hl
      have HLL : Hid _ := hl
      clear HI HOS hl
      go_wp2
      go_ret
      exact ⟨retB7 HR.out.symm, hb⟩
end Go.Proofs.Ytgenmljnhlcpcaa
