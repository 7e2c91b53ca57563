/- What is a flow: isFlow and IsFlow, FlowOf of the program, l8Is, IsFlow and FlowOf of the specification. -/
import Derived.Test.YtndaapidfiocoaaRows
import Derived.Test.YtndaapidfiocoaaCAsk
import Derived.Test.YtndaapidfiocoaaCOut
import Derived.Test.YtndaapidfiocoaaCWith7
import Derived.Test.YtndaapidfiocoaaM5
import Derived.WalkKit
import Derived.WalkSpells
import Derived.WalkLawsBesides
import Derived.Outline
import Derived.Deep.QuietTactic
import Derived.BigQuiet
namespace Go.Proofs.Ytndaapidfiocoaa
open Go.RowKit
set_option maxHeartbeats 400000 in
set_option maxRecDepth 100000 in
theorem within8_any (n lo hi : Int) (w : World) : Calls Try.prog 38 #[.int .i64 n, .int .i64 lo, .int .i64 hi] w fun e w' => e = .returned (.bool (decide (lo ≤ n ∧ n ≤ hi))) ∧ w = w' := by
  by_cases h1 : lo ≤ n
  · go_enter Try.func38, Try.ntmps38
    go_wp2
    go_ret
    exact ⟨retB7 (by simp [h1]), rfl⟩
  · go_enter Try.func38, Try.ntmps38
    go_wp2
    go_ret
    exact ⟨retB7 (by rw [decide_eq_false (by omega : ¬ lo ≤ n)]; rfl), rfl⟩
set_option linter.unusedSimpArgs false in
set_option maxHeartbeats 1600000 in
set_option maxRecDepth 100000 in
theorem isFlow8_any (a b : Option Addr) (cap cb : Nat) (xs : List I3) (fs : List Int) (f t : Int) (w : World) (hg : FL.okP xs = true) (hl : fs.length = xs.length) (hin : MI3.RowAt w a xs) (hos : M4.IntsAt w b fs) (R : Bool) (hR : Hid (FL.isF xs fs f t = R)) :
    Calls Try.prog 39 #[.slice a xs.length cap, .int .i64 f, .int .i64 t, .slice b fs.length cb] w fun e w' => e = .returned (.bool R) ∧ Below w.heap.size w w' := by
  have hn : xs.length ≤ 20 := ((FL.okP_iff xs).1 hg).1
  have HI : Hid (MI3.RowAt w a xs) := hin
  have HS : Hid (M4.IntsAt w b fs) := hos
  have HG : Hid _ := hg
  clear hin hos hg
  rw [hl]
  have HL : Hid _ := hl
  clear hl
  go_enter Try.func39, Try.ntmps39
  go_wp2
  go_loopw [14] (fun iv wr => ∃ k : Nat, iv = .int .i64 k ∧ k ≤ xs.length ∧ Hid (FL.fitUp xs fs k) ∧ Below w.heap.size w wr) (fun iv _ => (xs.length - intOf iv).toNat)
  case atStart => exact ⟨0, rfl, by omega, show Hid _ from fun j hj => by omega, Below.refl _ _⟩
  case round =>
    obtain ⟨k, rfl, hk, hT, hb⟩ := hrel
    by_cases hlk : k < xs.length
    · obtain ⟨b1, off, rfl, hlt, c0, c1, c2⟩ := (HI.out.below hb).at hlk
      obtain ⟨b2, off2, rfl, hlt2, d0⟩ := M4.IntsAt.at (M4.IntsAt.below HS.out hb) (k := k) (by rw [HL.out]; exact hlk)
      have HY : Hid _ := fun h => FL.fitUp_succ hT.out (k := k) h
      have HN : Hid _ := fun h => FL.isF_no (f := f) (t := t) (fs := fs) hlk h
      clear hT HI HS HG
      generalize MI3.at_ xs k = x at *
      generalize fs.getD k 0 = y at *
      obtain ⟨x0, x1, x2⟩ := x
      have hb' : ∀ o, Below w.heap.size w (wr.alloc o) := fun o => hb.alloc hb.size o
      have HB : Hid _ := hb'
      clear hb'
      have d1 : ∀ o, (wr.alloc o).cell? ⟨b2, off2 + k, none⟩ = some (.int .i64 y) := fun o => by rw [World.cell?_alloc_lt _ _ _ hlt2]; exact d0
      obtain ⟨q, hq⟩ : ∃ q, decide (0 ≤ y ∧ y ≤ x2) = q := ⟨_, rfl⟩
      have HIN : Hid (∀ W : World, Calls Try.prog 56 #[.int .i64 y, .int .i64 0, .int .i64 x2] W fun e w' => e = .returned (.bool q) ∧ W = w') := fun W => by rw [← hq]; exact within7_any _ _ _ _
      have HQ : Hid _ := hq
      clear hq
      go_wp2_with fail
      go_quiet ((go_at_call 56; exact (HIN.out _).mono (by rintro e w' ⟨rfl, rfl⟩; exact ⟨rfl, _, rfl⟩)))
      have HB2 : Hid _ := below_drewN (HB.out (.cells #[.int .i64 x0, .int .i64 x1, .int .i64 x2] 56)) nq
      generalize ((wr.alloc (.cells #[.int .i64 x0, .int .i64 x1, .int .i64 x2] 56)).drewN nq) = w2 at *
      clear d1 d0 c0 c1 c2 hlt hlt2 HIN HB hb
      cases q with
      | true =>
        have hT : Hid _ := HY.out (by have := HQ.out; simpa using this)
        clear HY HN HQ hR
        go_wp2
        go_roundw
        case rel => exact ⟨k + 1, by go_num, by omega, hT, HB2.out⟩
        case measure => simp [intOf]; omega
      | false =>
        have hF : Hid (R = false) := by show R = false; rw [← hR.out]; exact HN.out (by have := HQ.out; simpa using this)
        clear HY HN HQ hR
        go_wp2
        go_ret
        exact ⟨retB7 hF.out.symm, HB2.out⟩
    · obtain rfl : k = xs.length := by omega
      clear hlk hk
      have OU : Hid (∀ (m : Int) (W : World), MI3.RowAt W a xs → M4.IntsAt W b fs → Calls Try.prog 28 #[.slice a xs.length cap, .int .i64 m, .slice b xs.length cb] W fun e w' => e = .returned (.int .i64 (FL.outUp xs fs m xs.length)) ∧ Below W.heap.size W w') := fun m W h1 h2 => by
        have := moreOutOf_any a b cap cb xs fs m W HG.out HL.out hT.out h1 h2 _ rfl
        rwa [HL.out] at this
      clear HG
      go_wp2
      go_loopw [28] (fun iv wr => ∃ m : Nat, iv = .int .i64 m ∧ m ≤ 8 ∧ Hid (FL.calmUp xs fs f t m) ∧ Below w.heap.size w wr) (fun iv _ => (8 - intOf iv).toNat)
      case atStart => exact ⟨0, rfl, by omega, show Hid _ from fun j hj => by omega, hb⟩
      case round =>
        clear hb
        obtain ⟨m, rfl, hm, hC, hb⟩ := hrel
        by_cases hlm : m < 8
        · by_cases hf : (m : Int) = f
          · have hC2 : Hid _ := FL.calmUp_succ hC.out (fun h _ => absurd hf h)
            have hf' : ((m : Int) == f) = true := by simpa using hf
            have hf2 : ((m : Int) != f) = false := by simpa using hf
            clear hf hC HI HS OU hR
            go_wp2
            go_roundw
            case rel => exact ⟨m + 1, by go_num, by omega, hC2, hb⟩
            case measure => simp [intOf]; omega
          · have hf2 : ((m : Int) != f) = true := by simpa using hf
            by_cases ht : (m : Int) = t
            · have hC2 : Hid _ := FL.calmUp_succ hC.out (fun _ h => absurd ht h)
              have ht' : ((m : Int) == t) = true := by simpa using ht
              have ht2 : ((m : Int) != t) = false := by simpa using ht
              clear hf ht hC HI HS OU hR
              go_wp2
              go_roundw
              case rel => exact ⟨m + 1, by go_num, by omega, hC2, hb⟩
              case measure => simp [intOf]; omega
            · have ht2 : ((m : Int) != t) = true := by simpa using ht
              have HY : Hid _ := fun h => FL.calmUp_succ hC.out (m := m) (fun _ _ => h)
              have HN : Hid _ := fun h => FL.isF_no2 (xs := xs) (fs := fs) hlm hf ht h
              have OU2 : Hid _ := OU.out m wr (HI.out.below hb) (M4.IntsAt.below HS.out hb)
              clear hf ht hC HI HS OU
              generalize FL.outUp xs fs m xs.length = o at *
              go_wp2_with fail
              refine Calls.mono OU2.out ?_
              rintro e w2 ⟨rfl, hb2⟩
              have hB2 := hb.trans (hb2.mono hb.size)
              clear hb2 hb OU2
              by_cases ho : o = 0
              · have hC2 : Hid _ := HY.out ho
                subst ho
                clear HY HN hR
                go_wp2
                go_roundw
                case rel => exact ⟨m + 1, by go_num, by omega, hC2, hB2⟩
                case measure => simp [intOf]; omega
              · have hF : Hid (R = false) := by show R = false; rw [← hR.out]; exact HN.out ho
                clear HY HN hR
                go_wp2
                go_ret
                exact ⟨retB7 hF.out.symm, hB2⟩
        · obtain rfl : m = 8 := by omega
          have hF : Hid (R = true) := by show R = true; rw [← hR.out]; exact FL.isF_yes hT.out hC.out
          clear hT hC hR HI HS OU
          go_wp2
          go_ret
          exact ⟨retB7 hF.out.symm, hb⟩
set_option linter.unusedSimpArgs false in
set_option maxHeartbeats 1600000 in
set_option maxRecDepth 100000 in
theorem l8Is_any (a b : Option Addr) (cap cb : Nat) (xs : List I3) (fs : List Int) (f t : Int) (w : World) (hg : FL.okP xs = true) (hl : fs.length = xs.length) (hin : MI3.RowAt w a xs) (hos : M4.IntsAt w b fs) (R : Bool) (hR : Hid (FL.isF xs fs f t = R)) :
    Calls Try.prog 45 #[.slice a xs.length cap, .int .i64 f, .int .i64 t, .slice b fs.length cb] w fun e w' => e = .returned (.bool R) ∧ Below w.heap.size w w' := by
  have hn : xs.length ≤ 20 := ((FL.okP_iff xs).1 hg).1
  have HI : Hid (MI3.RowAt w a xs) := hin
  have HS : Hid (M4.IntsAt w b fs) := hos
  have HG : Hid _ := hg
  clear hin hos hg
  rw [hl]
  have HL : Hid _ := hl
  clear hl
  go_enter Try.func45, Try.ntmps45
  go_wp2
  go_loopw [14] (fun iv wr => ∃ k : Nat, iv = .int .i64 k ∧ k ≤ xs.length ∧ Hid (FL.fitUp xs fs k) ∧ Below w.heap.size w wr) (fun iv _ => (xs.length - intOf iv).toNat)
  case atStart => exact ⟨0, rfl, by omega, show Hid _ from fun j hj => by omega, Below.refl _ _⟩
  case round =>
    obtain ⟨k, rfl, hk, hT, hb⟩ := hrel
    by_cases hlk : k < xs.length
    · obtain ⟨b1, off, rfl, hlt, c0, c1, c2⟩ := (HI.out.below hb).at hlk
      obtain ⟨b2, off2, rfl, hlt2, d0⟩ := M4.IntsAt.at (M4.IntsAt.below HS.out hb) (k := k) (by rw [HL.out]; exact hlk)
      have HY : Hid _ := fun h => FL.fitUp_succ hT.out (k := k) h
      have HN : Hid _ := fun h => FL.isF_no (f := f) (t := t) (fs := fs) hlk h
      clear hT HI HS HG
      generalize MI3.at_ xs k = x at *
      generalize fs.getD k 0 = y at *
      obtain ⟨x0, x1, x2⟩ := x
      have hb' : ∀ o, Below w.heap.size w (wr.alloc o) := fun o => hb.alloc hb.size o
      have HB : Hid _ := hb'
      clear hb'
      have d1 : ∀ o, (wr.alloc o).cell? ⟨b2, off2 + k, none⟩ = some (.int .i64 y) := fun o => by rw [World.cell?_alloc_lt _ _ _ hlt2]; exact d0
      obtain ⟨q, hq⟩ : ∃ q, decide (0 ≤ y ∧ y ≤ x2) = q := ⟨_, rfl⟩
      have HIN : Hid (∀ W : World, Calls Try.prog 38 #[.int .i64 y, .int .i64 0, .int .i64 x2] W fun e w' => e = .returned (.bool q) ∧ W = w') := fun W => by rw [← hq]; exact within8_any _ _ _ _
      have HQ : Hid _ := hq
      clear hq
      go_wp2_with fail
      go_quiet ((go_at_call 38; exact (HIN.out _).mono (by rintro e w' ⟨rfl, rfl⟩; exact ⟨rfl, _, rfl⟩)))
      have HB2 : Hid _ := below_drewN (HB.out (.cells #[.int .i64 x0, .int .i64 x1, .int .i64 x2] 56)) nq
      generalize ((wr.alloc (.cells #[.int .i64 x0, .int .i64 x1, .int .i64 x2] 56)).drewN nq) = w2 at *
      clear d1 d0 c0 c1 c2 hlt hlt2 HIN HB hb
      cases q with
      | true =>
        have hT : Hid _ := HY.out (by have := HQ.out; simpa using this)
        clear HY HN HQ hR
        go_wp2
        go_roundw
        case rel => exact ⟨k + 1, by go_num, by omega, hT, HB2.out⟩
        case measure => simp [intOf]; omega
      | false =>
        have hF : Hid (R = false) := by show R = false; rw [← hR.out]; exact HN.out (by have := HQ.out; simpa using this)
        clear HY HN HQ hR
        go_wp2
        go_ret
        exact ⟨retB7 hF.out.symm, HB2.out⟩
    · obtain rfl : k = xs.length := by omega
      clear hlk hk
      have OU : Hid (∀ (m : Int) (W : World), MI3.RowAt W a xs → M4.IntsAt W b fs → Calls Try.prog 31 #[.slice a xs.length cap, .slice b xs.length cb, .int .i64 m] W fun e w' => e = .returned (.int .i64 (FL.outUp xs fs m xs.length)) ∧ Below W.heap.size W w') := fun m W h1 h2 => by
        have := l8Out_any a b cap cb xs fs m W HG.out HL.out hT.out h1 h2 _ rfl
        rwa [HL.out] at this
      clear HG
      go_wp2
      go_loopw [11] (fun iv wr => ∃ m : Nat, iv = .int .i64 m ∧ m ≤ 8 ∧ Hid (FL.calmUp xs fs f t m) ∧ Below w.heap.size w wr) (fun iv _ => (8 - intOf iv).toNat)
      case atStart => exact ⟨0, rfl, by omega, show Hid _ from fun j hj => by omega, hb⟩
      case round =>
        clear hb
        obtain ⟨m, rfl, hm, hC, hb⟩ := hrel
        by_cases hlm : m < 8
        · by_cases hf : (m : Int) = f
          · have hC2 : Hid _ := FL.calmUp_succ hC.out (fun h _ => absurd hf h)
            have hf' : ((m : Int) == f) = true := by simpa using hf
            have hf2 : ((m : Int) != f) = false := by simpa using hf
            clear hf hC HI HS OU hR
            go_wp2
            go_roundw
            case rel => exact ⟨m + 1, by go_num, by omega, hC2, hb⟩
            case measure => simp [intOf]; omega
          · have hf2 : ((m : Int) != f) = true := by simpa using hf
            by_cases ht : (m : Int) = t
            · have hC2 : Hid _ := FL.calmUp_succ hC.out (fun _ h => absurd ht h)
              have ht' : ((m : Int) == t) = true := by simpa using ht
              have ht2 : ((m : Int) != t) = false := by simpa using ht
              clear hf ht hC HI HS OU hR
              go_wp2
              go_roundw
              case rel => exact ⟨m + 1, by go_num, by omega, hC2, hb⟩
              case measure => simp [intOf]; omega
            · have ht2 : ((m : Int) != t) = true := by simpa using ht
              have HY : Hid _ := fun h => FL.calmUp_succ hC.out (m := m) (fun _ _ => h)
              have HN : Hid _ := fun h => FL.isF_no2 (xs := xs) (fs := fs) hlm hf ht h
              have OU2 : Hid _ := OU.out m wr (HI.out.below hb) (M4.IntsAt.below HS.out hb)
              clear hf ht hC HI HS OU
              generalize FL.outUp xs fs m xs.length = o at *
              go_wp2_with fail
              refine Calls.mono OU2.out ?_
              rintro e w2 ⟨rfl, hb2⟩
              have hB2 := hb.trans (hb2.mono hb.size)
              clear hb2 hb OU2
              by_cases ho : o = 0
              · have hC2 : Hid _ := HY.out ho
                subst ho
                clear HY HN hR
                go_wp2
                go_roundw
                case rel => exact ⟨m + 1, by go_num, by omega, hC2, hB2⟩
                case measure => simp [intOf]; omega
              · have hF : Hid (R = false) := by show R = false; rw [← hR.out]; exact HN.out ho
                clear HY HN hR
                go_wp2
                go_ret
                exact ⟨retB7 hF.out.symm, hB2⟩
        · obtain rfl : m = 8 := by omega
          have hF : Hid (R = true) := by show R = true; rw [← hR.out]; exact FL.isF_yes hT.out hC.out
          clear hT hC hR HI HS OU
          go_wp2
          go_ret
          exact ⟨retB7 hF.out.symm, hb⟩
set_option linter.unusedSimpArgs false in
set_option maxHeartbeats 1600000 in
set_option maxRecDepth 100000 in
theorem implIsFlow_any (a b : Option Addr) (cap cb : Nat) (xs : List I3) (fs : List Int) (f t : Int) (w : World) (hn : xs.length ≤ 1048576) (_hm : fs.length ≤ 1048576) (hin : MI3.RowAt w a xs) (hos : M4.IntsAt w b fs) :
    Calls Try.prog 13 #[.slice a xs.length cap, .int .i64 f, .int .i64 t, .slice b fs.length cb] w fun e w' => e = .returned (.tuple #[.bool (FL.isR xs f t fs), .bool (FL.askF xs f t fs)]) ∧ Below w.heap.size w w' := by
  obtain ⟨R, hR⟩ : ∃ R, FL.isR xs f t fs = R := ⟨_, rfl⟩
  obtain ⟨S, hS⟩ : ∃ S, FL.askF xs f t fs = S := ⟨_, rfl⟩
  rw [hR, hS]
  have HR : Hid _ := hR
  have HS' : Hid _ := hS
  clear hR hS
  have AK : Hid _ := canFlow_any a cap xs f t w hn hin _ rfl
  have HI : Hid (MI3.RowAt w a xs) := hin
  have HS : Hid (M4.IntsAt w b fs) := hos
  clear hin hos
  go_enter Try.func13, Try.ntmps13
  go_wp2_with fail
  refine Calls.mono AK.out ?_
  rintro e w0 ⟨rfl, hb0⟩
  clear AK
  cases hq : FL.ask xs f t with
  | false =>
    have hF : Hid (S = false) := by show S = false; rw [← HS'.out]; simp [FL.askF, hq]
    have hF2 : Hid (R = false) := by show R = false; rw [← HR.out]; simp [FL.isR, FL.askF, hq]
    clear hq HR HS' HI HS
    go_wp2
    go_ret2
    exact ⟨by rw [hF.out, hF2.out]; rfl, hb0⟩
  | true =>
    by_cases hl : fs.length = xs.length
    · have hF : Hid (S = true) := by show S = true; rw [← HS'.out]; simp [FL.askF, hq, hl]
      have hF2 : Hid (R = FL.isF xs fs f t) := by show R = _; rw [← HR.out]; simp [FL.isR, FL.askF, hq, hl]
      have IS : Hid _ := isFlow8_any a b cap cb xs fs f t w0 (FL.ask_is hq).ok hl (HI.out.below hb0) (M4.IntsAt.below HS.out hb0) _ rfl
      clear hq HR HS' HI HS
      generalize FL.isF xs fs f t = q at *
      rw [hl] at IS ⊢
      clear hl
      go_wp2_with fail
      refine Calls.mono IS.out ?_
      rintro e w1 ⟨rfl, hb1⟩
      clear IS
      go_wp2
      go_ret2
      exact ⟨by rw [hF.out, hF2.out]; rfl, hb0.trans (hb1.mono hb0.size)⟩
    · have hF : Hid (S = false) := by show S = false; rw [← HS'.out]; simp [FL.askF, hq, hl]
      have hF2 : Hid (R = false) := by show R = false; rw [← HR.out]; simp [FL.isR, FL.askF, hq, hl]
      have hl2 : ((fs.length : Int) == (xs.length : Int)) = false := by simpa using (by omega : ¬ (fs.length : Int) = xs.length)
      have hl3 : (fs.length == xs.length) = false := by simpa using hl
      clear hq HR HS' HI HS
      go_wp2
      go_ret2
      exact ⟨by rw [hF.out, hF2.out]; rfl, hb0⟩
set_option linter.unusedSimpArgs false in
set_option maxHeartbeats 1600000 in
set_option maxRecDepth 100000 in
theorem specIsFlow_any (a b : Option Addr) (cap cb : Nat) (xs : List I3) (fs : List Int) (f t : Int) (w : World) (hn : xs.length ≤ 1048576) (_hm : fs.length ≤ 1048576) (hin : MI3.RowAt w a xs) (hos : M4.IntsAt w b fs) :
    Calls Try.prog 21 #[.slice a xs.length cap, .int .i64 f, .int .i64 t, .slice b fs.length cb] w fun e w' => e = .returned (.tuple #[.bool (FL.isR xs f t fs), .bool (FL.askF xs f t fs)]) ∧ Below w.heap.size w w' := by
  obtain ⟨R, hR⟩ : ∃ R, FL.isR xs f t fs = R := ⟨_, rfl⟩
  obtain ⟨S, hS⟩ : ∃ S, FL.askF xs f t fs = S := ⟨_, rfl⟩
  rw [hR, hS]
  have HR : Hid _ := hR
  have HS' : Hid _ := hS
  clear hR hS
  have AK : Hid _ := l8Ask_any a cap xs f t w hn hin _ rfl
  have HI : Hid (MI3.RowAt w a xs) := hin
  have HS : Hid (M4.IntsAt w b fs) := hos
  clear hin hos
  go_enter Try.func21, Try.ntmps21
  go_wp2_with fail
  refine Calls.mono AK.out ?_
  rintro e w0 ⟨rfl, hb0⟩
  clear AK
  cases hq : FL.ask xs f t with
  | false =>
    have hF : Hid (S = false) := by show S = false; rw [← HS'.out]; simp [FL.askF, hq]
    have hF2 : Hid (R = false) := by show R = false; rw [← HR.out]; simp [FL.isR, FL.askF, hq]
    clear hq HR HS' HI HS
    go_wp2
    go_ret2
    exact ⟨by rw [hF.out, hF2.out]; rfl, hb0⟩
  | true =>
    by_cases hl : fs.length = xs.length
    · have hF : Hid (S = true) := by show S = true; rw [← HS'.out]; simp [FL.askF, hq, hl]
      have hF2 : Hid (R = FL.isF xs fs f t) := by show R = _; rw [← HR.out]; simp [FL.isR, FL.askF, hq, hl]
      have IS : Hid _ := l8Is_any a b cap cb xs fs f t w0 (FL.ask_is hq).ok hl (HI.out.below hb0) (M4.IntsAt.below HS.out hb0) _ rfl
      clear hq HR HS' HI HS
      generalize FL.isF xs fs f t = q at *
      rw [hl] at IS ⊢
      clear hl
      go_wp2_with fail
      refine Calls.mono IS.out ?_
      rintro e w1 ⟨rfl, hb1⟩
      clear IS
      go_wp2
      go_ret2
      exact ⟨by rw [hF.out, hF2.out]; rfl, hb0.trans (hb1.mono hb0.size)⟩
    · have hF : Hid (S = false) := by show S = false; rw [← HS'.out]; simp [FL.askF, hq, hl]
      have hF2 : Hid (R = false) := by show R = false; rw [← HR.out]; simp [FL.isR, FL.askF, hq, hl]
      have hl2 : ((fs.length : Int) == (xs.length : Int)) = false := by simpa using (by omega : ¬ (fs.length : Int) = xs.length)
      have hl3 : (fs.length == xs.length) = false := by simpa using hl
      clear hq HR HS' HI HS
      go_wp2
      go_ret2
      exact ⟨by rw [hF.out, hF2.out]; rfl, hb0⟩
set_option linter.unusedSimpArgs false in
set_option maxHeartbeats 1600000 in
set_option maxRecDepth 100000 in
theorem implFlowOf_any (a b : Option Addr) (cap cb : Nat) (xs : List I3) (fs : List Int) (f t : Int) (w : World) (hn : xs.length ≤ 1048576) (hm : fs.length ≤ 1048576) (hin : MI3.RowAt w a xs) (hos : M4.IntsAt w b fs) :
    Calls Try.prog 14 #[.slice a xs.length cap, .int .i64 f, .int .i64 t, .slice b fs.length cb] w fun e w' => e = .returned (.tuple #[.int .i64 (FL.flR xs f t fs), .bool (FL.isR xs f t fs)]) ∧ Below w.heap.size w w' := by
  obtain ⟨R, hR⟩ : ∃ R, FL.flR xs f t fs = R := ⟨_, rfl⟩
  rw [hR]
  have HR : Hid _ := hR
  clear hR
  have AK : Hid _ := implIsFlow_any a b cap cb xs fs f t w hn hm hin hos
  have HI : Hid (MI3.RowAt w a xs) := hin
  have HS : Hid (M4.IntsAt w b fs) := hos
  clear hin hos
  go_enter Try.func14, Try.ntmps14
  go_wp2_with fail
  refine Calls.mono AK.out ?_
  rintro e w0 ⟨rfl, hb0⟩
  clear AK
  cases hq : FL.isR xs f t fs with
  | false =>
    have hF : Hid (R = 0) := by show R = 0; rw [← HR.out]; simp [FL.flR, hq]
    have HQ : Hid _ := hq
    clear hq HR HI HS
    go_wp2
    go_ret2
    exact ⟨by rw [hF.out, HQ.out]; rfl, hb0⟩
  | true =>
    obtain ⟨hA, hl, hfit⟩ := FL.isR_ask hq
    have hF : Hid (R = FL.outUp xs fs f xs.length) := by show R = _; rw [← HR.out]; simp [FL.flR, hq]
    have IS : Hid _ := moreOutOf_any a b cap cb xs fs f w0 hA.ok hl hfit (HI.out.below hb0) (M4.IntsAt.below HS.out hb0) _ rfl
    have hok : FL.askF xs f t fs = true := FL.isR_ok hq
    rw [hok]
    have HQ : Hid _ := hq
    clear hq HR HI HS hA hfit hok
    generalize FL.outUp xs fs f xs.length = q at *
    rw [hl] at IS hm ⊢
    clear hl
    go_wp2_with fail
    refine Calls.mono IS.out ?_
    rintro e w1 ⟨rfl, hb1⟩
    clear IS
    go_wp2
    go_ret2
    exact ⟨by rw [hF.out, HQ.out]; rfl, hb0.trans (hb1.mono hb0.size)⟩
set_option linter.unusedSimpArgs false in
set_option maxHeartbeats 1600000 in
set_option maxRecDepth 100000 in
theorem specFlowOf_any (a b : Option Addr) (cap cb : Nat) (xs : List I3) (fs : List Int) (f t : Int) (w : World) (hn : xs.length ≤ 1048576) (hm : fs.length ≤ 1048576) (hin : MI3.RowAt w a xs) (hos : M4.IntsAt w b fs) :
    Calls Try.prog 20 #[.slice a xs.length cap, .int .i64 f, .int .i64 t, .slice b fs.length cb] w fun e w' => e = .returned (.tuple #[.int .i64 (FL.flR xs f t fs), .bool (FL.isR xs f t fs)]) ∧ Below w.heap.size w w' := by
  obtain ⟨R, hR⟩ : ∃ R, FL.flR xs f t fs = R := ⟨_, rfl⟩
  rw [hR]
  have HR : Hid _ := hR
  clear hR
  have AK : Hid _ := specIsFlow_any a b cap cb xs fs f t w hn hm hin hos
  have HI : Hid (MI3.RowAt w a xs) := hin
  have HS : Hid (M4.IntsAt w b fs) := hos
  clear hin hos
  go_enter Try.func20, Try.ntmps20
  go_wp2_with fail
  refine Calls.mono AK.out ?_
  rintro e w0 ⟨rfl, hb0⟩
  clear AK
  cases hq : FL.isR xs f t fs with
  | false =>
    have hF : Hid (R = 0) := by show R = 0; rw [← HR.out]; simp [FL.flR, hq]
    have HQ : Hid _ := hq
    clear hq HR HI HS
    go_wp2
    go_ret2
    exact ⟨by rw [hF.out, HQ.out]; rfl, hb0⟩
  | true =>
    obtain ⟨hA, hl, hfit⟩ := FL.isR_ask hq
    have hF : Hid (R = FL.outUp xs fs f xs.length) := by show R = _; rw [← HR.out]; simp [FL.flR, hq]
    have IS : Hid _ := l8Out_any a b cap cb xs fs f w0 hA.ok hl hfit (HI.out.below hb0) (M4.IntsAt.below HS.out hb0) _ rfl
    have hok : FL.askF xs f t fs = true := FL.isR_ok hq
    rw [hok]
    have HQ : Hid _ := hq
    clear hq HR HI HS hA hfit hok
    generalize FL.outUp xs fs f xs.length = q at *
    rw [hl] at IS hm ⊢
    clear hl
    go_wp2_with fail
    refine Calls.mono IS.out ?_
    rintro e w1 ⟨rfl, hb1⟩
    clear IS
    go_wp2
    go_ret2
    exact ⟨by rw [hF.out, HQ.out]; rfl, hb0.trans (hb1.mono hb0.size)⟩
end Go.Proofs.Ytndaapidfiocoaa
