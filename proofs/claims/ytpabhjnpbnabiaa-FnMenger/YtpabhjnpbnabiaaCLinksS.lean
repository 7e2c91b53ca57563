/- GoodLinks and l9Ask of the specification. -/
import Derived.Test.YtpabhjnpbnabiaaRows
import Derived.Test.YtpabhjnpbnabiaaMLK
import Derived.Test.YtpabhjnpbnabiaaM5
import Derived.Test.YtpabhjnpbnabiaaCNode8S
import Derived.WalkKit
import Derived.WalkSpells
import Derived.WalkLawsBesides
import Derived.Outline
namespace Go.Proofs.Ytpabhjnpbnabiaa
open Go.RowKit
set_option linter.unusedSimpArgs false in
set_option maxHeartbeats 1600000 in
set_option maxRecDepth 100000 in
theorem specGoodLinks_any (a : Option Addr) (cap : Nat) (xs : List I2) (w : World) (hn : xs.length ≤ 1048576) (hin : MI2.RowAt w a xs) (R : Bool) (hR : Hid (FL.okP (LK.pip xs) = R)) :
    Calls Try.prog 12 #[.slice a xs.length cap] w fun e w' => e = .returned (.bool R) ∧ Below w.heap.size w w' := by
  go_enter Try.func12, Try.ntmps12
  go_wp2
  go_loopw [7] (fun iv wr => ∃ k : Nat, iv = .int .i64 k ∧ k ≤ xs.length ∧ Hid (FL.okUp (LK.pip xs) k) ∧ Below w.heap.size w wr) (fun iv _ => (xs.length - intOf iv).toNat)
  case atStart => exact ⟨0, rfl, by omega, show Hid _ from fun j hj => by omega, Below.refl _ _⟩
  case round =>
    obtain ⟨k, rfl, hk, hT, hb⟩ := hrel
    by_cases hlk : k < xs.length
    · obtain ⟨b, off, rfl, hlt, c0, c1⟩ := (hin.below hb).at hlk
      have HY : Hid _ := fun h => FL.okUp_succ hT.out (k := k) h
      have HN : Hid _ := fun h => FL.okP_no (xs := LK.pip xs) (by rw [LK.pip_len]; exact hlk) h
      rw [LK.pip_at xs k hlk] at HY HN
      clear hin hT
      generalize MI2.at_ xs k = x at *
      obtain ⟨x0, x1⟩ := x
      replace HY : Hid (FL.okE ⟨x0, x1, 1⟩ = true → FL.okUp (LK.pip xs) (k + 1)) := HY
      replace HN : Hid (FL.okE ⟨x0, x1, 1⟩ = false → FL.okP (LK.pip xs) = false) := HN
      have hb' : ∀ o, Below w.heap.size w (wr.alloc o) := fun o => hb.alloc hb.size _
      have HB : Hid _ := hb'
      clear hb'
      go_wp2
      all_goals first
        | (go_ret
           refine ⟨retB7 ?_, HB.out _⟩
           rw [← hR.out, HN.out ?_]
           simp only [FL.okE, decide_eq_false_iff_not]
           clear hR HN HY HB c0 c1
           simp only [Bool.and_eq_true, Bool.or_eq_true, Bool.not_eq_true', Bool.not_eq_false', decide_eq_true_eq, decide_eq_false_iff_not, Bool.false_eq_true, beq_iff_eq, bne_iff_ne, ne_eq, false_iff, true_iff] at *
           omega)
        | (have hT : Hid _ := HY.out (by
             simp only [FL.okE, decide_eq_true_eq]
             clear hR HN HY HB c0 c1
             simp only [Bool.and_eq_true, Bool.or_eq_true, Bool.not_eq_true', Bool.not_eq_false', decide_eq_true_eq, decide_eq_false_iff_not, Bool.false_eq_true, beq_iff_eq, beq_eq_false_iff_ne, bne_iff_ne, ne_eq, false_iff, true_iff] at *
             omega)
           go_roundw
           case rel => exact ⟨k + 1, by go_num, by omega, hT, HB.out _⟩
           case measure => simp [intOf]; omega)
    · obtain rfl : k = xs.length := by omega
      have hF : Hid (R = decide ((xs.length : Int) ≤ 20)) := by
        rw [← hR.out, Bool.eq_iff_iff, FL.okP_iff, decide_eq_true_eq, LK.pip_len]; exact ⟨fun h => by omega, fun h => ⟨by omega, hT.out⟩⟩
      clear hin hT hR
      go_wp2
      go_ret
      exact ⟨retB7 hF.out.symm, hb⟩
set_option linter.unusedSimpArgs false in
set_option maxHeartbeats 1600000 in
set_option maxRecDepth 100000 in
theorem l9Ask_any (a : Option Addr) (cap : Nat) (xs : List I2) (f t : Int) (w : World) (hn : xs.length ≤ 1048576) (hin : MI2.RowAt w a xs) (R : Bool) (hR : Hid (FL.ask (LK.pip xs) f t = R)) :
    Calls Try.prog 23 #[.slice a xs.length cap, .int .i64 f, .int .i64 t] w fun e w' => e = .returned (.bool R) ∧ Below w.heap.size w w' := by
  have GP : Hid _ := specGoodLinks_any a cap xs w hn hin _ rfl
  clear hin
  have hA : Hid (R = (FL.okP (LK.pip xs) && (FL.nodeOk f && (FL.nodeOk t && !(f == t))))) := hR.out.symm
  clear hR
  go_enter Try.func23, Try.ntmps23
  go_wp2_with fail
  refine Calls.mono GP.out ?_
  rintro e w0 ⟨rfl, hb0⟩
  clear GP
  generalize FL.okP (LK.pip xs) = p at *
  have HF : Hid _ := fun W => node8S_any f W
  have HT : Hid _ := fun W => node8S_any t W
  generalize FL.nodeOk f = q at *
  generalize FL.nodeOk t = r at *
  cases p with
  | false =>
    clear HF HT
    go_wp2
    go_ret
    exact ⟨retB7 hA.out.symm, hb0⟩
  | true =>
    go_wp2_with fail
    refine (HF.out _).mono ?_
    rintro e w1 ⟨rfl, rfl⟩
    clear HF
    cases q with
    | false =>
      clear HT
      go_wp2
      go_ret
      exact ⟨retB7 hA.out.symm, hb0⟩
    | true =>
      go_wp2_with fail
      refine (HT.out _).mono ?_
      rintro e w1 ⟨rfl, rfl⟩
      clear HT
      cases r with
      | false =>
        go_wp2
        go_ret
        exact ⟨retB7 hA.out.symm, hb0⟩
      | true =>
        by_cases he : f = t
        · subst he
          have hF : Hid (R = false) := by show R = false; rw [hA.out]; simp
          clear hA
          go_wp2
          go_ret
          exact ⟨retB7 hF.out.symm, hb0⟩
        · have hF : Hid ((f != t) = R) := by show _ = R; rw [hA.out]; rfl
          clear hA
          go_wp2
          go_ret
          exact ⟨retB7 hF.out, hb0⟩
end Go.Proofs.Ytpabhjnpbnabiaa
