import Derived.Test.YtpabhjnpbnabiaaRows
import Derived.Test.YtpabhjnpbnabiaaMRetB
import Derived.Test.YtpabhjnpbnabiaaMFL
import Derived.Test.YtpabhjnpbnabiaaCPipesI
import Derived.WalkKit
import Derived.WalkSpells
import Derived.WalkLawsBesides
import Derived.Outline
import Derived.Deep.RegionWith
import Derived.Test.YtpabhjnpbnabiaaMFO
import Derived.Test.YtpabhjnpbnabiaaCAskI
import Derived.Test.YtpabhjnpbnabiaaCNode8S
/- GoodPipes, the specification's and the program's, at any pipes. -/
namespace Go.Proofs.Ytpabhjnpbnabiaa
open Go.RowKit
set_option linter.unusedSimpArgs false in
set_option maxHeartbeats 1600000 in
set_option maxRecDepth 100000 in
theorem specGoodPipes_any (a : Option Addr) (cap : Nat) (xs : List I3) (w : World) (hn : xs.length ≤ 1048576) (hin : MI3.RowAt w a xs) (R : Bool) (hR : Hid (FL.okP xs = R)) :
    Calls Try.prog 67 #[.slice a xs.length cap] w fun e w' => e = .returned (.bool R) ∧ Below w.heap.size w w' := by
  go_enter Try.func67, Try.ntmps67
  go_wp2
  go_loopw [7] (fun iv wr => ∃ k : Nat, iv = .int .i64 k ∧ k ≤ xs.length ∧ Hid (FL.okUp xs k) ∧ Below w.heap.size w wr) (fun iv _ => (xs.length - intOf iv).toNat)
  case atStart => exact ⟨0, rfl, by omega, show Hid _ from fun j hj => by omega, Below.refl _ _⟩
  case round =>
    obtain ⟨k, rfl, hk, hT, hb⟩ := hrel
    by_cases hlk : k < xs.length
    · obtain ⟨b, off, rfl, hlt, c0, c1, c2⟩ := (hin.below hb).at hlk
      have HY : Hid _ := fun h => FL.okUp_succ hT.out (k := k) h
      have HN : Hid _ := fun h => FL.okP_no hlk h
      clear hin hT
      generalize MI3.at_ xs k = x at *
      obtain ⟨x0, x1, x2⟩ := x
      obtain ⟨q, hq⟩ : ∃ q, FL.okE ⟨x0, x1, x2⟩ = q := ⟨_, rfl⟩
      have HQ : Hid _ := hq
      clear hq
      have hb' : ∀ o, Below w.heap.size w (wr.alloc o) := fun o => hb.alloc hb.size _
      have HB : Hid _ := hb'
      clear hb'
      go_wp2
      all_goals first
        | (go_ret
           refine ⟨retB7 ?_, HB.out _⟩
           rw [← hR.out, HN.out ?_]
           simp only [FL.okE, decide_eq_false_iff_not]
           clear hR HN HY HQ HB c0 c1 c2
           simp only [Bool.and_eq_true, Bool.or_eq_true, Bool.not_eq_true', Bool.not_eq_false', decide_eq_true_eq, decide_eq_false_iff_not, Bool.false_eq_true, beq_iff_eq, bne_iff_ne, ne_eq, false_iff, true_iff] at *
           omega)
        | (have hT : Hid _ := HY.out (by
             simp only [FL.okE, decide_eq_true_eq]
             clear hR HN HY HQ HB c0 c1 c2
             simp only [Bool.and_eq_true, Bool.or_eq_true, Bool.not_eq_true', Bool.not_eq_false', decide_eq_true_eq, decide_eq_false_iff_not, Bool.false_eq_true, beq_iff_eq, beq_eq_false_iff_ne, bne_iff_ne, ne_eq, false_iff, true_iff] at *
             omega)
           go_roundw
           case rel => exact ⟨k + 1, by go_num, by omega, hT, HB.out _⟩
           case measure => simp [intOf]; omega)
    · obtain rfl : k = xs.length := by omega
      have hF : Hid (R = decide ((xs.length : Int) ≤ 20)) := by
        rw [← hR.out, Bool.eq_iff_iff, FL.okP_iff, decide_eq_true_eq]; exact ⟨fun h => by omega, fun h => ⟨by omega, hT.out⟩⟩
      clear hin hT hR
      go_wp2
      go_ret
      exact ⟨retB7 hF.out.symm, hb⟩
end Go.Proofs.Ytpabhjnpbnabiaa

/- What may be asked of pipes: canFlow of the program, l8Ask of the specification. -/
namespace Go.Proofs.Ytpabhjnpbnabiaa
open Go.RowKit
set_option linter.unusedSimpArgs false in
set_option maxHeartbeats 1600000 in
set_option maxRecDepth 100000 in
theorem l8Ask_any (a : Option Addr) (cap : Nat) (xs : List I3) (f t : Int) (w : World) (hn : xs.length ≤ 1048576) (hin : MI3.RowAt w a xs) (R : Bool) (hR : Hid (FL.ask xs f t = R)) :
    Calls Try.prog 54 #[.slice a xs.length cap, .int .i64 f, .int .i64 t] w fun e w' => e = .returned (.bool R) ∧ Below w.heap.size w w' := by
  have GP : Hid _ := specGoodPipes_any a cap xs w hn hin _ rfl
  clear hin
  have hA : Hid (R = (FL.okP xs && (FL.nodeOk f && (FL.nodeOk t && !(f == t))))) := hR.out.symm
  clear hR
  go_enter Try.func54, Try.ntmps54
  go_wp2_with fail
  refine Calls.mono GP.out ?_
  rintro e w0 ⟨rfl, hb0⟩
  clear GP
  generalize FL.okP xs = p at *
  have HF : Hid _ := fun W => node8S_any f W
  have HT : Hid _ := fun W => node8S_any t W
  generalize FL.nodeOk f = q at *
  generalize FL.nodeOk t = r at *
  cases p with
  | false =>
    clear HF HT
    go_wp2
    go_ret
    exact ⟨retB7 hA.out.symm, hb0⟩
  | true =>
    go_wp2_with fail
    refine (HF.out _).mono ?_
    rintro e w1 ⟨rfl, rfl⟩
    clear HF
    cases q with
    | false =>
      clear HT
      go_wp2
      go_ret
      exact ⟨retB7 hA.out.symm, hb0⟩
    | true =>
      go_wp2_with fail
      refine (HT.out _).mono ?_
      rintro e w1 ⟨rfl, rfl⟩
      clear HT
      cases r with
      | false =>
        go_wp2
        go_ret
        exact ⟨retB7 hA.out.symm, hb0⟩
      | true =>
        by_cases he : f = t
        · subst he
          have hF : Hid (R = false) := by show R = false; rw [hA.out]; simp
          clear hA
          go_wp2
          go_ret
          exact ⟨retB7 hF.out.symm, hb0⟩
        · have hF : Hid ((f != t) = R) := by show _ = R; rw [hA.out]; rfl
          clear hA
          go_wp2
          go_ret
          exact ⟨retB7 hF.out, hb0⟩
end Go.Proofs.Ytpabhjnpbnabiaa
