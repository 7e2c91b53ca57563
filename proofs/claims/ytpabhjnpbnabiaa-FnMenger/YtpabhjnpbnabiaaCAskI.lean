/- canFlow of the program. -/
import Derived.Test.YtpabhjnpbnabiaaRows
import Derived.Test.YtpabhjnpbnabiaaMFO
import Derived.Test.YtpabhjnpbnabiaaCPipesI
import Derived.WalkKit
import Derived.WalkSpells
import Derived.WalkLawsBesides
import Derived.Outline
namespace Go.Proofs.Ytpabhjnpbnabiaa
open Go.RowKit
set_option maxHeartbeats 400000 in
set_option maxRecDepth 100000 in
theorem node8I_any (n : Int) (w : World) : Calls Try.prog 41 #[.int .i64 n] w fun e w' => e = .returned (.bool (FL.nodeOk n)) ∧ w = w' := by
  go_enter Try.func41, Try.ntmps41
  go_wp2
  all_goals go_ret
  all_goals refine ⟨retB7 ?_, rfl⟩
  all_goals (simp only [FL.nodeOk]; rw [Bool.eq_iff_iff]; simp only [decide_eq_true_eq, Bool.false_eq_true, false_iff] at *; omega)
set_option linter.unusedSimpArgs false in
set_option maxHeartbeats 1600000 in
set_option maxRecDepth 100000 in
theorem canFlow_any (a : Option Addr) (cap : Nat) (xs : List I3) (f t : Int) (w : World) (hn : xs.length ≤ 1048576) (hin : MI3.RowAt w a xs) (R : Bool) (hR : Hid (FL.ask xs f t = R)) :
    Calls Try.prog 35 #[.slice a xs.length cap, .int .i64 f, .int .i64 t] w fun e w' => e = .returned (.bool R) ∧ Below w.heap.size w w' := by
  have GP : Hid _ := implGoodPipes_any a cap xs w hn hin _ rfl
  clear hin
  have hA : Hid (R = (FL.okP xs && (FL.nodeOk f && (FL.nodeOk t && !(f == t))))) := hR.out.symm
  clear hR
  go_enter Try.func35, Try.ntmps35
  go_wp2_with fail
  refine Calls.mono GP.out ?_
  rintro e w0 ⟨rfl, hb0⟩
  clear GP
  generalize FL.okP xs = p at *
  have HF : Hid _ := fun W => node8I_any f W
  have HT : Hid _ := fun W => node8I_any t W
  generalize FL.nodeOk f = q at *
  generalize FL.nodeOk t = r at *
  cases p with
  | false =>
    clear HF HT
    go_wp2
    go_ret
    exact ⟨retB7 hA.out.symm, hb0⟩
  | true =>
    go_wp2_with fail
    refine (HF.out _).mono ?_
    rintro e w1 ⟨rfl, rfl⟩
    clear HF
    cases q with
    | false =>
      clear HT
      go_wp2
      go_ret
      exact ⟨retB7 hA.out.symm, hb0⟩
    | true =>
      go_wp2_with fail
      refine (HT.out _).mono ?_
      rintro e w1 ⟨rfl, rfl⟩
      clear HT
      cases r with
      | false =>
        go_wp2
        go_ret
        exact ⟨retB7 hA.out.symm, hb0⟩
      | true =>
        by_cases he : f = t
        · subst he
          have hF : Hid (R = false) := by show R = false; rw [hA.out]; simp
          clear hA
          go_wp2
          go_ret
          exact ⟨retB7 hF.out.symm, hb0⟩
        · have hF : Hid ((f != t) = R) := by show _ = R; rw [hA.out]; rfl
          clear hA
          go_wp2
          go_ret
          exact ⟨retB7 hF.out, hb0⟩
end Go.Proofs.Ytpabhjnpbnabiaa
