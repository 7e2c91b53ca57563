/- What may be asked of pipes: canFlow of the program, l8Ask of the specification. -/
import Derived.Test.YtndaapidfiocoaaRows
import Derived.Test.YtndaapidfiocoaaMFO
import Derived.Test.YtndaapidfiocoaaCPipes
import Derived.Test.YtndaapidfiocoaaCAskI
import Derived.Test.YtndaapidfiocoaaCNode8S
import Derived.WalkKit
import Derived.WalkSpells
import Derived.WalkLawsBesides
import Derived.Outline
namespace Go.Proofs.Ytndaapidfiocoaa
open Go.RowKit
set_option linter.unusedSimpArgs false in
set_option maxHeartbeats 1600000 in
set_option maxRecDepth 100000 in
theorem l8Ask_any (a : Option Addr) (cap : Nat) (xs : List I3) (f t : Int) (w : World) (hn : xs.length ≤ 1048576) (hin : MI3.RowAt w a xs) (R : Bool) (hR : Hid (FL.ask xs f t = R)) :
    Calls Try.prog 29 #[.slice a xs.length cap, .int .i64 f, .int .i64 t] w fun e w' => e = .returned (.bool R) ∧ Below w.heap.size w w' := by
  have GP : Hid _ := specGoodPipes_any a cap xs w hn hin _ rfl
  clear hin
  have hA : Hid (R = (FL.okP xs && (FL.nodeOk f && (FL.nodeOk t && !(f == t))))) := hR.out.symm
  clear hR
  go_enter Try.func29, Try.ntmps29
  go_wp2_with fail
  refine Calls.mono GP.out ?_
  rintro e w0 ⟨rfl, hb0⟩
  clear GP
  generalize FL.okP xs = p at *
  have HF : Hid _ := fun W => node8S_any f W
  have HT : Hid _ := fun W => node8S_any t W
  generalize FL.nodeOk f = q at *
  generalize FL.nodeOk t = r at *
  cases p with
  | false =>
    clear HF HT
    go_wp2
    go_ret
    exact ⟨retB7 hA.out.symm, hb0⟩
  | true =>
    go_wp2_with fail
    refine (HF.out _).mono ?_
    rintro e w1 ⟨rfl, rfl⟩
    clear HF
    cases q with
    | false =>
      clear HT
      go_wp2
      go_ret
      exact ⟨retB7 hA.out.symm, hb0⟩
    | true =>
      go_wp2_with fail
      refine (HT.out _).mono ?_
      rintro e w1 ⟨rfl, rfl⟩
      clear HT
      cases r with
      | false =>
        go_wp2
        go_ret
        exact ⟨retB7 hA.out.symm, hb0⟩
      | true =>
        by_cases he : f = t
        · subst he
          have hF : Hid (R = false) := by show R = false; rw [hA.out]; simp
          clear hA
          go_wp2
          go_ret
          exact ⟨retB7 hF.out.symm, hb0⟩
        · have hF : Hid ((f != t) = R) := by show _ = R; rw [hA.out]; rfl
          clear hA
          go_wp2
          go_ret
          exact ⟨retB7 hF.out, hb0⟩
end Go.Proofs.Ytndaapidfiocoaa
