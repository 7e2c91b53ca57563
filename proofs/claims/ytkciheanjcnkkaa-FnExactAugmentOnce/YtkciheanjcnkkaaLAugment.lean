/- The law FnExactAugmentOnce answers true, whatever the arguments. -/
import Derived.Test.YtkciheanjcnkkaaLWAugment
import Derived.Test.YtkciheanjcnkkaaCOnceI
import Derived.Test.YtkciheanjcnkkaaCMaxS
namespace Go.Proofs.Ytkciheanjcnkkaa
open Go.RowKit
theorem FL.agL_len2 (xs : List I3) (f t : Int) (fs : List Int) : (FL.agL xs f t fs).length ≤ 1048576 := by
  cases h : FL.isR xs f t fs with
  | false => unfold FL.agL; rw [h]; exact Nat.zero_le _
  | true =>
    obtain ⟨A, hl, _⟩ := FL.isR_ask h
    have := A.len
    exact FL.agL_len (by omega)
theorem lawAug8_any (a b : Option Addr) (cap cb : Nat) (xs : List I3) (f t : Int) (fs : List Int) (w : World) (hl : xs.length ≤ maxLen) (hm : fs.length ≤ maxLen) (hi : MI3.RowAt w a xs) (hj : M4.IntsAt w b fs) :
    Calls Try.prog 7 #[.slice a xs.length cap, .int .i64 f, .int .i64 t, .slice b fs.length cb] w fun e w' => e = .returned (.bool true) ∧ Below w.heap.size w w' :=
  lawAugmentOnce_any a cap xs f t b cb fs (FL.agL xs f t fs) (FL.agL_len2 xs f t fs) (FL.agN xs f t fs) (FL.agB xs f t fs) (fun hz hy _ _ W hr hs => specAugment_any _ _ _ _ xs fs f t W hz hy hr hs) (fun hz hy _ g W hr hs => implAugment_any _ g _ _ xs fs f t W hz hy hr hs) w hl hm hi hj
end Go.Proofs.Ytkciheanjcnkkaa
