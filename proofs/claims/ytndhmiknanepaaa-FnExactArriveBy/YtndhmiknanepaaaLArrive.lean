/- The law FnExactArriveBy answers true, whatever the arguments. -/
import Derived.Test.YtndhmiknanepaaaLWArriveBy
import Derived.Test.YtndhmiknanepaaaCArrive
namespace Go.Proofs.Ytndhmiknanepaaa
open Go.RowKit
theorem lawArrive_any (a b : Option Addr) (ca cb : Nat) (xs : List I5) (f n : Int) (os : List Int) (w : World) (hl : xs.length ≤ maxLen) (hl2 : os.length ≤ maxLen) (hi : MI5.RowAt w a xs) (hi2 : M4.IntsAt w b os) :
    Calls Try.prog 3 #[.slice a xs.length ca, .int .i64 f, .int .i64 n, .slice b os.length cb] w fun e w' => e = .returned (.bool true) ∧ Below w.heap.size w w' :=
  lawArriveBy_any a ca xs f n b cb os (PN.tellN (PN.arrM xs f n os)) (PN.tellB (PN.arrM xs f n os)) (fun h1 h2 _ _ W hr hq => specArrive_any _ _ _ _ xs f n os W h1 h2 hr hq) (fun h1 h2 _ _ W hr hq => implArrive_any _ _ _ _ xs f n os W h1 h2 hr hq) w hl hl2 hi hi2
end Go.Proofs.Ytndhmiknanepaaa
