/- The law FnExactUsesOf answers true, whatever the contacts and the numbers. -/
import Derived.Test.YtndhmiknanepaaaLWUses
import Derived.Test.YtndhmiknanepaaaCUses
namespace Go.Proofs.Ytndhmiknanepaaa
open Go.RowKit
theorem lawUses_any (a b : Option Addr) (ca cb : Nat) (xs : List I5) (os : List Int) (w : World) (hl : xs.length ≤ maxLen) (hl2 : os.length ≤ maxLen) (hi : MI5.RowAt w a xs) (hi2 : M4.IntsAt w b os) :
    Calls Try.prog 4 #[.slice a xs.length ca, .slice b os.length cb] w fun e w' => e = .returned (.bool true) ∧ Below w.heap.size w w' :=
  lawUsesOf_any a ca xs b cb os (PN.usesR xs os) (PN.usesOk xs os) (fun h1 h2 _ _ W hr hq => specUses_any _ _ _ _ xs os W h1 h2 hr hq) (fun h1 h2 _ _ W hr hq => implUses_any _ _ _ _ xs os W h1 h2 hr hq) w hl hl2 hi hi2
end Go.Proofs.Ytndhmiknanepaaa
