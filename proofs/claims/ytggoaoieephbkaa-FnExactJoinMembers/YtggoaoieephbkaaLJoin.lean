/- The law FnExactJoinMembers answers true, whatever the arguments. -/
import Derived.Test.YtggoaoieephbkaaLWJoin
import Derived.Test.YtggoaoieephbkaaCJoinI
import Derived.Test.YtggoaoieephbkaaCJoinS
namespace Go.Proofs.Ytggoaoieephbkaa
open Go.RowKit
theorem lawJoin_any (a0 : Option Addr) (cap0 : Nat) (xs0 : List Int) (a1 : Option Addr) (cap1 : Nat) (xs1 : List Int) (w : World) (hl0 : xs0.length ≤ maxLen) (hl1 : xs1.length ≤ maxLen) (hi0 : M4.IntsAt w a0 xs0) (hi1 : M4.IntsAt w a1 xs1) :
    Calls Try.prog 3 #[.slice a0 xs0.length cap0, .slice a1 xs1.length cap1] w fun e w' => e = .returned (.bool true) ∧ Below w.heap.size w w' :=
  lawJoinMembers_any a0 cap0 xs0 a1 cap1 xs1 (GP.joinL xs0 xs1) (GP.joinL_len xs0 xs1) (GP.joinOk xs0 xs1) (fun h0 h1 _ _ W hr hr2 => specJoin_any _ _ _ _ xs0 xs1 W h0 h1 (fun h => by cases h) hr hr2) (fun h0 h1 _ _ W hr hr2 => implJoin_any _ _ _ _ xs0 xs1 W h0 h1 hr hr2) w hl0 hl1 hi0 hi1
end Go.Proofs.Ytggoaoieephbkaa
