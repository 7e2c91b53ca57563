/- The laws' sameBools tells that two rows of the same truth values are the same. -/
import Derived.Test.YteedppngiknjlaaDoorRows
import Derived.Test.YteedppngiknjlaaDoorMBV
import Derived.WalkKit
import Derived.WalkSpells
import Derived.WalkLawsBesides
import Derived.Outline
import Derived.Deep.QuietTactic
import Derived.BigQuiet
namespace Go.Proofs.YteedppngiknjlaaDoor
open Go.RowKit
set_option maxHeartbeats 800000 in
set_option maxRecDepth 100000 in
theorem sameBools_any (a b : Option Addr) (ca cb : Nat) (l : List Bool) (w : World) (hx : l.length ≤ 140737488355328) (hax : BV.BoolsAt w a l) (hay : BV.BoolsAt w b l) :
    Calls Tryd.prog 8 #[.slice a l.length ca, .slice b l.length cb] w fun e w' => e = .returned (.bool true) ∧ Below w.heap.size w w' := by
  go_enter Tryd.func8, Tryd.ntmps8
  go_wp2
  go_loopw [5, 13] (fun _ iv wr => ∃ k : Nat, iv = .int .i64 k ∧ k ≤ l.length ∧ Below w.heap.size w wr) (fun _ iv _ => (l.length - intOf iv).toNat)
  case atStart => exact ⟨0, rfl, by omega, Below.refl _ _⟩
  case round =>
    obtain ⟨k, rfl, hk, hb⟩ := hrel
    by_cases hl : k < l.length
    · obtain ⟨b1, rfl, hlt1, hc1⟩ := (hax.below hb).at hl
      obtain ⟨b2, rfl, hlt2, hc2⟩ := (hay.below hb).at hl
      clear hax hay
      generalize l.getD k false = x at *
      cases x
      all_goals
        go_wp2
        go_quiet (fail)
        go_wp2
        go_roundw
        case rel => exact ⟨k + 1, by go_num, by omega, below_drewN hb _⟩
        case measure => simp [intOf]; omega
    · obtain rfl : k = l.length := by omega
      clear hax hay
      go_wp2
      go_ret
      exact ⟨rfl, hb⟩
end Go.Proofs.YteedppngiknjlaaDoor
