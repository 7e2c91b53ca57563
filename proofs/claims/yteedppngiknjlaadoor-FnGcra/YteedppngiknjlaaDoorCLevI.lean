/- LevelAt of the program. -/
import Derived.Test.YteedppngiknjlaaDoorRows
import Derived.Test.YteedppngiknjlaaDoorCLev
import Derived.WalkKit
import Derived.WalkSpells
import Derived.WalkLawsBesides
import Derived.Outline
import Derived.Deep.QuietTactic
import Derived.BigQuiet
namespace Go.Proofs.YteedppngiknjlaaDoor
open Go.RowKit
set_option maxHeartbeats 800000 in
set_option maxRecDepth 100000 in
theorem implLevel_any (b : Bk) (n : Int) (a : Addr) (w : World) (hE : Er1 w a) :
    Calls Tryd.prog 15 #[b.v, .int .i64 n] w fun e w' => e = .returned (.tuple #[.int .i64 (BK.lev b n), .bool (BK.levOk b n)]) ∧ Below w.heap.size w w' := by
  have LA : Hid (∀ (W : World) (_ : Er1 W a), Calls Tryd.prog 35 #[b.v, .int .i64 n] W fun e w' => e = .returned (.tuple #[.int .i64 (BK.lev b n), flt (BK.levOk b n) a]) ∧ Below W.heap.size W w') := fun W h => levelAt_any b n a W h
  generalize BK.lev b n = L at *
  generalize BK.levOk b n = K at *
  have HE : Hid _ := hE.alloc (.cells #[.int .i64 b.p, .int .i64 b.u, .int .i64 b.l, .int .i64 b.t] 35)
  clear hE
  obtain ⟨p, u, l, t⟩ := b
  have hB : Below w.heap.size w _ := (Below.refl _ w).alloc (Nat.le_refl _) (.cells #[.int .i64 p, .int .i64 u, .int .i64 l, .int .i64 t] 35)
  cases K
  · rw [show flt false a = .iface 111 (.pointer (some a)) from rfl] at LA
    go_enter Tryd.func15, Tryd.ntmps15
    go_wp2_with fail
    refine (LA.out _ HE.out).mono ?_
    rintro e w1 ⟨rfl, hb1⟩
    have hB1 := hB.trans (hb1.mono hB.size)
    clear hb1 hB LA HE
    go_wp2_with fail
    go_quiet (fail)
    all_goals (go_wp2; go_ret2; exact ⟨rfl, below_drewN hB1 _⟩)
  · rw [show flt true a = .nilIface from rfl] at LA
    go_enter Tryd.func15, Tryd.ntmps15
    go_wp2_with fail
    refine (LA.out _ HE.out).mono ?_
    rintro e w1 ⟨rfl, hb1⟩
    have hB1 := hB.trans (hb1.mono hB.size)
    clear hb1 hB LA HE
    go_wp2_with fail
    go_quiet (fail)
    all_goals (go_wp2; go_ret2; exact ⟨rfl, below_drewN hB1 _⟩)
end Go.Proofs.YteedppngiknjlaaDoor
