/-
  DERIVED. GIVEN WITH THE SEED: THE PROGRAM's TIES (one call each: nine closed facts by the kernel) AND EACH ROW's TIE, after the 31st guide's Derived/Test/Toyas{Tie, Card}.lean. No idea stands in it: it is a product of the set-up. Laid BY PROGRAM, IN A SANDBOX (cutbox-door.mjs). By AI agents, Wed Nov 11 2026. No macro, syntax, notation, axiom, sorry.
-/
import Derived.Test.YtgmaeelalkfaaaaDoorRows
import Derived.LaidByTextLater
import Derived.SevenTiedAt
import Derived.LaidSub
import Derived.LaidOnce
namespace Go.Proofs.YtgmaeelalkfaaaaDoor
open Go
set_option maxRecDepth 100000
theorem seatTie1 : Tryd.prog.laidByTextLater [("errors.errorType", Rows.laid_errors_errorType), ("loop.example/g00315/impl.errNotAsSaid", Rows.laid_loop_example_g00315_impl_errNotAsSaid), ("loop.example/g00315/impl.errTooMuch", Rows.laid_loop_example_g00315_impl_errTooMuch)] [.handle, .sentinel, .sentinel] true :=
  Program.laidByTextLater_by_one 54 8 2 (by kernel_rfl) (by kernel_rfl) (by kernel_rfl) (by kernel_rfl) (by kernel_rfl) (by kernel_rfl) (fun _ _ => by kernel_rfl)
theorem noOwnUnsafe : Tryd.pinned.checked.prog.headLifts.contains "ownunsafe" = false := by kernel_rfl
theorem tie : Tryd.prog.laidByTextLater [("loop.example/g00315/impl.errNotAsSaid", Rows.laid_loop_example_g00315_impl_errNotAsSaid)] [.sentinel] true :=
  Program.laidByTextLater.sub seatTie1 ["loop.example/g00315/impl.errNotAsSaid"] (by kernel_rfl) (by kernel_rfl)
theorem fnExactLevelAt_row_tie : Rows.fnExactLevelAtRow.laidByTextAt .later Tryd.pinned [.sentinel] true :=
  OpenClaim.laidByTextAt_later rfl rfl tie noOwnUnsafe
theorem tie2 : Tryd.prog.laidByTextLater [("errors.errorType", Rows.laid_errors_errorType), ("loop.example/g00315/impl.errNotAsSaid", Rows.laid_loop_example_g00315_impl_errNotAsSaid)] [.handle, .sentinel] true :=
  Program.laidByTextLater.sub seatTie1 ["errors.errorType", "loop.example/g00315/impl.errNotAsSaid"] (by kernel_rfl) (by kernel_rfl)
theorem fnExactAskBucket_row_tie : Rows.fnExactAskBucketRow.laidByTextAt .later Tryd.pinned [.handle, .sentinel] true :=
  OpenClaim.laidByTextAt_later rfl rfl tie2 noOwnUnsafe
theorem fnExactBothTell_row_tie : Rows.fnExactBothTellRow.laidByTextAt .later Tryd.pinned [.handle, .sentinel] true :=
  OpenClaim.laidByTextAt_later rfl rfl tie2 noOwnUnsafe
theorem tie3 : Tryd.prog.laidByTextLater [("loop.example/g00315/impl.errNotAsSaid", Rows.laid_loop_example_g00315_impl_errNotAsSaid), ("loop.example/g00315/impl.errTooMuch", Rows.laid_loop_example_g00315_impl_errTooMuch)] [.sentinel, .sentinel] true :=
  Program.laidByTextLater.sub seatTie1 ["loop.example/g00315/impl.errNotAsSaid", "loop.example/g00315/impl.errTooMuch"] (by kernel_rfl) (by kernel_rfl)
theorem fnExactAskCell_row_tie : Rows.fnExactAskCellRow.laidByTextAt .later Tryd.pinned [.sentinel, .sentinel] true :=
  OpenClaim.laidByTextAt_later rfl rfl tie3 noOwnUnsafe
theorem fnExactLevelAtUpto_row_tie : Rows.fnExactLevelAtUptoRow.laidByTextAt .later Tryd.pinned [.sentinel] true :=
  OpenClaim.laidByTextAt_later rfl rfl tie noOwnUnsafe
theorem fnExactAskBucketUpto_row_tie : Rows.fnExactAskBucketUptoRow.laidByTextAt .later Tryd.pinned [.handle, .sentinel] true :=
  OpenClaim.laidByTextAt_later rfl rfl tie2 noOwnUnsafe
theorem fnExactAskCellUpto_row_tie : Rows.fnExactAskCellUptoRow.laidByTextAt .later Tryd.pinned [.sentinel, .sentinel] true :=
  OpenClaim.laidByTextAt_later rfl rfl tie3 noOwnUnsafe
theorem fnExactBothTellUpto_row_tie : Rows.fnExactBothTellUptoRow.laidByTextAt .later Tryd.pinned [.handle, .sentinel] true :=
  OpenClaim.laidByTextAt_later rfl rfl tie2 noOwnUnsafe
end Go.Proofs.YtgmaeelalkfaaaaDoor
