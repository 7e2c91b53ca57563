/- What a number takes in memory. -/
import Derived.Test.YteedppngiknjlaaDoorRows
import Derived.WalkKit
namespace Go.Proofs.YteedppngiknjlaaDoor
open Go.RowKit
theorem Tryd.info3 : (Tryd.prog.info? 3).map (fun i => (i.zero, i.size, i.bytes)) = some (some (.int .i64 0), 1, 8) := by kernel_rfl
end Go.Proofs.YteedppngiknjlaaDoor
