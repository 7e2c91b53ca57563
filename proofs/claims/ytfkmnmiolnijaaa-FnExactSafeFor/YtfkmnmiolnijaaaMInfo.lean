/- What a number takes in memory. -/
import Derived.Test.YtfkmnmiolnijaaaRows
import Derived.WalkKit
namespace Go.Proofs.Ytfkmnmiolnijaaa
open Go.RowKit
theorem Try.info3 : (Try.prog.info? 3).map (fun i => (i.zero, i.size, i.bytes)) = some (some (.int .i64 0), 1, 8) := by kernel_rfl
end Go.Proofs.Ytfkmnmiolnijaaa
