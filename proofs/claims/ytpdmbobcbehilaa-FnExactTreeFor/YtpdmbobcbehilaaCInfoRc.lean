/- The type of a reach. -/
import Derived.Test.YtpdmbobcbehilaaRows
import Derived.Test.YtpdmbobcbehilaaMInfo
namespace Go.Proofs.Ytpdmbobcbehilaa
open Go.RowKit
theorem Try.infoRc : (Try.prog.info? 59).map (fun i => (i.zero, i.size, i.bytes)) = some (some (.agg #[.int .i64 0, .int .i64 0, .slice none 0 0]), 3, 40) := by kernel_rfl
end Go.Proofs.Ytpdmbobcbehilaa
