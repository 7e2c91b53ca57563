import Derived.Test.YtjplabldiheggaaRows
import Derived.WalkKit
/- What a number takes in memory. -/
namespace Go.Proofs.Ytjplabldiheggaa
open Go.RowKit
theorem Try.info3 : (Try.prog.info? 3).map (fun i => (i.zero, i.size, i.bytes)) = some (some (.int .i64 0), 1, 8) := by kernel_rfl
end Go.Proofs.Ytjplabldiheggaa

/- The type of a reach. -/
namespace Go.Proofs.Ytjplabldiheggaa
open Go.RowKit
theorem Try.infoRc : (Try.prog.info? 37).map (fun i => (i.zero, i.size, i.bytes)) = some (some (.agg #[.int .i64 0, .int .i64 0, .slice none 0 0]), 3, 40) := by kernel_rfl
end Go.Proofs.Ytjplabldiheggaa
