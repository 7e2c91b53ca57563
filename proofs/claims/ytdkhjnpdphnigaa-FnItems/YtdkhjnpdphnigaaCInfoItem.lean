/- An item's size. -/
import Derived.Test.YtdkhjnpdphnigaaRows
import Derived.Test.YtdkhjnpdphnigaaM11
import Derived.WalkKit
namespace Go.Proofs.Ytdkhjnpdphnigaa
open Go.RowKit
theorem Try.infoItem : (Try.prog.info? 43).map (fun i => (i.zero, i.size, i.bytes)) = some (some (.agg #[.int .i64 0, .int .i64 0, .string ⟨#[]⟩, .int .i64 0]), 4, 40) := by kernel_rfl
end Go.Proofs.Ytdkhjnpdphnigaa
