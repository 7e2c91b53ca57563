/- A bundle's size and zero value. -/
import Derived.Test.YtdgflhgbcfehhaaRows
import Derived.Test.YtdgflhgbcfehhaaMA
import Derived.WalkKit
namespace Go.Proofs.Ytdgflhgbcfehhaa
open Go.RowKit
theorem Try.infoBundle : (Try.prog.info? 24).map (fun i => (i.zero, i.size)) = some (some (.agg (Bd.cs B1.zero).toArray), 10) := by kernel_rfl
theorem Try.sizeBundle : (Try.prog.info? 24).map (·.size) = some 10 := by kernel_rfl
end Go.Proofs.Ytdgflhgbcfehhaa
