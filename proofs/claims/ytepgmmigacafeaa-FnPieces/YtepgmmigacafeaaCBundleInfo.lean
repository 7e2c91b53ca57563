/- A bundle's size and zero value. -/
import Derived.Test.YtepgmmigacafeaaRows
import Derived.Test.YtepgmmigacafeaaMA
import Derived.WalkKit
namespace Go.Proofs.Ytepgmmigacafeaa
open Go.RowKit
theorem Try.infoBundle : (Try.prog.info? 24).map (fun i => (i.zero, i.size)) = some (some (.agg (Bd.cs B1.zero).toArray), 10) := by kernel_rfl
theorem Try.sizeBundle : (Try.prog.info? 24).map (·.size) = some 10 := by kernel_rfl
end Go.Proofs.Ytepgmmigacafeaa
