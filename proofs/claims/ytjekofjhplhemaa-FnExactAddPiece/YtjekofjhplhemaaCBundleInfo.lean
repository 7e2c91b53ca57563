/- A bundle's size and zero value. -/
import Derived.Test.YtjekofjhplhemaaRows
import Derived.Test.YtjekofjhplhemaaMA
import Derived.WalkKit
namespace Go.Proofs.Ytjekofjhplhemaa
open Go.RowKit
theorem Try.infoBundle : (Try.prog.info? 35).map (fun i => (i.zero, i.size)) = some (some (.agg (Bd.cs B1.zero).toArray), 10) := by kernel_rfl
theorem Try.sizeBundle : (Try.prog.info? 35).map (·.size) = some 10 := by kernel_rfl
end Go.Proofs.Ytjekofjhplhemaa
