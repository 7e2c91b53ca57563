/- A bundle's size and zero value. -/
import Derived.Test.YthpmlefaloiapabRows
import Derived.Test.YthpmlefaloiapabMA
import Derived.WalkKit
namespace Go.Proofs.Ythpmlefaloiapab
open Go.RowKit
theorem Try.infoBundle : (Try.prog.info? 25).map (fun i => (i.zero, i.size)) = some (some (.agg (Bd.cs B1.zero).toArray), 10) := by kernel_rfl
theorem Try.sizeBundle : (Try.prog.info? 25).map (·.size) = some 10 := by kernel_rfl
end Go.Proofs.Ythpmlefaloiapab
