/- An item's size. -/
import Derived.Test.YtkpkahhhmoaafabDoorRows
import Derived.Test.YtkpkahhhmoaafabDoorM11
import Derived.WalkKit
namespace Go.Proofs.YtkpkahhhmoaafabDoor
open Go.RowKit
theorem Tryd.infoItem : (Tryd.prog.info? 52).map (fun i => (i.zero, i.size, i.bytes)) = some (some (.agg #[.int .i64 0, .int .i64 0, .string ⟨#[]⟩, .int .i64 0]), 4, 40) := by kernel_rfl
end Go.Proofs.YtkpkahhhmoaafabDoor
