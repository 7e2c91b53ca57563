/- A value told apart from a list. -/
import Derived.Test.YtkpkahhhmoaafabDoorRows
import Derived.Test.YtkpkahhhmoaafabDoorM14
import Derived.WalkKit
namespace Go.Proofs.YtkpkahhhmoaafabDoor
open Go.RowKit
theorem Tryd.taNL (n : Int) (w : World) : (Instr.typeAssert (.iface 90 (.int .i64 n)) 62 87 true).run Tryd.prog w = .ok (.tuple #[.slice none 0 0, .bool false]) w := by kernel_rfl
theorem Tryd.taBL (s : ByteArray) (w : World) : (Instr.typeAssert (.iface 84 (.string s)) 62 87 true).run Tryd.prog w = .ok (.tuple #[.slice none 0 0, .bool false]) w := by kernel_rfl
theorem Tryd.taTL (s : ByteArray) (w : World) : (Instr.typeAssert (.iface 85 (.string s)) 62 87 true).run Tryd.prog w = .ok (.tuple #[.slice none 0 0, .bool false]) w := by kernel_rfl
theorem Tryd.taLL (v : Value) (w : World) : (Instr.typeAssert (.iface 87 (v)) 62 87 true).run Tryd.prog w = .ok (.tuple #[v, .bool true]) w := by kernel_rfl
end Go.Proofs.YtkpkahhhmoaafabDoor
