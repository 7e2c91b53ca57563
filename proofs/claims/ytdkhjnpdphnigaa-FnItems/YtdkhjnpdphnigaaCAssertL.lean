/- A value told apart from a list. -/
import Derived.Test.YtdkhjnpdphnigaaRows
import Derived.Test.YtdkhjnpdphnigaaM14
import Derived.WalkKit
namespace Go.Proofs.Ytdkhjnpdphnigaa
open Go.RowKit
theorem Try.taNL (n : Int) (w : World) : (Instr.typeAssert (.iface 79 (.int .i64 n)) 47 77 true).run Try.prog w = .ok (.tuple #[.slice none 0 0, .bool false]) w := by kernel_rfl
theorem Try.taBL (s : ByteArray) (w : World) : (Instr.typeAssert (.iface 74 (.string s)) 47 77 true).run Try.prog w = .ok (.tuple #[.slice none 0 0, .bool false]) w := by kernel_rfl
theorem Try.taTL (s : ByteArray) (w : World) : (Instr.typeAssert (.iface 75 (.string s)) 47 77 true).run Try.prog w = .ok (.tuple #[.slice none 0 0, .bool false]) w := by kernel_rfl
theorem Try.taLL (v : Value) (w : World) : (Instr.typeAssert (.iface 77 (v)) 47 77 true).run Try.prog w = .ok (.tuple #[v, .bool true]) w := by kernel_rfl
end Go.Proofs.Ytdkhjnpdphnigaa
