/- A laying of the library's contracts at this program, laid by the kit's command. -/
import Derived.Ground.Names2Prog
import Derived.Shelf.Spec.SlicesInsertGrow
import Derived.Test.YtdglialjcibbbaaProg
namespace Go.Proofs
open Go.Shelf
def Try.laysLayIns_ren : Go.Shelf.Ren := ⟨fun | 21 => 64 | 27 => 80 | 28 => 81 | 35 => 90 | 39 => 93 | n => n, fun | 22 => 24 | 3 => 3 | 4 => 4 | 0 => 0 | n => n, fun | n => n⟩
theorem Try.laysLayIns : Go.Proofs.Lays2.n21 Try.prog Try.laysLayIns_ren := {
  mixed := by kernel_rfl
  f21 := Try.func64.trans (congrArg some (by kernel_rfl))
  f27 := Try.func80.trans (congrArg some (by kernel_rfl))
  f28 := Try.func81.trans (congrArg some (by kernel_rfl))
  f35 := Try.func90.trans (congrArg some (by kernel_rfl))
  f39 := Try.func93.trans (congrArg some (by kernel_rfl))
  t0 := Try.underlying0
  a0 := Try.isAgg0
  z0 := Try.sizeOf0
  v0 := Try.zeroValue0
  t3 := Try.underlying3
  a3 := Try.isAgg3
  z3 := Try.sizeOf3
  v3 := Try.zeroValue3
  t4 := Try.underlying4
  a4 := Try.isAgg4
  z4 := Try.sizeOf4
  v4 := Try.zeroValue4
  t22 := Try.underlying24
  a22 := Try.isAgg24
  z22 := Try.sizeOf24
  v22 := Try.zeroValue24
  i3 := by kernel_rfl }
end Go.Proofs
