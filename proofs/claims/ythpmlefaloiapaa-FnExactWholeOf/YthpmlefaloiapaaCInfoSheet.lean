/- The sizes and the zero values of the arrays. -/
import Derived.Test.YthpmlefaloiapaaRows
import Derived.Test.YthpmlefaloiapaaMA
import Derived.WalkKit
namespace Go.Proofs.Ythpmlefaloiapaa
open Go.RowKit
theorem Try.infoMarks : (Try.prog.info? 70).map (fun i => (i.zero, i.size)) = some (some (.agg (MA.tF fun _ => false).toArray), 60) := by kernel_rfl
theorem Try.infoLetters : (Try.prog.info? 72).map (fun i => (i.zero, i.size)) = some (some (.agg (MA.yF fun _ => 0).toArray), 60) := by kernel_rfl
theorem Try.infoSheet : (Try.prog.info? 74).map (fun i => (i.zero, i.size)) = some (some (.agg (MA.sF PL.blank).toArray), 120) := by kernel_rfl
theorem Try.infoStack : (Try.prog.info? 76).map (fun i => (i.zero, i.size)) = some (some (.agg (.slice none 0 0 :: MA.sF PL.blank).toArray), 121) := by kernel_rfl
theorem Try.sizeMarks : (Try.prog.info? 70).map (·.size) = some 60 := by kernel_rfl
theorem Try.sizeLetters : (Try.prog.info? 72).map (·.size) = some 60 := by kernel_rfl
theorem Try.sizeSheet : (Try.prog.info? 74).map (·.size) = some 120 := by kernel_rfl
theorem Try.sizeStack : (Try.prog.info? 76).map (·.size) = some 121 := by kernel_rfl
end Go.Proofs.Ythpmlefaloiapaa
