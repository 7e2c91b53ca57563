/- The sizes and the zero values of the arrays. -/
import Derived.Test.YtjekofjhplhemaaRows
import Derived.Test.YtjekofjhplhemaaMA
import Derived.WalkKit
namespace Go.Proofs.Ytjekofjhplhemaa
open Go.RowKit
theorem Try.infoMarks : (Try.prog.info? 82).map (fun i => (i.zero, i.size)) = some (some (.agg (MA.tF fun _ => false).toArray), 60) := by kernel_rfl
theorem Try.infoLetters : (Try.prog.info? 84).map (fun i => (i.zero, i.size)) = some (some (.agg (MA.yF fun _ => 0).toArray), 60) := by kernel_rfl
theorem Try.infoSheet : (Try.prog.info? 86).map (fun i => (i.zero, i.size)) = some (some (.agg (MA.sF PL.blank).toArray), 120) := by kernel_rfl
theorem Try.infoStack : (Try.prog.info? 88).map (fun i => (i.zero, i.size)) = some (some (.agg (.slice none 0 0 :: MA.sF PL.blank).toArray), 121) := by kernel_rfl
theorem Try.sizeMarks : (Try.prog.info? 82).map (·.size) = some 60 := by kernel_rfl
theorem Try.sizeLetters : (Try.prog.info? 84).map (·.size) = some 60 := by kernel_rfl
theorem Try.sizeSheet : (Try.prog.info? 86).map (·.size) = some 120 := by kernel_rfl
theorem Try.sizeStack : (Try.prog.info? 88).map (·.size) = some 121 := by kernel_rfl
end Go.Proofs.Ytjekofjhplhemaa
