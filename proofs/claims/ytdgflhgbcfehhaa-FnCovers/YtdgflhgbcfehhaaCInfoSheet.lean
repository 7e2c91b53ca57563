/- The sizes and the zero values of the arrays. -/
import Derived.Test.YtdgflhgbcfehhaaRows
import Derived.Test.YtdgflhgbcfehhaaMA
import Derived.WalkKit
namespace Go.Proofs.Ytdgflhgbcfehhaa
open Go.RowKit
theorem Try.infoMarks : (Try.prog.info? 69).map (fun i => (i.zero, i.size)) = some (some (.agg (MA.tF fun _ => false).toArray), 60) := by kernel_rfl
theorem Try.infoLetters : (Try.prog.info? 71).map (fun i => (i.zero, i.size)) = some (some (.agg (MA.yF fun _ => 0).toArray), 60) := by kernel_rfl
theorem Try.infoSheet : (Try.prog.info? 73).map (fun i => (i.zero, i.size)) = some (some (.agg (MA.sF PL.blank).toArray), 120) := by kernel_rfl
theorem Try.infoStack : (Try.prog.info? 75).map (fun i => (i.zero, i.size)) = some (some (.agg (.slice none 0 0 :: MA.sF PL.blank).toArray), 121) := by kernel_rfl
theorem Try.sizeMarks : (Try.prog.info? 69).map (·.size) = some 60 := by kernel_rfl
theorem Try.sizeLetters : (Try.prog.info? 71).map (·.size) = some 60 := by kernel_rfl
theorem Try.sizeSheet : (Try.prog.info? 73).map (·.size) = some 120 := by kernel_rfl
theorem Try.sizeStack : (Try.prog.info? 75).map (·.size) = some 121 := by kernel_rfl
end Go.Proofs.Ytdgflhgbcfehhaa
