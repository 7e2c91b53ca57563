/- slices.Sort of a row of numbers that the call owns, by the library's contract. -/
import Derived.Test.YtfkmnmiolnijaaaRows
import Derived.Test.YtfkmnmiolnijaaaMSI
import Derived.Test.YtfkmnmiolnijaaaShelf
import Derived.Sort.OwnSortedInts
namespace Go.Proofs.Ytfkmnmiolnijaaa
open Go.RowKit
theorem sortsI : SortsI := by
  intro base g cap zs w ho hz
  rcases ho.2 with ⟨h, _⟩ | ⟨g', cap', cur, hv, hbase, hb, h1, h2, h3, h4⟩
  · cases h
  · cases hv
    refine (Try.slices_Sort_int g 0 cap zs w (holds_of_blockI hb (by simpa [M4.iv] using h4)) (Array.getElem?_eq_some_iff.1 hb).1 (by omega)).mono ?_
    rintro e w' ⟨rfl, n, os, rfl⟩
    refine ⟨rfl, ?_, grownBy_sortedI _⟩
    have := ownsRow_sortedI (n := n) (os := os) (ss := zs) (ts := zs.mergeSort fun x y => decide (x ≤ y)) (List.length_mergeSort _) hbase hb h1 h2 h3
    exact this
end Go.Proofs.Ytfkmnmiolnijaaa
