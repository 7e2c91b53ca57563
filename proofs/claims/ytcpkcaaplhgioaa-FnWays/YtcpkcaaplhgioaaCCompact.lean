/- slices.Compact of a row of numbers that the call owns, by the library's contract. -/
import Derived.Test.YtcpkcaaplhgioaaRows
import Derived.Test.YtcpkcaaplhgioaaM5
import Derived.Test.YtcpkcaaplhgioaaLayCmp
import Derived.Sort.OwnSortedInts
namespace Go.Proofs.Ytcpkcaaplhgioaa
open Go.RowKit Go.Sort
theorem compactI (base g cap : Nat) (zs : List Int) (w : World) (ho : w.ownsRow base 3 1 (.slice (some ⟨g, 0, none⟩) zs.length cap) zs.length (M4.iv zs)) (hz : zs.length ≤ 1048576) :
    Calls Try.prog 32 #[.slice (some ⟨g, 0, none⟩) zs.length cap] w fun e w' => e = .returned (.slice (some ⟨g, 0, none⟩) (Lib.compact zs).length cap) ∧ w.grownBy w' (some g) := by
  rcases ho.2 with ⟨h, _⟩ | ⟨g', cap', cur, hv, hbase, hb, h1, h2, h3, h4⟩
  · cases h
  · cases hv
    refine (Any.slices_Compact_int Try.laysLayCmp g 0 cap zs w (holds_of_blockI hb (by simpa [M4.iv] using h4)) (by omega) h1).mono ?_
    rintro e w' ⟨rfl, q, rfl⟩
    refine ⟨rfl, ?_⟩
    have := grownBy_sortedI (w := w) (g := g) (n := q) (os := #[]) (Lib.compact zs ++ List.replicate (zs.length - (Lib.compact zs).length) 0).toArray
    rwa [grow_empty] at this
theorem compactI_0 (a : Option Addr) (cap : Nat) (w : World) : Calls Try.prog 32 #[.slice a 0 cap] w fun e w' => e = .returned (.slice a 0 cap) ∧ w' = w :=
  Any.slices_Compact_int_empty Try.laysLayCmp a cap w
end Go.Proofs.Ytcpkcaaplhgioaa
