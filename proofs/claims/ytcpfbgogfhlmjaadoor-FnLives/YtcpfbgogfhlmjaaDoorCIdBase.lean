/- The ids of good bundles, the specification's and the program's. -/
import Derived.Test.YtcpfbgogfhlmjaaDoorRows
import Derived.Test.YtcpfbgogfhlmjaaDoorCGoodBundle
import Derived.Test.YtcpfbgogfhlmjaaDoorCIdI
import Derived.WalkKit
import Derived.WalkSpells
import Derived.WalkLawsBesides
import Derived.Outline
namespace Go.Proofs.YtcpfbgogfhlmjaaDoor
open Go.RowKit
/-- What IdOf answers. -/
def idR (b : Bd) : ByteArray := if B1.good b = true then ⟨(idOf b.fr.toNat b.md.toNat b.no.toNat).toArray⟩ else ⟨#[]⟩
theorem ret_sbB {s t : ByteArray} {a b : Bool} (h1 : s = t) (h2 : a = b) : Ending.returned (.tuple #[.string s, .bool a]) = .returned (.tuple #[.string t, .bool b]) := by rw [h1, h2]
theorem idR_no {b : Bd} (h : B1.good b = false) : ⟨#[]⟩ = idR b := by simp [idR, h]
theorem idR_yes {b : Bd} (h : B1.good b = true) : (⟨(idOf b.fr.toNat b.md.toNat b.no.toNat).toArray⟩ : ByteArray) = idR b := by simp [idR, h]
theorem l3Id_good {b : Bd} (h : B1.good b = true) (W : World) : Calls Tryd.prog 45 #[b.v] W fun e w' => e = .returned (.string (idR b)) ∧ Below W.heap.size W w' := by
  obtain ⟨g1, g2, g3, g4, g5⟩ := B1.good_is h
  rw [← idR_yes h]
  obtain ⟨fr, to, gr, md, no, lf, hp, of, tl, py⟩ := b
  simp only at g1 g3 g4
  obtain ⟨fr, rfl⟩ := Int.eq_ofNat_of_zero_le g1.1
  obtain ⟨md, rfl⟩ := Int.eq_ofNat_of_zero_le g3.1
  obtain ⟨no, rfl⟩ := Int.eq_ofNat_of_zero_le g4.1
  exact l3Id_any fr md no to gr lf hp of tl py W (by omega) (by omega) (by omega)
theorem implId_good {b : Bd} (h : B1.good b = true) (W : World) (hT : PTab W) : Calls Tryd.prog 44 #[b.head] W fun e w' => e = .returned (.string (idR b)) ∧ Below W.heap.size W w' := by
  obtain ⟨g1, g2, g3, g4, g5⟩ := B1.good_is h
  rw [← idR_yes h]
  obtain ⟨fr, to, gr, md, no, lf, hp, of, tl, py⟩ := b
  simp only at g1 g3 g4
  obtain ⟨fr, rfl⟩ := Int.eq_ofNat_of_zero_le g1.1
  obtain ⟨md, rfl⟩ := Int.eq_ofNat_of_zero_le g3.1
  obtain ⟨no, rfl⟩ := Int.eq_ofNat_of_zero_le g4.1
  exact implId_any fr md no to gr lf hp W (by omega) (by omega) (by omega) hT
end Go.Proofs.YtcpfbgogfhlmjaaDoor
