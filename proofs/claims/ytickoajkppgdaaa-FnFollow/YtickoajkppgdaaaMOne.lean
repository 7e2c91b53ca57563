/- The first number of a row. -/
import Derived.Test.YtickoajkppgdaaaRows
import Derived.Test.YtickoajkppgdaaaM5
namespace Go.Proofs.Ytickoajkppgdaaa
open Go.RowKit
theorem GP.own_cap {w : World} {base g n ca : Nat} {zs : List Value} (h : w.ownsRow base 3 1 (.slice (some ⟨g, 0, none⟩) n ca) n zs) : n ≤ ca ∧ ca ≤ maxLen := by
  rcases h.2 with ⟨h, _⟩ | ⟨g', c', cur, hv, _, _, h1, h2, _⟩
  · cases h
  · cases hv; exact ⟨h1, h2⟩
theorem GP.ints_one {w : World} {g : Nat} {L : List Int} (h : M4.IntsAt w (some ⟨g, 0, none⟩) L) (hl : 0 < L.length) : M4.IntsAt w (some ⟨g, 0, none⟩) [L.getD 0 0] ∧ w.cell? ⟨g, 0, none⟩ = some (.int .i64 (L.getD 0 0)) ∧ g < w.heap.size := by
  obtain ⟨b1, off1, he, hlt, hc⟩ := M4.IntsAt.at h hl
  cases he
  refine ⟨.inr ⟨g, 0, rfl, hlt, fun j hj => ?_⟩, hc, hlt⟩
  obtain rfl : j = 0 := by simpa using hj
  exact hc
end Go.Proofs.Ytickoajkppgdaaa
