/- Rows of bundles, by ranges of cells: plain laws, over whatever program. -/
import Derived.Test.YtdgflhgbcfehhaaMA
namespace Go.Proofs.Ytdgflhgbcfehhaa
namespace MA
open Go.RowKit
theorem Rg.part {w : World} {k o : Nat} {cs : List Value} (h : Rg w k o cs) {p n : Nat} (hp : p + n ≤ cs.length) : Rg w k (o + p) ((cs.drop p).take n) := by
  refine ⟨h.lt, fun j v hv => ?_, fun j hj => ?_⟩
  · have hj : j < n := by
      have := (List.getElem?_eq_some_iff.1 hv).1
      simp at this; omega
    rw [List.getElem?_take_of_lt hj, List.getElem?_drop] at hv
    rw [Nat.add_assoc]
    exact h.rng (p + j) v hv
  · have : j < n := by simp at hj; omega
    rw [Nat.add_assoc]
    exact h.ok (p + j) (by omega)
theorem Rg.of_own {w : World} {base e sz g n cap : Nat} {xs : List Value} (h : w.ownsRow base e sz (.slice (some ⟨g, 0, none⟩) n cap) n xs) : Rg w g 0 xs := by
  have hl := h.1
  refine ⟨(h.lt g rfl).2, fun j v hv => ?_, fun j hj => ⟨?_, ?_⟩⟩
  · have hj := (List.getElem?_eq_some_iff.1 hv).1
    rw [Nat.zero_add, h.cellAt j (by omega)]; exact hv
  · rw [Nat.zero_add, h.cellAt j (by omega)]; simp [hj]
  · rw [Nat.zero_add]; exact h.frozenAt j
theorem mix_mid (xs : List Bd) (m : List Value) (k : Nat) (_h : m.length = xs.length * 10) (hk : k < xs.length) : (MP.mix xs m k).take (k * 10) ++ ((MP.at_ xs k).cs ++ (MP.mix xs m k).drop (k * 10 + (MP.at_ xs k).cs.length)) = MP.mix xs m (k + 1) := by
  have hf : (MP.flat (xs.take k)).length = k * 10 := by rw [MP.flat_len, List.length_take]; omega
  have hc : (MP.at_ xs k).cs.length = 10 := rfl
  unfold MP.mix
  rw [List.take_append_of_le_length (by omega), List.take_of_length_le (by omega), hc, List.drop_append, hf, List.drop_of_length_le (by omega), List.nil_append, List.drop_drop, List.take_succ_eq_append_getElem hk, MP.flat_app, ← MP.at_eq xs k hk]
  have e : k * 10 + (k * 10 + 10 - k * 10) = (k + 1) * 10 := by omega
  rw [e]
  simp [MP.flat, List.append_assoc]
theorem Rg.row {w : World} {g : Nat} {xs : List Bd} (h : Rg w g 0 (MP.flat xs)) : MP.BsAt w (some ⟨g, 0, none⟩) xs := by
  have hc : ∀ j i v, j < xs.length → i < 10 → (MP.at_ xs j).cs[i]? = some v → w.cell? ⟨g, 0 + j * 10 + i, none⟩ = some v := fun j i v hj hi hv => by
    rw [Nat.zero_add]
    have := h.cell (j := j * 10 + i) (v := v) (by rw [Nat.mul_comm, MP.flat_get xs j i hj hi]; exact hv)
    rwa [Nat.zero_add] at this
  refine .inr ⟨g, 0, rfl, h.lt, fun j hj => ?_⟩
  exact ⟨hc j 0 _ hj (by omega) rfl, hc j 1 _ hj (by omega) rfl, hc j 2 _ hj (by omega) rfl, hc j 3 _ hj (by omega) rfl, hc j 4 _ hj (by omega) rfl, hc j 5 _ hj (by omega) rfl, hc j 6 _ hj (by omega) rfl, hc j 7 _ hj (by omega) rfl, hc j 8 _ hj (by omega) rfl, hc j 9 _ hj (by omega) rfl⟩
end MA
end Go.Proofs.Ytdgflhgbcfehhaa
