/- Rows of bundles that the call owns: plain laws, over whatever program. -/
import Derived.Test.YtjekofjhplhemaaMA2
namespace Go.Proofs.Ytjekofjhplhemaa
namespace MA
open Go.RowKit
theorem own_cells {w : World} {base e sz g n : Nat} {cs vs : List Value} (h : w.ownsRow base e sz (.slice (some ⟨g, 0, none⟩) n n) n cs) {p : Nat} (hp : p + vs.length ≤ cs.length) : (w.setCells g p vs).ownsRow base e sz (.slice (some ⟨g, 0, none⟩) n n) n (cs.take p ++ (vs ++ cs.drop (p + vs.length))) := by
  induction vs generalizing w cs p with
  | nil => simpa [World.setCells] using h
  | cons v r ih =>
    have h1 := (World.ownsRow.stored h p v).1
    have hl : (v :: r).length = r.length + 1 := rfl
    have hlt : p < cs.length := by omega
    have h2 := ih (p := p + 1) h1 (by simp; omega)
    have e : (cs.set p v).take (p + 1) ++ (r ++ (cs.set p v).drop (p + 1 + r.length)) = cs.take p ++ (v :: r ++ cs.drop (p + (v :: r).length)) := by
      obtain ⟨A, c, B, rfl, rfl⟩ : ∃ A c B, cs = A ++ c :: B ∧ A.length = p := ⟨cs.take p, cs[p], cs.drop (p + 1), by simp, by simp; omega⟩
      have e1 : A.length + 1 - A.length = 1 := by omega
      have e2 : A.length + 1 + r.length - A.length = r.length + 1 := by omega
      have e3 : A.length + (r.length + 1) - A.length = r.length + 1 := by omega
      simp [List.take_append, List.drop_append, e1, e2, e3, List.drop_of_length_le (l := A) (i := A.length + 1 + r.length) (by omega), List.drop_of_length_le (l := A) (i := A.length + (r.length + 1)) (by omega)]
      exact List.take_of_length_le (by omega)
    rw [e] at h2
    exact h2
theorem own_base {w : World} {base base' e sz n : Nat} {v : Value} {xs : List Value} (h : w.ownsRow base e sz v n xs) (hb : base' ≤ base) : w.ownsRow base' e sz v n xs := by
  refine ⟨h.1, ?_⟩
  rcases h.2 with h' | ⟨g, cap, cur, h1, h2, h3⟩
  · exact .inl h'
  · exact .inr ⟨g, cap, cur, h1, by omega, h3⟩
end MA
end Go.Proofs.Ytjekofjhplhemaa
