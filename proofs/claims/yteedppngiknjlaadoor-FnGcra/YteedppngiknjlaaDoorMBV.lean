/- Rows of truth values that a call owns: plain facts, over whatever program. -/
import Derived.Test.YteedppngiknjlaaDoorM4
namespace Go.Proofs.YteedppngiknjlaaDoor
namespace BV
open Go.RowKit
def bv (l : List Bool) : List Value := l.map Value.bool
theorem bv_len (l : List Bool) : (bv l).length = l.length := by simp [bv]
theorem bv_get {l : List Bool} {j : Nat} (h : j < l.length) : (bv l)[j]? = some (.bool (l.getD j false)) := by
  simp [bv, List.getElem?_eq_getElem h]
theorem bv_set (l : List Bool) (k : Nat) (z : Bool) : (bv l).set k (.bool z) = bv (l.set k z) := by simp [bv, List.map_set]
theorem bv_app (l m : List Bool) : bv (l ++ m) = bv l ++ bv m := by simp [bv]
theorem made_bv (n : Nat) : (madeCells #[Value.bool false] n).toList = bv (List.replicate n false) := by
  rw [toList_madeCells_one]; simp [bv]
theorem one1 (z : Bool) : ∀ u ∈ [Value.bool z], u.oneCell' = true := by intro u hu; simp at hu; subst hu; rfl
/-- The truth values l lie at a slice's address (nothing is said of an empty slice's). -/
structure BoolsAt (w : World) (a : Option Addr) (l : List Bool) : Prop where
  is : l = [] ∨ ∃ b, a = some ⟨b, 0, none⟩ ∧ b < w.heap.size ∧ ∀ j, j < l.length → w.cell? ⟨b, j, none⟩ = some (.bool (l.getD j false))
theorem BoolsAt.below {w w' : World} {a : Option Addr} {l : List Bool} (h : BoolsAt w a l) (hb : Below w.heap.size w w') : BoolsAt w' a l := by
  rcases h.is with rfl | ⟨b, rfl, hlt, hc⟩
  · exact ⟨.inl rfl⟩
  · exact ⟨.inr ⟨b, rfl, Nat.lt_of_lt_of_le hlt hb.size, fun j hj => (hb.cell (p := ⟨b, j, none⟩) hlt).trans (hc j hj)⟩⟩
theorem BoolsAt.at {w : World} {a : Option Addr} {l : List Bool} (h : BoolsAt w a l) {k : Nat} (hk : k < l.length) : ∃ b, a = some ⟨b, 0, none⟩ ∧ b < w.heap.size ∧ w.cell? ⟨b, k, none⟩ = some (.bool (l.getD k false)) := by
  rcases h.is with rfl | ⟨b, rfl, hlt, hc⟩
  · simp at hk
  · exact ⟨b, rfl, hlt, hc k hk⟩
theorem of_own {w : World} {base e n cap : Nat} {a : Option Addr} {l : List Bool} (h : w.ownsRow base e 1 (.slice a n cap) n (bv l)) : BoolsAt w a l := by
  have hlen : l.length = n := by have := h.1; simpa [bv] using this
  rcases h.2 with ⟨hv, h0⟩ | ⟨g, cap', cur, hv, -⟩
  · exact ⟨.inl (List.eq_nil_of_length_eq_zero (by omega))⟩
  · cases hv
    refine ⟨.inr ⟨g, rfl, (h.lt g rfl).2, fun j hj => ?_⟩⟩
    rw [h.cellAt j (by omega)]
    exact bv_get hj
theorem own_le {w : World} {base base' e sz n : Nat} {v : Value} {xs : List Value} (h : w.ownsRow base' e sz v n xs) (hb : base ≤ base') : w.ownsRow base e sz v n xs := by
  refine ⟨h.1, ?_⟩
  rcases h.2 with h' | ⟨g, cap, cur, h1, h2, h3⟩
  · exact .inl h'
  · exact .inr ⟨g, cap, cur, h1, by omega, h3⟩
theorem own_slice {w : World} {base e sz n : Nat} {v : Value} {xs : List Value} (h : w.ownsRow base e sz v n xs) : ∃ a c, v = .slice a n c := by
  rcases h.2 with ⟨rfl, h0⟩ | ⟨g, cap, cur, rfl, -⟩
  · subst h0; exact ⟨none, 0, rfl⟩
  · exact ⟨_, cap, rfl⟩
end BV
end Go.Proofs.YteedppngiknjlaaDoor
