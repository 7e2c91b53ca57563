/- The items of a value, one by one, and their bytes: plain facts, no program is named here. -/
import Derived.Test.YtcpfbgogfhlmjaaDoorM12
namespace Go.Proofs.YtcpfbgogfhlmjaaDoor
namespace M13
open M12
/-- An item that may stand in a value. -/
def fine (x : It) : Prop := leaf x = true ∨ (lst x = true ∧ x.many ≤ 1000000000)
theorem nOf_items {f : List It → O} {n : Nat} (hf : ∀ l c d, l.length ≤ n → f l = some (c, d) → ∀ x ∈ l.take c, fine x) : ∀ (m : Nat) (l : List It) (c d : Nat), l.length ≤ n → nOf f m l = some (c, d) → ∀ x ∈ l.take c, fine x := by
  intro m
  induction m with
  | zero => intro l c d hl h; simp [nOf] at h; obtain ⟨rfl, rfl⟩ := h; simp
  | succ m ih =>
    intro l c d hl h
    rw [nOf] at h
    cases h1 : nOf f m l with
    | none => rw [h1] at h; cases h
    | some p =>
      obtain ⟨c1, d1⟩ := p
      rw [h1] at h
      simp only at h
      cases h2 : f (l.drop c1) with
      | none => rw [h2] at h; cases h
      | some p =>
        obtain ⟨c2, d2⟩ := p
        rw [h2] at h
        simp only [Option.some.injEq, Prod.mk.injEq] at h
        obtain ⟨rfl, _⟩ := h
        intro x hx
        rw [List.take_add] at hx
        rcases List.mem_append.1 hx with hx | hx
        · exact ih l c1 d1 hl h1 x hx
        · exact hf (l.drop c1) c2 d2 (by rw [List.length_drop]; omega) h2 x hx
theorem vl_items {n : Nat} (hn : n ≤ 1000000000) : ∀ (r : Nat) (l : List It) (c d : Nat), l.length ≤ n → vl r l = some (c, d) → ∀ x ∈ l.take c, fine x := by
  intro r
  induction r with
  | zero =>
    intro l c d _ h
    cases l with
    | nil => cases h
    | cons y l =>
      have h' : M12.step none (y :: l) = some (c, d) := h
      rw [step_cons] at h'
      cases h1 : leaf y <;> cases h2 : lst y <;> simp [h1, h2] at h'
      · obtain ⟨rfl, rfl⟩ := h'; intro x hx; simp at hx; subst hx; exact .inl h1
      · obtain ⟨rfl, rfl⟩ := h'; intro x hx; simp at hx; subst hx; exact .inl h1
  | succ r ih =>
    intro l c d hl h
    cases l with
    | nil => cases h
    | cons y l =>
      have h' : M12.step (some (vl r)) (y :: l) = some (c, d) := h
      rw [step_cons] at h'
      cases h1 : leaf y with
      | true => simp [h1] at h'; obtain ⟨rfl, rfl⟩ := h'; intro x hx; simp at hx; subst hx; exact .inl h1
      | false =>
        cases h2 : lst y with
        | false => simp [h1, h2] at h'
        | true =>
          cases h3 : nOf (vl r) y.many.toNat l with
          | none => simp [h1, h2, h3] at h'
          | some q =>
            obtain ⟨c1, d1⟩ := q
            simp [h1, h2, h3] at h'
            obtain ⟨rfl, rfl⟩ := h'
            simp only [List.length_cons] at hl
            have hlen := nOf_len (vl_len r) _ _ _ _ h3
            intro x hx
            rw [List.take_succ_cons] at hx
            rcases List.mem_cons.1 hx with rfl | hx
            · exact .inr ⟨h2, by omega⟩
            · exact nOf_items (n := n) ih _ l c1 d1 (by omega) h3 x hx
theorem one_some {l : List It} (h : one l = true) : l.length ≤ 40 ∧ ∃ d, vl 5 l = some (l.length, d) := by
  unfold one at h
  cases h5 : vl 5 l with
  | none => simp [h5] at h
  | some q =>
    obtain ⟨c, d⟩ := q
    simp [h5] at h
    exact ⟨h.1, d, by rw [h.2]⟩
theorem one_fine {l : List It} (h : one l = true) : ∀ j, j < l.length → fine (M11.at_ l j) := by
  obtain ⟨h40, d, h5⟩ := one_some h
  intro j hj
  rw [M11.at_eq l j hj]
  have := vl_items (n := 40) (by omega) 5 l l.length d h40 h5 l[j]
  rw [List.take_length] at this
  exact this (List.getElem_mem hj)
/-- What an item's kind says of it. -/
theorem fine1 {x : It} (h : fine x) (hk : x.kind = 1) : 0 ≤ x.num ∧ x.num ≤ 1000000000 := by
  rcases h with h | ⟨h, _⟩
  · rw [leaf1 hk] at h; simp [okN] at h; exact h.1.1
  · rw [lst0 (by omega)] at h; cases h
theorem fine23 {x : It} (h : fine x) (hk : x.kind = 2 ∨ x.kind = 3) : x.text.size ≤ 60 := by
  rcases h with h | ⟨h, _⟩
  · rcases hk with hk | hk
    · rw [leaf2 hk] at h; simp at h; exact h.1.1
    · rw [leaf3 hk] at h; simp at h; exact h.1.1.1
  · rw [lst0 (by omega)] at h; cases h
theorem fine4 {x : It} (h : fine x) (h1 : x.kind ≠ 1) (h2 : x.kind ≠ 2) (h3 : x.kind ≠ 3) : 0 ≤ x.many ∧ x.many ≤ 1000000000 := by
  rcases h with h | ⟨h, h'⟩
  · rw [leaf0 h1 h2 h3] at h; cases h
  · unfold lst at h; simp at h; exact ⟨h.2, h'⟩
theorem ib1 {x : It} (h : x.kind = 1) : ib x = M7.hb 0 x.num.toNat := if_pos h
theorem ib2 {x : It} (h : x.kind = 2) : ib x = M7.hb 2 x.text.size ++ M8.bl x.text := by unfold ib; rw [if_neg (by omega), if_pos h]
theorem ib3 {x : It} (h : x.kind = 3) : ib x = M7.hb 3 x.text.size ++ M8.bl x.text := by unfold ib; rw [if_neg (by omega), if_neg (by omega), if_pos h]
theorem ib4 {x : It} (h1 : x.kind ≠ 1) (h2 : x.kind ≠ 2) (h3 : x.kind ≠ 3) : ib x = M7.hb 4 x.many.toNat := by unfold ib; rw [if_neg h1, if_neg h2, if_neg h3]
theorem ib_len {x : It} (h : fine x) : (ib x).length ≤ 65 := by
  have p := fun m n => (M7.hb_pos m n).2
  by_cases h1 : x.kind = 1
  · rw [ib1 h1]; have := p 0 x.num.toNat; omega
  · by_cases h2 : x.kind = 2
    · rw [ib2 h2, List.length_append, M8.bl_len]; have := p 2 x.text.size; have := fine23 h (.inl h2); omega
    · by_cases h3 : x.kind = 3
      · rw [ib3 h3, List.length_append, M8.bl_len]; have := p 3 x.text.size; have := fine23 h (.inr h3); omega
      · rw [ib4 h1 h2 h3]; have := p 4 x.many.toNat; omega
theorem bytes_snoc (xs : List It) (k : Nat) (h : k < xs.length) : M12.bytes (xs.take (k + 1)) = M12.bytes (xs.take k) ++ ib (M11.at_ xs k) := by
  rw [List.take_succ_eq_append_getElem h, bytes_app, ← M11.at_eq xs k h]; simp [M12.bytes]
theorem bytes_take_len {xs : List It} (hf : ∀ j, j < xs.length → fine (M11.at_ xs j)) : ∀ k, k ≤ xs.length → (M12.bytes (xs.take k)).length ≤ 65 * k := by
  intro k
  induction k with
  | zero => intro _; simp [M12.bytes]
  | succ k ih =>
    intro hk
    rw [bytes_snoc xs k (by omega), List.length_append]
    have := ih (by omega)
    have := ib_len (hf k (by omega))
    omega
theorem bytes_len {xs : List It} (h : xs.length ≤ 40) (hf : ∀ j, j < xs.length → fine (M11.at_ xs j)) : (M12.bytes xs).length ≤ 2600 := by
  have := bytes_take_len hf xs.length (Nat.le_refl _)
  rw [List.take_length] at this
  omega
theorem text_app (A H : List UInt8) (t : ByteArray) : (⟨A.toArray⟩ : ByteArray) ++ (⟨H.toArray⟩ ++ t) = ⟨(A ++ (H ++ M8.bl t)).toArray⟩ := by
  apply ByteArray.ext; simp [M8.bl]
end M13
end Go.Proofs.YtcpfbgogfhlmjaaDoor
