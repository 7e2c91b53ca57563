/- One item that bytes begin with (chapter 2): plain facts, no program is named here. -/
import Derived.Test.YtdkhjnpdphnigaaM13
namespace Go.Proofs.Ytdkhjnpdphnigaa
namespace M15
/-- The item that bytes begin with, and how many bytes it takes. -/
def flat1 (l : List UInt8) : Option (It × Nat) := match M7.hd l with
  | none => none
  | some (m, n, c) =>
    if m = 0 then some (⟨1, (n : Int), ⟨#[]⟩, 0⟩, c)
    else if m = 4 then some (⟨4, 0, ⟨#[]⟩, (n : Int)⟩, c)
    else if m = 2 ∨ m = 3 then (if n ≤ l.length - c then some (⟨(m : Int), 0, ⟨((l.drop c).take n).toArray⟩, 0⟩, c + n) else none)
    else none
theorem take_add' (l : List UInt8) (c n : Nat) : l.take (c + n) = l.take c ++ (l.drop c).take n := List.take_add
/-- What an item that is read says. -/
theorem flat1_is {l : List UInt8} {x : It} {c : Nat} (h : flat1 l = some (x, c)) : 1 ≤ c ∧ c ≤ l.length ∧ l.take c = M12.ib x := by
  unfold flat1 at h
  cases hh : M7.hd l with
  | none => rw [hh] at h; cases h
  | some q =>
    obtain ⟨m, n, c0⟩ := q
    rw [hh] at h
    simp only at h
    obtain ⟨_, _, h1, h2, h3⟩ := M7.hd_is hh
    by_cases e0 : m = 0
    · subst e0
      simp only [if_true, Option.some.injEq, Prod.mk.injEq] at h
      obtain ⟨rfl, rfl⟩ := h
      exact ⟨h1, h2, by rw [h3, M13.ib1 rfl]; simp⟩
    · by_cases e4 : m = 4
      · subst e4
        simp at h
        obtain ⟨rfl, rfl⟩ := h
        exact ⟨h1, h2, by rw [h3, M13.ib4 (by simp) (by simp) (by simp)]; simp⟩
      · by_cases e23 : m = 2 ∨ m = 3
        · rw [if_neg e0, if_neg e4, if_pos e23] at h
          by_cases hn : n ≤ l.length - c0
          · rw [if_pos hn] at h
            simp only [Option.some.injEq, Prod.mk.injEq] at h
            obtain ⟨rfl, rfl⟩ := h
            refine ⟨by omega, by omega, ?_⟩
            have hsz : (⟨((l.drop c0).take n).toArray⟩ : ByteArray).size = n := by show (((l.drop c0).take n).toArray).size = n; simp; omega
            rcases e23 with rfl | rfl
            · rw [take_add', h3, M13.ib2 rfl]; simp only [hsz]; rfl
            · rw [take_add', h3, M13.ib3 rfl]; simp only [hsz]; rfl
          · rw [if_neg hn] at h; cases h
        · rw [if_neg e0, if_neg e4, if_neg e23] at h; cases h
/-- An item as it is read. -/
def can (x : It) : Prop := (∃ n : Nat, n ≤ 1000000000 ∧ x = ⟨1, (n : Int), ⟨#[]⟩, 0⟩) ∨ (∃ s : ByteArray, s.size ≤ 1000000000 ∧ x = ⟨2, 0, s, 0⟩) ∨ (∃ s : ByteArray, s.size ≤ 1000000000 ∧ x = ⟨3, 0, s, 0⟩) ∨ (∃ n : Nat, n ≤ 1000000000 ∧ x = ⟨4, 0, ⟨#[]⟩, (n : Int)⟩)
theorem fine_can {x : It} (h : M13.fine x) : can x := by
  obtain ⟨k, m, t, y⟩ := x
  rcases h with h | ⟨h, hy⟩
  · by_cases h1 : k = 1
    · subst h1
      rw [M12.leaf1 rfl] at h
      simp [okN] at h
      obtain ⟨⟨⟨a, b⟩, rfl⟩, rfl⟩ := h
      exact .inl ⟨m.toNat, by omega, by rw [Int.toNat_of_nonneg a]⟩
    · by_cases h2 : k = 2
      · subst h2
        rw [M12.leaf2 rfl] at h
        simp at h
        obtain ⟨⟨a, rfl⟩, rfl⟩ := h
        exact .inr (.inl ⟨t, by omega, rfl⟩)
      · by_cases h3 : k = 3
        · subst h3
          rw [M12.leaf3 rfl] at h
          simp at h
          obtain ⟨⟨⟨a, rfl⟩, rfl⟩, _⟩ := h
          exact .inr (.inr (.inl ⟨t, by omega, rfl⟩))
        · rw [M12.leaf0 h1 h2 h3] at h; cases h
  · unfold M12.lst at h
    simp at h
    obtain ⟨⟨⟨rfl, rfl⟩, rfl⟩, a⟩ := h
    exact .inr (.inr (.inr ⟨y.toNat, by simp only at hy; omega, by rw [Int.toNat_of_nonneg a]⟩))
theorem bytes_back (t : ByteArray) (r : List UInt8) : (⟨((M8.bl t ++ r).take t.size).toArray⟩ : ByteArray) = t := by
  apply M8.bl_inj
  show ((M8.bl t ++ r).take t.size) = M8.bl t
  rw [← M8.bl_len t, List.take_left]
/-- An item that was made is read. -/
theorem flat1_ib {x : It} (h : can x) (r : List UInt8) : flat1 (M12.ib x ++ r) = some (x, (M12.ib x).length) := by
  rcases h with ⟨n, hn, rfl⟩ | ⟨t, ht, rfl⟩ | ⟨t, ht, rfl⟩ | ⟨n, hn, rfl⟩
  · rw [M13.ib1 rfl]
    unfold flat1
    simp only [Int.toNat_natCast]
    rw [M7.hd_hb 0 n (by omega) hn]
    rfl
  · rw [M13.ib2 rfl, List.append_assoc]
    unfold flat1
    rw [M7.hd_hb 2 t.size (by omega) ht]
    simp only [List.drop_left, List.length_append, M8.bl_len, bytes_back]
    simp
  · rw [M13.ib3 rfl, List.append_assoc]
    unfold flat1
    rw [M7.hd_hb 3 t.size (by omega) ht]
    simp only [List.drop_left, List.length_append, M8.bl_len, bytes_back]
    simp
  · rw [M13.ib4 (by simp) (by simp) (by simp)]
    unfold flat1
    simp only [Int.toNat_natCast]
    rw [M7.hd_hb 4 n (by omega) hn]
    rfl
end M15
end Go.Proofs.Ytdkhjnpdphnigaa
