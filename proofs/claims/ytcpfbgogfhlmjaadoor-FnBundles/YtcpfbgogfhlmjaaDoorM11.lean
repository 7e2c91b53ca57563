/- Rows of items in memory: plain facts, over whatever program. -/
import Derived.Test.YtcpfbgogfhlmjaaDoorM9
import Derived.Below
import Derived.ArgAppend
import Derived.OwnWalk
namespace Go.Proofs.YtcpfbgogfhlmjaaDoor
/-- An item's cells. -/
def It.cs (x : It) : List Value := [.int .i64 x.kind, .int .i64 x.num, .string x.text, .int .i64 x.many]
namespace M11
open Go.RowKit
def flat (xs : List It) : List Value := xs.flatMap It.cs
theorem flat_len (xs : List It) : (flat xs).length = xs.length * 4 := by
  induction xs with
  | nil => rfl
  | cons x xs ih => simp only [flat, List.flatMap_cons, List.length_append, List.length_cons] at *; rw [ih]; simp [It.cs]; omega
theorem flat_app (xs ys : List It) : flat (xs ++ ys) = flat xs ++ flat ys := by simp [flat]
def at_ (xs : List It) (j : Nat) : It := xs[j]?.getD M8.zero
theorem at_eq (xs : List It) (j : Nat) (h : j < xs.length) : at_ xs j = xs[j] := by simp [at_, List.getElem?_eq_getElem h]
theorem flat_get (xs : List It) (j i : Nat) (h : j < xs.length) (hi : i < 4) : (flat xs)[4 * j + i]? = (at_ xs j).cs[i]? := by
  induction xs generalizing j with
  | nil => simp at h
  | cons x xs ih =>
    have hx : x.cs.length = 4 := rfl
    cases j with
    | zero =>
      show (x.cs ++ flat xs)[4 * 0 + i]? = _
      rw [List.getElem?_append_left (by omega)]
      simp [at_]
    | succ j =>
      show (x.cs ++ flat xs)[4 * (j + 1) + i]? = _
      rw [List.getElem?_append_right (by omega), hx, show 4 * (j + 1) + i - 4 = 4 * j + i from by omega, ih j (by simpa using h)]
      simp [at_]
/-- No text is too long, no count too great. -/
def Wf (xs : List It) : Prop := ∀ j, j < xs.length → (at_ xs j).text.size ≤ 1048576 ∧ (at_ xs j).many ≤ 9223372036854775807
/-- The items xs lie at a slice's address (nothing is said of an empty slice's). -/
def ItemsAt (w : World) (a : Option Addr) (xs : List It) : Prop := xs = [] ∨ ∃ b off, a = some ⟨b, off, none⟩ ∧ b < w.heap.size ∧ ∀ j, j < xs.length →
  w.cell? ⟨b, off + j * 4, none⟩ = some (.int .i64 (at_ xs j).kind) ∧ w.cell? ⟨b, off + j * 4 + 1, none⟩ = some (.int .i64 (at_ xs j).num) ∧ w.cell? ⟨b, off + j * 4 + 2, none⟩ = some (.string (at_ xs j).text) ∧ w.cell? ⟨b, off + j * 4 + 3, none⟩ = some (.int .i64 (at_ xs j).many)
theorem ItemsAt.below {w w' : World} {a : Option Addr} {xs : List It} (h : ItemsAt w a xs) (hb : Below w.heap.size w w') : ItemsAt w' a xs := by
  rcases h with rfl | ⟨b, off, rfl, hlt, hc⟩
  · exact .inl rfl
  · refine .inr ⟨b, off, rfl, Nat.lt_of_lt_of_le hlt hb.size, fun j hj => ?_⟩
    obtain ⟨c0, c1, c2, c3⟩ := hc j hj
    exact ⟨(hb.cell (p := ⟨b, _, none⟩) hlt).trans c0, (hb.cell (p := ⟨b, _, none⟩) hlt).trans c1, (hb.cell (p := ⟨b, _, none⟩) hlt).trans c2, (hb.cell (p := ⟨b, _, none⟩) hlt).trans c3⟩
theorem ItemsAt.at {w : World} {a : Option Addr} {xs : List It} (h : ItemsAt w a xs) {k : Nat} (hk : k < xs.length) : ∃ b off, a = some ⟨b, off, none⟩ ∧ b < w.heap.size ∧
    w.cell? ⟨b, off + k * 4, none⟩ = some (.int .i64 (at_ xs k).kind) ∧ w.cell? ⟨b, off + k * 4 + 1, none⟩ = some (.int .i64 (at_ xs k).num) ∧ w.cell? ⟨b, off + k * 4 + 2, none⟩ = some (.string (at_ xs k).text) ∧ w.cell? ⟨b, off + k * 4 + 3, none⟩ = some (.int .i64 (at_ xs k).many) := by
  rcases h with rfl | ⟨b, off, rfl, hlt, hc⟩
  · simp at hk
  · exact ⟨b, off, rfl, hlt, hc k hk⟩
/-- A row of items that the call owns. -/
theorem ItemsAt.of_own {w : World} {base e g n cap : Nat} {xs : List It} (h : w.ownsRow base e 4 (.slice (some ⟨g, 0, none⟩) n cap) n (flat xs)) : ItemsAt w (some ⟨g, 0, none⟩) xs := by
  have hlen : xs.length = n := by have := h.1; rw [flat_len] at this; omega
  have hc : ∀ j i, j < xs.length → i < 4 → w.cell? ⟨g, j * 4 + i, none⟩ = (at_ xs j).cs[i]? := fun j i hj hi => by
    rw [h.cellAt (j * 4 + i) (by omega), ← flat_get xs j i hj hi, Nat.mul_comm]
  refine .inr ⟨g, 0, rfl, (h.lt g rfl).2, fun j hj => ?_⟩
  refine ⟨?_, ?_, ?_, ?_⟩
  · rw [Nat.zero_add]; exact hc j 0 hj (by omega)
  · rw [Nat.zero_add]; exact hc j 1 hj (by omega)
  · rw [Nat.zero_add]; exact hc j 2 hj (by omega)
  · rw [Nat.zero_add]; exact hc j 3 hj (by omega)
/-- The first k items, then what lay there. -/
def mix (xs : List It) (m : List Value) (k : Nat) : List Value := flat (xs.take k) ++ m.drop (k * 4)
theorem mix_zero (xs : List It) (m : List Value) : mix xs m 0 = m := by simp [mix, flat]
theorem mix_all (xs : List It) (m : List Value) (h : m.length = xs.length * 4) : mix xs m xs.length = flat xs := by simp [mix, ← h]
theorem mix_len (xs : List It) (m : List Value) (k : Nat) (h : m.length = xs.length * 4) (hk : k ≤ xs.length) : (mix xs m k).length = xs.length * 4 := by
  simp [mix, flat_len]; omega
theorem set4 (A C : List Value) (p : Nat) (hp : A.length = p) (b0 b1 b2 b3 c0 c1 c2 c3 : Value) :
    ((((A ++ b0 :: b1 :: b2 :: b3 :: C).set p c0).set (p + 1) c1).set (p + 2) c2).set (p + 3) c3 = A ++ c0 :: c1 :: c2 :: c3 :: C := by
  subst hp
  simp
theorem four (l : List Value) (h : 4 ≤ l.length) : ∃ b0 b1 b2 b3 C, l = b0 :: b1 :: b2 :: b3 :: C := by
  match l, h with
  | b0 :: b1 :: b2 :: b3 :: C, _ => exact ⟨b0, b1, b2, b3, C, rfl⟩
theorem mix_set (xs : List It) (m : List Value) (k : Nat) (h : m.length = xs.length * 4) (hk : k < xs.length) :
    ((((mix xs m k).set (k * 4) (.int .i64 (at_ xs k).kind)).set (k * 4 + 1) (.int .i64 (at_ xs k).num)).set (k * 4 + 2) (.string (at_ xs k).text)).set (k * 4 + 3) (.int .i64 (at_ xs k).many) = mix xs m (k + 1) := by
  obtain ⟨b0, b1, b2, b3, C, e⟩ := four (m.drop (k * 4)) (by simp; omega)
  unfold mix
  rw [e, set4 _ _ (k * 4) (by rw [flat_len, List.length_take]; omega)]
  have e2 : m.drop ((k + 1) * 4) = C := by
    have : m.drop ((k + 1) * 4) = (m.drop (k * 4)).drop 4 := by rw [List.drop_drop]; congr 1; omega
    rw [this, e]; rfl
  rw [e2, List.take_succ_eq_append_getElem hk, flat_app, ← at_eq xs k hk]
  simp [flat, It.cs]
theorem own_below {w w' : World} {base e sz n : Nat} {v : Value} {xs : List Value} (h : w.ownsRow base e sz v n xs) (hb : Below w.heap.size w w') : w'.ownsRow base e sz v n xs := by
  refine ⟨h.1, ?_⟩
  rcases h.2 with h' | ⟨g, cap, cur, h1, h2, h3, h4⟩
  · exact .inl h'
  · refine .inr ⟨g, cap, cur, h1, h2, ?_, h4⟩
    rw [hb.block g (by have := (Array.getElem?_eq_some_iff.1 h3).1; exact this)]; exact h3
theorem some_at {w : World} {base e sz g n cap : Nat} {xs : List Value} (h : w.ownsRow base e sz (.slice (some ⟨g, 0, none⟩) n cap) n xs) (j : Nat) (hj : j < n * sz) : ∃ y, w.cell? ⟨g, j, none⟩ = some y := by
  rw [h.cellAt j hj]
  exact ⟨_, List.getElem?_eq_getElem (by rw [h.1]; exact hj)⟩
end M11
end Go.Proofs.YtcpfbgogfhlmjaaDoor
