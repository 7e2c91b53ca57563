/- Rows of structs of 4 numbers in memory: plain facts, over whatever program. -/
import Derived.Test.YtfkmnmiolnijaaaM4
import Derived.Below
import Derived.ArgAppend
import Derived.OwnWalk
namespace Go.Proofs.Ytfkmnmiolnijaaa
structure I4 where
  a0 : Int
  a1 : Int
  a2 : Int
  a3 : Int
  deriving DecidableEq
def I4.cs (x : I4) : List Value := [.int .i64 x.a0, .int .i64 x.a1, .int .i64 x.a2, .int .i64 x.a3]
abbrev I4.v (x : I4) : Value := .agg #[.int .i64 x.a0, .int .i64 x.a1, .int .i64 x.a2, .int .i64 x.a3]
def I4.zero : I4 := ⟨0, 0, 0, 0⟩
instance : Inhabited I4 := ⟨I4.zero⟩
namespace MI4
open Go.RowKit
def flat (xs : List I4) : List Value := xs.flatMap I4.cs
theorem flat_len (xs : List I4) : (flat xs).length = xs.length * 4 := by
  induction xs with
  | nil => rfl
  | cons x xs ih => simp only [flat, List.flatMap_cons, List.length_append, List.length_cons] at *; rw [ih]; simp [I4.cs]; omega
theorem flat_app (xs ys : List I4) : flat (xs ++ ys) = flat xs ++ flat ys := by simp [flat]
def at_ (xs : List I4) (j : Nat) : I4 := xs[j]?.getD I4.zero
theorem at_eq (xs : List I4) (j : Nat) (h : j < xs.length) : at_ xs j = xs[j] := by simp [at_, List.getElem?_eq_getElem h]
theorem flat_get (xs : List I4) (j i : Nat) (h : j < xs.length) (hi : i < 4) : (flat xs)[4 * j + i]? = (at_ xs j).cs[i]? := by
  induction xs generalizing j with
  | nil => simp at h
  | cons x xs ih =>
    have hx : x.cs.length = 4 := rfl
    cases j with
    | zero =>
      show (x.cs ++ flat xs)[4 * 0 + i]? = _
      rw [List.getElem?_append_left (by omega)]
      simp [at_]
    | succ j =>
      show (x.cs ++ flat xs)[4 * (j + 1) + i]? = _
      rw [List.getElem?_append_right (by omega), hx, show 4 * (j + 1) + i - 4 = 4 * j + i from by omega, ih j (by simpa using h)]
      simp [at_]
/-- The structs xs lie at a slice's address (nothing is said of an empty slice's). -/
structure RowAt (w : World) (a : Option Addr) (xs : List I4) : Prop where
  is : xs = [] ∨ ∃ b off, a = some ⟨b, off, none⟩ ∧ b < w.heap.size ∧ ∀ j, j < xs.length →
  w.cell? ⟨b, off + j * 4, none⟩ = some (.int .i64 (at_ xs j).a0) ∧ w.cell? ⟨b, off + j * 4 + 1, none⟩ = some (.int .i64 (at_ xs j).a1) ∧ w.cell? ⟨b, off + j * 4 + 2, none⟩ = some (.int .i64 (at_ xs j).a2) ∧ w.cell? ⟨b, off + j * 4 + 3, none⟩ = some (.int .i64 (at_ xs j).a3)
theorem RowAt.below {w w' : World} {a : Option Addr} {xs : List I4} (h : RowAt w a xs) (hb : Below w.heap.size w w') : RowAt w' a xs := by
  rcases h.is with rfl | ⟨b, off, rfl, hlt, hc⟩
  · exact ⟨.inl rfl⟩
  · refine ⟨.inr ⟨b, off, rfl, Nat.lt_of_lt_of_le hlt hb.size, fun j hj => ?_⟩⟩
    obtain ⟨c0, c1, c2, c3⟩ := hc j hj
    exact ⟨(hb.cell (p := ⟨b, _, none⟩) hlt).trans c0, (hb.cell (p := ⟨b, _, none⟩) hlt).trans c1, (hb.cell (p := ⟨b, _, none⟩) hlt).trans c2, (hb.cell (p := ⟨b, _, none⟩) hlt).trans c3⟩
theorem RowAt.at {w : World} {a : Option Addr} {xs : List I4} (h : RowAt w a xs) {j : Nat} (hk : j < xs.length) : ∃ b off, a = some ⟨b, off, none⟩ ∧ b < w.heap.size ∧
    w.cell? ⟨b, off + j * 4, none⟩ = some (.int .i64 (at_ xs j).a0) ∧ w.cell? ⟨b, off + j * 4 + 1, none⟩ = some (.int .i64 (at_ xs j).a1) ∧ w.cell? ⟨b, off + j * 4 + 2, none⟩ = some (.int .i64 (at_ xs j).a2) ∧ w.cell? ⟨b, off + j * 4 + 3, none⟩ = some (.int .i64 (at_ xs j).a3) := by
  rcases h.is with rfl | ⟨b, off, rfl, hlt, hc⟩
  · simp at hk
  · exact ⟨b, off, rfl, hlt, hc j hk⟩
theorem RowAt.at0 {w : World} {g : Nat} {xs : List I4} (h : RowAt w (some ⟨g, 0, none⟩) xs) {j : Nat} (hk : j < xs.length) : g < w.heap.size ∧
    w.cell? ⟨g, j * 4, none⟩ = some (.int .i64 (at_ xs j).a0) ∧ w.cell? ⟨g, j * 4 + 1, none⟩ = some (.int .i64 (at_ xs j).a1) ∧ w.cell? ⟨g, j * 4 + 2, none⟩ = some (.int .i64 (at_ xs j).a2) ∧ w.cell? ⟨g, j * 4 + 3, none⟩ = some (.int .i64 (at_ xs j).a3) := by
  obtain ⟨b, off, he, hlt, c0, c1, c2, c3⟩ := h.at hk
  simp only [Option.some.injEq, Addr.mk.injEq] at he
  obtain ⟨rfl, rfl, -⟩ := he
  rw [Nat.zero_add] at c0 c1 c2 c3
  exact ⟨hlt, c0, c1, c2, c3⟩
/-- A row of structs that the call owns. -/
theorem RowAt.of_own {w : World} {base e g n cap : Nat} {xs : List I4} (h : w.ownsRow base e 4 (.slice (some ⟨g, 0, none⟩) n cap) n (flat xs)) : RowAt w (some ⟨g, 0, none⟩) xs := by
  have hlen : xs.length = n := by have := h.1; rw [flat_len] at this; omega
  have hc : ∀ j i, j < xs.length → i < 4 → w.cell? ⟨g, j * 4 + i, none⟩ = (at_ xs j).cs[i]? := fun j i hj hi => by
    rw [h.cellAt (j * 4 + i) (by omega), ← flat_get xs j i hj hi, Nat.mul_comm]
  refine ⟨.inr ⟨g, 0, rfl, (h.lt g rfl).2, fun j hj => ?_⟩⟩
  refine ⟨?_, ?_, ?_, ?_⟩
  · rw [Nat.zero_add]; exact hc j 0 hj (by omega)
  · rw [Nat.zero_add]; exact hc j 1 hj (by omega)
  · rw [Nat.zero_add]; exact hc j 2 hj (by omega)
  · rw [Nat.zero_add]; exact hc j 3 hj (by omega)
/-- The first k structs, then what lay there. -/
def mix (xs : List I4) (m : List Value) (k : Nat) : List Value := flat (xs.take k) ++ m.drop (k * 4)
theorem mix_zero (xs : List I4) (m : List Value) : mix xs m 0 = m := by simp [mix, flat]
theorem mix_all (xs : List I4) (m : List Value) (h : m.length = xs.length * 4) : mix xs m xs.length = flat xs := by simp [mix, ← h]
theorem mix_len (xs : List I4) (m : List Value) (k : Nat) (h : m.length = xs.length * 4) (hk : k ≤ xs.length) : (mix xs m k).length = xs.length * 4 := by
  simp [mix, flat_len]; omega
theorem setC (A C : List Value) (p : Nat) (hp : A.length = p) (b0 b1 b2 b3 c0 c1 c2 c3 : Value) :
    ((((A ++ b0 :: b1 :: b2 :: b3 :: C).set (p) c0).set (p + 1) c1).set (p + 2) c2).set (p + 3) c3 = A ++ c0 :: c1 :: c2 :: c3 :: C := by
  subst hp
  simp
theorem some_c (l : List Value) (h : 4 ≤ l.length) : ∃ b0 b1 b2 b3 C, l = b0 :: b1 :: b2 :: b3 :: C := by
  match l, h with
  | b0 :: b1 :: b2 :: b3 :: C, _ => exact ⟨b0, b1, b2, b3, C, rfl⟩
theorem mix_set (xs : List I4) (m : List Value) (k : Nat) (h : m.length = xs.length * 4) (hk : k < xs.length) :
    ((((mix xs m k).set (k * 4) (.int .i64 (at_ xs k).a0)).set (k * 4 + 1) (.int .i64 (at_ xs k).a1)).set (k * 4 + 2) (.int .i64 (at_ xs k).a2)).set (k * 4 + 3) (.int .i64 (at_ xs k).a3) = mix xs m (k + 1) := by
  obtain ⟨b0, b1, b2, b3, C, e⟩ := some_c (m.drop (k * 4)) (by simp; omega)
  unfold mix
  rw [e, setC _ _ (k * 4) (by rw [flat_len, List.length_take]; omega)]
  have e2 : m.drop ((k + 1) * 4) = C := by
    have : m.drop ((k + 1) * 4) = (m.drop (k * 4)).drop 4 := by rw [List.drop_drop]; congr 1; omega
    rw [this, e]; rfl
  rw [e2, List.take_succ_eq_append_getElem hk, flat_app, ← at_eq xs k hk]
  simp [flat, I4.cs]
theorem own_below {w w' : World} {base e sz n : Nat} {v : Value} {xs : List Value} (h : w.ownsRow base e sz v n xs) (hb : Below w.heap.size w w') : w'.ownsRow base e sz v n xs := by
  refine ⟨h.1, ?_⟩
  rcases h.2 with h' | ⟨g, cap, cur, h1, h2, h3, h4⟩
  · exact .inl h'
  · refine .inr ⟨g, cap, cur, h1, h2, ?_, h4⟩
    rw [hb.block g (by have := (Array.getElem?_eq_some_iff.1 h3).1; exact this)]; exact h3
theorem some_at {w : World} {base e sz g n cap : Nat} {xs : List Value} (h : w.ownsRow base e sz (.slice (some ⟨g, 0, none⟩) n cap) n xs) (j : Nat) (hj : j < n * sz) : ∃ y, w.cell? ⟨g, j, none⟩ = some y := by
  rw [h.cellAt j hj]
  exact ⟨_, List.getElem?_eq_getElem (by rw [h.1]; exact hj)⟩
theorem take_ne {xs ys : List I4} {k : Nat} (h : at_ xs k ≠ at_ ys k) : xs ≠ ys := fun e => h (by rw [e])
theorem take_eq {xs ys : List I4} {k : Nat} (hx : k < xs.length) (hy : k < ys.length) (h : xs.take k = ys.take k) (e : at_ xs k = at_ ys k) : xs.take (k + 1) = ys.take (k + 1) := by
  rw [List.take_succ_eq_append_getElem hx, List.take_succ_eq_append_getElem hy, h, ← at_eq xs k hx, ← at_eq ys k hy, e]
end MI4
end Go.Proofs.Ytfkmnmiolnijaaa
