/- Rows of structs of 3 numbers in memory: plain facts, over whatever program. -/
import Derived.Test.YtdgflhgbcfehhaaM4
import Derived.Below
import Derived.ArgAppend
import Derived.OwnWalk
namespace Go.Proofs.Ytdgflhgbcfehhaa
structure I3 where
  a0 : Int
  a1 : Int
  a2 : Int
  deriving DecidableEq
def I3.cs (x : I3) : List Value := [.int .i64 x.a0, .int .i64 x.a1, .int .i64 x.a2]
abbrev I3.v (x : I3) : Value := .agg #[.int .i64 x.a0, .int .i64 x.a1, .int .i64 x.a2]
def I3.zero : I3 := ⟨0, 0, 0⟩
instance : Inhabited I3 := ⟨I3.zero⟩
namespace MI3
open Go.RowKit
def flat (xs : List I3) : List Value := xs.flatMap I3.cs
theorem flat_len (xs : List I3) : (flat xs).length = xs.length * 3 := by
  induction xs with
  | nil => rfl
  | cons x xs ih => simp only [flat, List.flatMap_cons, List.length_append, List.length_cons] at *; rw [ih]; simp [I3.cs]; omega
theorem flat_app (xs ys : List I3) : flat (xs ++ ys) = flat xs ++ flat ys := by simp [flat]
def at_ (xs : List I3) (j : Nat) : I3 := xs[j]?.getD I3.zero
theorem at_eq (xs : List I3) (j : Nat) (h : j < xs.length) : at_ xs j = xs[j] := by simp [at_, List.getElem?_eq_getElem h]
theorem flat_get (xs : List I3) (j i : Nat) (h : j < xs.length) (hi : i < 3) : (flat xs)[3 * j + i]? = (at_ xs j).cs[i]? := by
  induction xs generalizing j with
  | nil => simp at h
  | cons x xs ih =>
    have hx : x.cs.length = 3 := rfl
    cases j with
    | zero =>
      show (x.cs ++ flat xs)[3 * 0 + i]? = _
      rw [List.getElem?_append_left (by omega)]
      simp [at_]
    | succ j =>
      show (x.cs ++ flat xs)[3 * (j + 1) + i]? = _
      rw [List.getElem?_append_right (by omega), hx, show 3 * (j + 1) + i - 3 = 3 * j + i from by omega, ih j (by simpa using h)]
      simp [at_]
/-- The structs xs lie at a slice's address (nothing is said of an empty slice's). -/
structure RowAt (w : World) (a : Option Addr) (xs : List I3) : Prop where
  is : xs = [] ∨ ∃ b off, a = some ⟨b, off, none⟩ ∧ b < w.heap.size ∧ ∀ j, j < xs.length →
  w.cell? ⟨b, off + j * 3, none⟩ = some (.int .i64 (at_ xs j).a0) ∧ w.cell? ⟨b, off + j * 3 + 1, none⟩ = some (.int .i64 (at_ xs j).a1) ∧ w.cell? ⟨b, off + j * 3 + 2, none⟩ = some (.int .i64 (at_ xs j).a2)
theorem RowAt.below {w w' : World} {a : Option Addr} {xs : List I3} (h : RowAt w a xs) (hb : Below w.heap.size w w') : RowAt w' a xs := by
  rcases h.is with rfl | ⟨b, off, rfl, hlt, hc⟩
  · exact ⟨.inl rfl⟩
  · refine ⟨.inr ⟨b, off, rfl, Nat.lt_of_lt_of_le hlt hb.size, fun j hj => ?_⟩⟩
    obtain ⟨c0, c1, c2⟩ := hc j hj
    exact ⟨(hb.cell (p := ⟨b, _, none⟩) hlt).trans c0, (hb.cell (p := ⟨b, _, none⟩) hlt).trans c1, (hb.cell (p := ⟨b, _, none⟩) hlt).trans c2⟩
theorem RowAt.at {w : World} {a : Option Addr} {xs : List I3} (h : RowAt w a xs) {j : Nat} (hk : j < xs.length) : ∃ b off, a = some ⟨b, off, none⟩ ∧ b < w.heap.size ∧
    w.cell? ⟨b, off + j * 3, none⟩ = some (.int .i64 (at_ xs j).a0) ∧ w.cell? ⟨b, off + j * 3 + 1, none⟩ = some (.int .i64 (at_ xs j).a1) ∧ w.cell? ⟨b, off + j * 3 + 2, none⟩ = some (.int .i64 (at_ xs j).a2) := by
  rcases h.is with rfl | ⟨b, off, rfl, hlt, hc⟩
  · simp at hk
  · exact ⟨b, off, rfl, hlt, hc j hk⟩
theorem RowAt.at0 {w : World} {g : Nat} {xs : List I3} (h : RowAt w (some ⟨g, 0, none⟩) xs) {j : Nat} (hk : j < xs.length) : g < w.heap.size ∧
    w.cell? ⟨g, j * 3, none⟩ = some (.int .i64 (at_ xs j).a0) ∧ w.cell? ⟨g, j * 3 + 1, none⟩ = some (.int .i64 (at_ xs j).a1) ∧ w.cell? ⟨g, j * 3 + 2, none⟩ = some (.int .i64 (at_ xs j).a2) := by
  obtain ⟨b, off, he, hlt, c0, c1, c2⟩ := h.at hk
  simp only [Option.some.injEq, Addr.mk.injEq] at he
  obtain ⟨rfl, rfl, -⟩ := he
  rw [Nat.zero_add] at c0 c1 c2
  exact ⟨hlt, c0, c1, c2⟩
/-- A row of structs that the call owns. -/
theorem RowAt.of_own {w : World} {base e g n cap : Nat} {xs : List I3} (h : w.ownsRow base e 3 (.slice (some ⟨g, 0, none⟩) n cap) n (flat xs)) : RowAt w (some ⟨g, 0, none⟩) xs := by
  have hlen : xs.length = n := by have := h.1; rw [flat_len] at this; omega
  have hc : ∀ j i, j < xs.length → i < 3 → w.cell? ⟨g, j * 3 + i, none⟩ = (at_ xs j).cs[i]? := fun j i hj hi => by
    rw [h.cellAt (j * 3 + i) (by omega), ← flat_get xs j i hj hi, Nat.mul_comm]
  refine ⟨.inr ⟨g, 0, rfl, (h.lt g rfl).2, fun j hj => ?_⟩⟩
  refine ⟨?_, ?_, ?_⟩
  · rw [Nat.zero_add]; exact hc j 0 hj (by omega)
  · rw [Nat.zero_add]; exact hc j 1 hj (by omega)
  · rw [Nat.zero_add]; exact hc j 2 hj (by omega)
/-- The first k structs, then what lay there. -/
def mix (xs : List I3) (m : List Value) (k : Nat) : List Value := flat (xs.take k) ++ m.drop (k * 3)
theorem mix_zero (xs : List I3) (m : List Value) : mix xs m 0 = m := by simp [mix, flat]
theorem mix_all (xs : List I3) (m : List Value) (h : m.length = xs.length * 3) : mix xs m xs.length = flat xs := by simp [mix, ← h]
theorem mix_len (xs : List I3) (m : List Value) (k : Nat) (h : m.length = xs.length * 3) (hk : k ≤ xs.length) : (mix xs m k).length = xs.length * 3 := by
  simp [mix, flat_len]; omega
theorem setC (A C : List Value) (p : Nat) (hp : A.length = p) (b0 b1 b2 c0 c1 c2 : Value) :
    (((A ++ b0 :: b1 :: b2 :: C).set (p) c0).set (p + 1) c1).set (p + 2) c2 = A ++ c0 :: c1 :: c2 :: C := by
  subst hp
  simp
theorem some_c (l : List Value) (h : 3 ≤ l.length) : ∃ b0 b1 b2 C, l = b0 :: b1 :: b2 :: C := by
  match l, h with
  | b0 :: b1 :: b2 :: C, _ => exact ⟨b0, b1, b2, C, rfl⟩
theorem mix_set (xs : List I3) (m : List Value) (k : Nat) (h : m.length = xs.length * 3) (hk : k < xs.length) :
    (((mix xs m k).set (k * 3) (.int .i64 (at_ xs k).a0)).set (k * 3 + 1) (.int .i64 (at_ xs k).a1)).set (k * 3 + 2) (.int .i64 (at_ xs k).a2) = mix xs m (k + 1) := by
  obtain ⟨b0, b1, b2, C, e⟩ := some_c (m.drop (k * 3)) (by simp; omega)
  unfold mix
  rw [e, setC _ _ (k * 3) (by rw [flat_len, List.length_take]; omega)]
  have e2 : m.drop ((k + 1) * 3) = C := by
    have : m.drop ((k + 1) * 3) = (m.drop (k * 3)).drop 3 := by rw [List.drop_drop]; congr 1; omega
    rw [this, e]; rfl
  rw [e2, List.take_succ_eq_append_getElem hk, flat_app, ← at_eq xs k hk]
  simp [flat, I3.cs]
theorem own_below {w w' : World} {base e sz n : Nat} {v : Value} {xs : List Value} (h : w.ownsRow base e sz v n xs) (hb : Below w.heap.size w w') : w'.ownsRow base e sz v n xs := by
  refine ⟨h.1, ?_⟩
  rcases h.2 with h' | ⟨g, cap, cur, h1, h2, h3, h4⟩
  · exact .inl h'
  · refine .inr ⟨g, cap, cur, h1, h2, ?_, h4⟩
    rw [hb.block g (by have := (Array.getElem?_eq_some_iff.1 h3).1; exact this)]; exact h3
theorem some_at {w : World} {base e sz g n cap : Nat} {xs : List Value} (h : w.ownsRow base e sz (.slice (some ⟨g, 0, none⟩) n cap) n xs) (j : Nat) (hj : j < n * sz) : ∃ y, w.cell? ⟨g, j, none⟩ = some y := by
  rw [h.cellAt j hj]
  exact ⟨_, List.getElem?_eq_getElem (by rw [h.1]; exact hj)⟩
theorem take_ne {xs ys : List I3} {k : Nat} (h : at_ xs k ≠ at_ ys k) : xs ≠ ys := fun e => h (by rw [e])
theorem take_eq {xs ys : List I3} {k : Nat} (hx : k < xs.length) (hy : k < ys.length) (h : xs.take k = ys.take k) (e : at_ xs k = at_ ys k) : xs.take (k + 1) = ys.take (k + 1) := by
  rw [List.take_succ_eq_append_getElem hx, List.take_succ_eq_append_getElem hy, h, ← at_eq xs k hx, ← at_eq ys k hy, e]
end MI3
end Go.Proofs.Ytdgflhgbcfehhaa
