/- Rows of bundles in memory: plain facts, over whatever program. -/
import Derived.Test.YtdgflhgbcfehhaaMB1
import Derived.Below
import Derived.ArgAppend
import Derived.OwnWalk
namespace Go.Proofs.Ytdgflhgbcfehhaa
/-- A bundle's cells. -/
def Bd.cs (x : Bd) : List Value := [.int .i64 x.fr, .int .i64 x.to, .bool x.gr, .int .i64 x.md, .int .i64 x.no, .int .i64 x.lf, .int .i64 x.hp, .int .i64 x.of, .int .i64 x.tl, .string x.py]
namespace MP
open Go.RowKit
def flat (xs : List Bd) : List Value := xs.flatMap Bd.cs
theorem flat_len (xs : List Bd) : (flat xs).length = xs.length * 10 := by
  induction xs with
  | nil => rfl
  | cons x xs ih => simp only [flat, List.flatMap_cons, List.length_append, List.length_cons] at *; rw [ih]; simp [Bd.cs]; omega
theorem flat_app (xs ys : List Bd) : flat (xs ++ ys) = flat xs ++ flat ys := by simp [flat]
def at_ (xs : List Bd) (j : Nat) : Bd := xs[j]?.getD B1.zero
theorem at_eq (xs : List Bd) (j : Nat) (h : j < xs.length) : at_ xs j = xs[j] := by simp [at_, List.getElem?_eq_getElem h]
theorem flat_get (xs : List Bd) (j i : Nat) (h : j < xs.length) (hi : i < 10) : (flat xs)[10 * j + i]? = (at_ xs j).cs[i]? := by
  induction xs generalizing j with
  | nil => simp at h
  | cons x xs ih =>
    have hx : x.cs.length = 10 := rfl
    cases j with
    | zero =>
      show (x.cs ++ flat xs)[10 * 0 + i]? = _
      rw [List.getElem?_append_left (by omega)]
      simp [at_]
    | succ j =>
      show (x.cs ++ flat xs)[10 * (j + 1) + i]? = _
      rw [List.getElem?_append_right (by omega), hx, show 10 * (j + 1) + i - 10 = 10 * j + i from by omega, ih j (by simpa using h)]
      simp [at_]
/-- The bundles xs lie at a slice's address (nothing is said of an empty slice's). -/
def BsAt (w : World) (a : Option Addr) (xs : List Bd) : Prop := xs = [] ∨ ∃ b off, a = some ⟨b, off, none⟩ ∧ b < w.heap.size ∧ ∀ j, j < xs.length →
  w.cell? ⟨b, off + j * 10, none⟩ = some (.int .i64 (at_ xs j).fr) ∧ w.cell? ⟨b, off + j * 10 + 1, none⟩ = some (.int .i64 (at_ xs j).to) ∧ w.cell? ⟨b, off + j * 10 + 2, none⟩ = some (.bool (at_ xs j).gr) ∧ w.cell? ⟨b, off + j * 10 + 3, none⟩ = some (.int .i64 (at_ xs j).md) ∧ w.cell? ⟨b, off + j * 10 + 4, none⟩ = some (.int .i64 (at_ xs j).no) ∧ w.cell? ⟨b, off + j * 10 + 5, none⟩ = some (.int .i64 (at_ xs j).lf) ∧ w.cell? ⟨b, off + j * 10 + 6, none⟩ = some (.int .i64 (at_ xs j).hp) ∧ w.cell? ⟨b, off + j * 10 + 7, none⟩ = some (.int .i64 (at_ xs j).of) ∧ w.cell? ⟨b, off + j * 10 + 8, none⟩ = some (.int .i64 (at_ xs j).tl) ∧ w.cell? ⟨b, off + j * 10 + 9, none⟩ = some (.string (at_ xs j).py)
theorem BsAt.below {w w' : World} {a : Option Addr} {xs : List Bd} (h : BsAt w a xs) (hb : Below w.heap.size w w') : BsAt w' a xs := by
  rcases h with rfl | ⟨b, off, rfl, hlt, hc⟩
  · exact .inl rfl
  · refine .inr ⟨b, off, rfl, Nat.lt_of_lt_of_le hlt hb.size, fun j hj => ?_⟩
    obtain ⟨c0, c1, c2, c3, c4, c5, c6, c7, c8, c9⟩ := hc j hj
    exact ⟨(hb.cell (p := ⟨b, _, none⟩) hlt).trans c0, (hb.cell (p := ⟨b, _, none⟩) hlt).trans c1, (hb.cell (p := ⟨b, _, none⟩) hlt).trans c2, (hb.cell (p := ⟨b, _, none⟩) hlt).trans c3, (hb.cell (p := ⟨b, _, none⟩) hlt).trans c4, (hb.cell (p := ⟨b, _, none⟩) hlt).trans c5, (hb.cell (p := ⟨b, _, none⟩) hlt).trans c6, (hb.cell (p := ⟨b, _, none⟩) hlt).trans c7, (hb.cell (p := ⟨b, _, none⟩) hlt).trans c8, (hb.cell (p := ⟨b, _, none⟩) hlt).trans c9⟩
theorem BsAt.at {w : World} {a : Option Addr} {xs : List Bd} (h : BsAt w a xs) {k : Nat} (hk : k < xs.length) : ∃ b off, a = some ⟨b, off, none⟩ ∧ b < w.heap.size ∧
    w.cell? ⟨b, off + k * 10, none⟩ = some (.int .i64 (at_ xs k).fr) ∧ w.cell? ⟨b, off + k * 10 + 1, none⟩ = some (.int .i64 (at_ xs k).to) ∧ w.cell? ⟨b, off + k * 10 + 2, none⟩ = some (.bool (at_ xs k).gr) ∧ w.cell? ⟨b, off + k * 10 + 3, none⟩ = some (.int .i64 (at_ xs k).md) ∧ w.cell? ⟨b, off + k * 10 + 4, none⟩ = some (.int .i64 (at_ xs k).no) ∧ w.cell? ⟨b, off + k * 10 + 5, none⟩ = some (.int .i64 (at_ xs k).lf) ∧ w.cell? ⟨b, off + k * 10 + 6, none⟩ = some (.int .i64 (at_ xs k).hp) ∧ w.cell? ⟨b, off + k * 10 + 7, none⟩ = some (.int .i64 (at_ xs k).of) ∧ w.cell? ⟨b, off + k * 10 + 8, none⟩ = some (.int .i64 (at_ xs k).tl) ∧ w.cell? ⟨b, off + k * 10 + 9, none⟩ = some (.string (at_ xs k).py) := by
  rcases h with rfl | ⟨b, off, rfl, hlt, hc⟩
  · simp at hk
  · exact ⟨b, off, rfl, hlt, hc k hk⟩
/-- A row of bundles that the call owns. -/
theorem BsAt.of_own {w : World} {base e g n cap : Nat} {xs : List Bd} (h : w.ownsRow base e 10 (.slice (some ⟨g, 0, none⟩) n cap) n (flat xs)) : BsAt w (some ⟨g, 0, none⟩) xs := by
  have hlen : xs.length = n := by have := h.1; rw [flat_len] at this; omega
  have hc : ∀ j i, j < xs.length → i < 10 → w.cell? ⟨g, j * 10 + i, none⟩ = (at_ xs j).cs[i]? := fun j i hj hi => by
    rw [h.cellAt (j * 10 + i) (by omega), ← flat_get xs j i hj hi, Nat.mul_comm]
  refine .inr ⟨g, 0, rfl, (h.lt g rfl).2, fun j hj => ?_⟩
  rw [Nat.zero_add]
  exact ⟨hc j 0 hj (by omega), hc j 1 hj (by omega), hc j 2 hj (by omega), hc j 3 hj (by omega), hc j 4 hj (by omega), hc j 5 hj (by omega), hc j 6 hj (by omega), hc j 7 hj (by omega), hc j 8 hj (by omega), hc j 9 hj (by omega)⟩
/-- The first k bundles, then what lay there. -/
def mix (xs : List Bd) (m : List Value) (k : Nat) : List Value := flat (xs.take k) ++ m.drop (k * 10)
theorem mix_zero (xs : List Bd) (m : List Value) : mix xs m 0 = m := by simp [mix, flat]
theorem mix_all (xs : List Bd) (m : List Value) (h : m.length = xs.length * 10) : mix xs m xs.length = flat xs := by simp [mix, ← h]
theorem mix_len (xs : List Bd) (m : List Value) (k : Nat) (h : m.length = xs.length * 10) (hk : k ≤ xs.length) : (mix xs m k).length = xs.length * 10 := by
  simp [mix, flat_len]; omega
theorem set10 (A C : List Value) (p : Nat) (hp : A.length = p) (b0 b1 b2 b3 b4 b5 b6 b7 b8 b9 c0 c1 c2 c3 c4 c5 c6 c7 c8 c9 : Value) :
    ((((((((((A ++ b0 :: b1 :: b2 :: b3 :: b4 :: b5 :: b6 :: b7 :: b8 :: b9 :: C).set p c0).set (p + 1) c1).set (p + 2) c2).set (p + 3) c3).set (p + 4) c4).set (p + 5) c5).set (p + 6) c6).set (p + 7) c7).set (p + 8) c8).set (p + 9) c9 = A ++ c0 :: c1 :: c2 :: c3 :: c4 :: c5 :: c6 :: c7 :: c8 :: c9 :: C := by
  subst hp
  simp
theorem ten (l : List Value) (h : 10 ≤ l.length) : ∃ b0 b1 b2 b3 b4 b5 b6 b7 b8 b9 C, l = b0 :: b1 :: b2 :: b3 :: b4 :: b5 :: b6 :: b7 :: b8 :: b9 :: C := by
  match l, h with
  | b0 :: b1 :: b2 :: b3 :: b4 :: b5 :: b6 :: b7 :: b8 :: b9 :: C, _ => exact ⟨b0, b1, b2, b3, b4, b5, b6, b7, b8, b9, C, rfl⟩
theorem mix_set (xs : List Bd) (m : List Value) (k : Nat) (h : m.length = xs.length * 10) (hk : k < xs.length) :
    ((((((((((mix xs m k).set (k * 10) (.int .i64 (at_ xs k).fr)).set (k * 10 + 1) (.int .i64 (at_ xs k).to)).set (k * 10 + 2) (.bool (at_ xs k).gr)).set (k * 10 + 3) (.int .i64 (at_ xs k).md)).set (k * 10 + 4) (.int .i64 (at_ xs k).no)).set (k * 10 + 5) (.int .i64 (at_ xs k).lf)).set (k * 10 + 6) (.int .i64 (at_ xs k).hp)).set (k * 10 + 7) (.int .i64 (at_ xs k).of)).set (k * 10 + 8) (.int .i64 (at_ xs k).tl)).set (k * 10 + 9) (.string (at_ xs k).py) = mix xs m (k + 1) := by
  obtain ⟨b0, b1, b2, b3, b4, b5, b6, b7, b8, b9, C, e⟩ := ten (m.drop (k * 10)) (by simp; omega)
  unfold mix
  rw [e, set10 _ _ (k * 10) (by rw [flat_len, List.length_take]; omega)]
  have e2 : m.drop ((k + 1) * 10) = C := by
    have : m.drop ((k + 1) * 10) = (m.drop (k * 10)).drop 10 := by rw [List.drop_drop]; congr 1; omega
    rw [this, e]; rfl
  rw [e2, List.take_succ_eq_append_getElem hk, flat_app, ← at_eq xs k hk]
  simp [flat, Bd.cs]
theorem own_below {w w' : World} {base e sz n : Nat} {v : Value} {xs : List Value} (h : w.ownsRow base e sz v n xs) (hb : Below w.heap.size w w') : w'.ownsRow base e sz v n xs := by
  refine ⟨h.1, ?_⟩
  rcases h.2 with h' | ⟨g, cap, cur, h1, h2, h3, h4⟩
  · exact .inl h'
  · refine .inr ⟨g, cap, cur, h1, h2, ?_, h4⟩
    rw [hb.block g (by have := (Array.getElem?_eq_some_iff.1 h3).1; exact this)]; exact h3
theorem some_at {w : World} {base e sz g n cap : Nat} {xs : List Value} (h : w.ownsRow base e sz (.slice (some ⟨g, 0, none⟩) n cap) n xs) (j : Nat) (hj : j < n * sz) : ∃ y, w.cell? ⟨g, j, none⟩ = some y := by
  rw [h.cellAt j hj]
  exact ⟨_, List.getElem?_eq_getElem (by rw [h.1]; exact hj)⟩
theorem take_ne {xs ys : List Bd} {k : Nat} (h : at_ xs k ≠ at_ ys k) : xs ≠ ys := fun e => h (by rw [e])
theorem take_eq {xs ys : List Bd} {k : Nat} (hx : k < xs.length) (hy : k < ys.length) (h : xs.take k = ys.take k) (e : at_ xs k = at_ ys k) : xs.take (k + 1) = ys.take (k + 1) := by
  rw [List.take_succ_eq_append_getElem hx, List.take_succ_eq_append_getElem hy, h, ← at_eq xs k hx, ← at_eq ys k hy, e]
end MP
end Go.Proofs.Ytdgflhgbcfehhaa
