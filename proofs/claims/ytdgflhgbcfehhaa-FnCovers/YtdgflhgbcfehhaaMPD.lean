/- A piece laid into a pile (AddPiece): the program's way and the specification's come to the same. Plain facts. -/
import Derived.Test.YtdgflhgbcfehhaaMPL
namespace Go.Proofs.Ytdgflhgbcfehhaa
namespace PD
open MP PL
/-- The same piece. -/
def same (a b : Bd) : Bool := one a b && decide (a.of = b.of) && decide (a.py = b.py)
/-- How many of the first k+m lie ahead of b, from the place k on. -/
def go (xs : List Bd) (b : Bd) (k : Nat) : Nat → Nat
  | 0 => k
  | m + 1 => if PL.ahead (at_ xs k) b then go xs b (k + 1) m else k
/-- Where b belongs. -/
def cut (xs : List Bd) (b : Bd) : Nat := go xs b 0 xs.length
theorem go_spec (xs : List Bd) (b : Bd) (k m : Nat) (h0 : ∀ i, i < k → PL.ahead (at_ xs i) b = true) :
    k ≤ go xs b k m ∧ go xs b k m ≤ k + m ∧ (∀ i, i < go xs b k m → PL.ahead (at_ xs i) b = true) ∧ (go xs b k m < k + m → PL.ahead (at_ xs (go xs b k m)) b = false) := by
  induction m generalizing k with
  | zero => exact ⟨Nat.le_refl _, by simp [go], h0, fun h => absurd h (by simp [go])⟩
  | succ m ih =>
    unfold go
    cases hc : PL.ahead (at_ xs k) b with
    | true =>
      simp only [if_true]
      obtain ⟨h1, h2, h3, h4⟩ := ih (k + 1) (fun i hi => if e : i = k then e ▸ hc else h0 i (by omega))
      exact ⟨by omega, by omega, h3, fun h => h4 (by omega)⟩
    | false =>
      simp only [Bool.false_eq_true, if_false]
      exact ⟨Nat.le_refl _, by omega, h0, fun _ => hc⟩
/-- The first place that does not lie ahead is the one. -/
theorem cut_is {xs : List Bd} {b : Bd} {k : Nat} (hk : k ≤ xs.length) (h0 : ∀ i, i < k → PL.ahead (at_ xs i) b = true) (h1 : k < xs.length → PL.ahead (at_ xs k) b = false) : cut xs b = k := by
  obtain ⟨_, g2, g3, g4⟩ := go_spec xs b 0 xs.length (fun i hi => absurd hi (by omega))
  change cut xs b ≤ _ at g2
  change ∀ i, i < cut xs b → _ at g3
  change cut xs b < _ → PL.ahead (at_ xs (cut xs b)) b = false at g4
  rcases Nat.lt_trichotomy (cut xs b) k with h | h | h
  · have := g4 (by omega)
    rw [h0 _ h] at this
    cases this
  · exact h
  · have := h1 (by omega)
    rw [g3 _ h] at this
    cases this
theorem cut_spec (xs : List Bd) (b : Bd) : cut xs b ≤ xs.length ∧ (∀ i, i < cut xs b → PL.ahead (at_ xs i) b = true) ∧ (cut xs b < xs.length → PL.ahead (at_ xs (cut xs b)) b = false) := by
  obtain ⟨_, g2, g3, g4⟩ := go_spec xs b 0 xs.length (fun i hi => absurd hi (by omega))
  rw [Nat.zero_add] at g2 g4
  exact ⟨g2, g3, g4⟩
/-- b laid at the place k. -/
def put (xs : List Bd) (b : Bd) (k : Nat) : List Bd := xs.take k ++ b :: xs.drop k
theorem put_len {xs : List Bd} {b : Bd} {k : Nat} (h : k ≤ xs.length) : (put xs b k).length = xs.length + 1 := by simp [put]; omega
theorem put_at {xs : List Bd} {b : Bd} {k : Nat} (h : k ≤ xs.length) : at_ (put xs b k) k = b := by
  unfold at_ put
  rw [List.getElem?_append_right (by simp; omega)]
  simp [Nat.min_eq_left h]
theorem put_next {xs : List Bd} {b : Bd} {k : Nat} (h : k < xs.length) : at_ (put xs b k) (k + 1) = at_ xs k := by
  unfold at_ put
  rw [List.getElem?_append_right (by simp; omega)]
  have : k + 1 - (xs.take k).length = 1 := by simp; omega
  rw [this]
  simp
theorem ahead_iff {a b : Bd} : PL.ahead a b = true ↔ a.of < b.of ∨ (a.of = b.of ∧ a.py.size < b.py.size) := by simp [PL.ahead]
theorem ahead_no {a b : Bd} : PL.ahead a b = false ↔ ¬ (a.of < b.of ∨ (a.of = b.of ∧ a.py.size < b.py.size)) := by rw [← ahead_iff]; simp
theorem good_ahead {xs : List Bd} (h : good xs = true) {i : Nat} (hi : i + 1 < xs.length) : PL.ahead (at_ xs i) (at_ xs (i + 1)) = true := by
  simp only [good, Bool.and_eq_true] at h
  have := upto_iff.1 h.1 (i + 1) hi
  simp only [stepS, Bool.and_eq_true, Bool.or_eq_true, decide_eq_true_eq] at this
  rcases this.1.2 with e | e
  · omega
  · simpa using e
/-- A good pile rises. -/
theorem good_rise {xs : List Bd} (h : good xs = true) {i j : Nat} (hij : i < j) (hj : j < xs.length) : PL.ahead (at_ xs i) (at_ xs j) = true := by
  induction j with
  | zero => omega
  | succ j ih =>
    have hs := good_ahead h hj
    by_cases e : i = j
    · subst e; exact hs
    · have := ih (by omega) (by omega)
      rw [ahead_iff] at *
      omega
theorem same_is {a b : Bd} (h : same a b = true) : a.of = b.of ∧ a.py.size = b.py.size := by
  simp only [same, Bool.and_eq_true, decide_eq_true_eq] at h
  exact ⟨h.1.2, by rw [h.2]⟩
/-- What the program answers. -/
def ans (xs : List Bd) (b : Bd) : List Bd × Bool :=
  if !good xs || !pg b then ([], false) else if xs.any (same b) then (xs, true) else if good (put xs b (cut xs b)) then (put xs b (cut xs b), true) else ([], false)
/-- What the specification answers. -/
def ansS (xs : List Bd) (b : Bd) : List Bd × Bool :=
  if !good xs || !pg b then ([], false) else
  if cut xs b = xs.length ∨ PL.ahead b (at_ xs (cut xs b)) = true then (if good (put xs b (cut xs b)) then (put xs b (cut xs b), true) else ([], false))
  else if !one b (at_ xs (cut xs b)) || !decide (b.py = (at_ xs (cut xs b)).py) then ([], false) else (xs, true)
theorem any_at {xs : List Bd} {f : Bd → Bool} : xs.any f = true ↔ ∃ i, i < xs.length ∧ f (at_ xs i) = true := by
  rw [List.any_eq_true]
  constructor
  · rintro ⟨x, hx, hf⟩
    obtain ⟨i, hi, rfl⟩ := List.getElem_of_mem hx
    exact ⟨i, hi, by rw [at_eq xs i hi]; exact hf⟩
  · rintro ⟨i, hi, hf⟩
    exact ⟨xs[i], List.getElem_mem hi, by rw [← at_eq xs i hi]; exact hf⟩
theorem ans_same (xs : List Bd) (b : Bd) : ans xs b = ansS xs b := by
  unfold ans ansS
  obtain ⟨hc, hlo, hhi⟩ := cut_spec xs b
  generalize cut xs b = k at *
  cases hg : good xs with
  | false => simp
  | true =>
    cases hp : pg b with
    | false => simp
    | true =>
      simp only [Bool.not_true, Bool.or_self, Bool.false_eq_true, if_false]
      by_cases h : k = xs.length ∨ PL.ahead b (at_ xs k) = true
      · rw [if_pos h]
        have hno : xs.any (same b) = false := by
          rw [Bool.eq_false_iff]
          intro hy
          obtain ⟨i, hi, hs⟩ := any_at.1 hy
          have hq := same_is hs
          have hki : ¬ i < k := fun hlt => by
            have := ahead_iff.1 (hlo i hlt)
            omega
          rcases h with h | h
          · omega
          · have hb := ahead_iff.1 h
            by_cases e : i = k
            · subst e; omega
            · have := ahead_iff.1 (good_rise hg (i := k) (j := i) (by omega) hi)
              omega
        rw [hno]; simp
      · rw [if_neg h]
        have hkl : k < xs.length := by
          have : k ≠ xs.length := fun e => h (.inl e)
          omega
        have h1 := ahead_no.1 (hhi hkl)
        have h2 : ¬ (b.of < (at_ xs k).of ∨ (b.of = (at_ xs k).of ∧ b.py.size < (at_ xs k).py.size)) := fun e => h (.inr (ahead_iff.2 e))
        cases hs : same b (at_ xs k) with
        | true =>
          have hy : xs.any (same b) = true := any_at.2 ⟨k, hkl, hs⟩
          simp only [same, Bool.and_eq_true, decide_eq_true_eq] at hs
          simp [hy, hs.1.1, hs.2]
        | false =>
          have hno : xs.any (same b) = false := by
            rw [Bool.eq_false_iff]
            intro hy
            obtain ⟨i, hi, hs'⟩ := any_at.1 hy
            have hq := same_is hs'
            rcases Nat.lt_trichotomy i k with e | e | e
            · have := ahead_iff.1 (good_rise hg e hkl); omega
            · subst e; rw [hs] at hs'; cases hs'
            · have := ahead_iff.1 (good_rise hg e hi); omega
          have hbad : good (put xs b k) = false := by
            rw [Bool.eq_false_iff]
            intro hy
            have := good_ahead hy (i := k) (by rw [put_len hc]; omega)
            rw [put_at hc, put_next hkl, ahead_iff] at this
            omega
          have hor : (!one b (at_ xs k) || !decide (b.py = (at_ xs k).py)) = true := by
            have ho : b.of = (at_ xs k).of := by omega
            simp only [same, ho, decide_true, Bool.and_true] at hs
            cases h3 : one b (at_ xs k) with
            | false => rfl
            | true => rw [h3, Bool.true_and] at hs; rw [hs]; rfl
          rw [hno, hbad, hor]; simp
end PD
end Go.Proofs.Ytdgflhgbcfehhaa
