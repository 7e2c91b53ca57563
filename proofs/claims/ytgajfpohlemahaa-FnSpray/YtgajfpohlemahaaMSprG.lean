/- Sprays that are good: the program's way (nodes with tokens, one by one) and the specification's, plain. -/
import Derived.Test.YtgajfpohlemahaaCSprI
namespace Go.Proofs.Ytgajfpohlemahaa
open Go.RowKit
namespace SP
def sm (zs : List Int) : Nat → Int
  | 0 => 0
  | k + 1 => sm zs k + zs.getD k 0
def ok1 (zs : List Int) (t s : Int) (k : Nat) : Bool := decide ((k : Int) ≠ t ∧ 1 ≤ zs.getD k 0 ∧ zs.getD k 0 ≤ 64 - s)
def st1 (zs : List Int) (t : Int) (o : Option Int) (k : Nat) : Option Int := o.bind fun s => if ok1 zs t s k = true then some (s + zs.getD k 0) else none
def st {m : Nat} (zs : List Int) (t : Int) (l : List (Fin m)) : Option Int := l.foldl (fun o x => st1 zs t o x.val) (some 0)
theorem st_nil {m : Nat} (zs : List Int) (t : Int) : st zs t ([] : List (Fin m)) = some 0 := rfl
theorem st_snoc {m : Nat} (zs : List Int) (t : Int) (l : List (Fin m)) (x : Fin m) : st zs t (l ++ [x]) = st1 zs t (st zs t l) x.val := by simp [st, List.foldl_append]
theorem st_yes {m : Nat} {zs : List Int} {t s : Int} {l : List (Fin m)} {x : Fin m} (h : st zs t l = some s) (hk : ok1 zs t s x.val = true) : st zs t (l ++ [x]) = some (s + zs.getD x.val 0) := by rw [st_snoc, h, st1, Option.bind_some, if_pos hk]
theorem st_no {m : Nat} {zs : List Int} {t s : Int} {l : List (Fin m)} {x : Fin m} (h : st zs t l = some s) (hk : ok1 zs t s x.val = false) : st zs t (l ++ [x]) = none := by rw [st_snoc, h, st1, Option.bind_some, if_neg (by rw [hk]; simp)]
theorem st_pre {m : Nat} {zs : List Int} {t : Int} {l l' : List (Fin m)} (h : l <+: l') (hn : st zs t l = none) : st zs t l' = none := by
  obtain ⟨r, rfl⟩ := h
  unfold st at hn ⊢
  rw [List.foldl_append, hn]
  clear hn
  induction r with
  | nil => rfl
  | cons x r ih => simpa [st1] using ih
def fine (zs : List Int) (t : Int) (k : Nat) : Prop := (∀ j : Nat, j < k → 0 ≤ zs.getD j 0 ∧ ((j : Int) = t → zs.getD j 0 = 0)) ∧ sm zs k ≤ 64
theorem sm_nonneg {zs : List Int} {k : Nat} (h : ∀ j : Nat, j < k → 0 ≤ zs.getD j 0) : 0 ≤ sm zs k := by
  induction k with
  | zero => simp [sm]
  | succ k ih => have := ih fun j hj => h j (by omega); have := h k (by omega); rw [sm]; omega
theorem fine_down {zs : List Int} {t : Int} {k : Nat} (h : fine zs t (k + 1)) : fine zs t k := by
  obtain ⟨h1, h2⟩ := h
  refine ⟨fun j hj => h1 j (by omega), ?_⟩
  have := (h1 k (by omega)).1
  rw [sm] at h2
  omega
theorem st_up (zs : List Int) (t : Int) (m k : Nat) (hk : k ≤ m) : (fine zs t k → st zs t (up m (has zs) k) = some (sm zs k)) ∧ (¬ fine zs t k → st zs t (up m (has zs) k) = none) := by
  induction k with
  | zero => exact ⟨fun _ => rfl, fun h => absurd ⟨fun j hj => by omega, by simp [sm]⟩ h⟩
  | succ k ih =>
    have ih := ih (by omega)
    by_cases hz : zs.getD k 0 = 0
    · have hf : has zs k = false := decide_eq_false fun h => h hz
      rw [up_no hf, sm, hz, Int.add_zero]
      have e : fine zs t (k + 1) ↔ fine zs t k := by
        refine ⟨fine_down, fun h => ⟨fun j hj => ?_, by rw [sm, hz]; have := h.2; omega⟩⟩
        by_cases hjk : j = k
        · subst hjk; rw [hz]; exact ⟨Int.le_refl _, fun _ => rfl⟩
        · exact h.1 j (by omega)
      rw [e]
      exact ih
    · have hf : has zs k = true := decide_eq_true hz
      rw [up_yes (by omega : k < m) hf]
      by_cases hd : fine zs t k
      · have h1 := ih.1 hd
        by_cases ho : ok1 zs t (sm zs k) k = true
        · have ho' := of_decide_eq_true ho
          refine ⟨fun _ => st_yes h1 ho, fun hn => absurd ⟨fun j hj => ?_, by rw [sm]; omega⟩ hn⟩
          by_cases hjk : j = k
          · subst hjk; exact ⟨by omega, fun e => absurd e ho'.1⟩
          · exact hd.1 j (by omega)
        · have ho1 : ok1 zs t (sm zs k) k = false := by simpa using ho
          have ho' := of_decide_eq_false ho1
          refine ⟨fun hy => absurd ⟨?_, ?_, ?_⟩ ho', fun _ => st_no h1 ho1⟩
          · exact fun e => hz ((hy.1 k (by omega)).2 e)
          · have := (hy.1 k (by omega)).1; omega
          · have := hy.2; rw [sm] at this; omega
      · refine ⟨fun hy => absurd (fine_down hy) hd, fun _ => ?_⟩
        rw [st_snoc, ih.2 hd]; rfl
def good (zs : List Int) (t : Int) : Bool := decide ((2 ≤ zs.length ∧ zs.length ≤ 8) ∧ (0 ≤ t ∧ t < zs.length) ∧ zs.getD t.toNat 0 = 0 ∧ (∀ j : Nat, j < zs.length → 0 ≤ zs.getD j 0) ∧ 1 ≤ sm zs zs.length ∧ sm zs zs.length ≤ 64)
theorem good_none {zs : List Int} {t : Int} (h : st zs t (up zs.length (has zs) zs.length) = none) : good zs t = false := by
  refine decide_eq_false fun ⟨_, ⟨h2, h2'⟩, h3, h4, h5, h6⟩ => ?_
  have := (st_up zs t zs.length zs.length (Nat.le_refl _)).1 ⟨fun j hj => ⟨h4 j hj, fun e => by rw [← h3]; congr 1; omega⟩, h6⟩
  rw [h] at this
  cases this
theorem good_some {zs : List Int} {t s : Int} (h1 : 2 ≤ zs.length ∧ zs.length ≤ 8) (h2 : 0 ≤ t ∧ t < zs.length) (h : st zs t (up zs.length (has zs) zs.length) = some s) : good zs t = decide (0 < s) ∧ s = sm zs zs.length := by
  by_cases hf : fine zs t zs.length
  · have e := (st_up zs t zs.length zs.length (Nat.le_refl _)).1 hf
    rw [h] at e
    cases e
    refine ⟨?_, rfl⟩
    refine decide_eq_decide.2 ⟨fun ⟨_, _, _, _, h5, _⟩ => by omega, fun h => ⟨h1, h2, ?_, fun j hj => (hf.1 j hj).1, by omega, hf.2⟩⟩
    exact (hf.1 t.toNat (by omega)).2 (by omega)
  · rw [(st_up zs t zs.length zs.length (Nat.le_refl _)).2 hf] at h
    cases h
theorem sm_big {zs : List Int} {n k : Nat} (h : ∀ j : Nat, j < n → 0 ≤ zs.getD j 0) (hk : k < n) : zs.getD k 0 ≤ sm zs n := by
  induction n with
  | zero => omega
  | succ n ih =>
    rw [sm]
    have h0 := h n (by omega)
    have h1 := sm_nonneg (zs := zs) (k := n) fun j hj => h j (by omega)
    by_cases e : k = n
    · subst e; omega
    · have := ih (fun j hj => h j (by omega)) (by omega); omega
theorem good_bad {zs : List Int} {t : Int} {k : Nat} (hk : k < zs.length) (h : ¬ (0 ≤ zs.getD k 0 ∧ zs.getD k 0 ≤ 64)) : good zs t = false := by
  refine decide_eq_false fun ⟨_, _, _, h4, h5, h6⟩ => h ⟨h4 k hk, ?_⟩
  have := sm_big h4 hk
  omega
theorem good_end {zs : List Int} {t : Int} (h1 : 2 ≤ zs.length ∧ zs.length ≤ 8) (h2 : 0 ≤ t ∧ t < zs.length) (h3 : zs.getD t.toNat 0 = 0) (h : ∀ j : Nat, j < zs.length → 0 ≤ zs.getD j 0 ∧ zs.getD j 0 ≤ 64) : good zs t = decide (1 ≤ sm zs zs.length ∧ sm zs zs.length ≤ 64) :=
  decide_eq_decide.2 ⟨fun h => h.2.2.2.2, fun h5 => ⟨h1, h2, h3, fun j hj => (h j hj).1, h5⟩⟩
theorem sm_le {zs : List Int} {k : Nat} (h : ∀ j : Nat, j < k → 0 ≤ zs.getD j 0 ∧ zs.getD j 0 ≤ 64) : 0 ≤ sm zs k ∧ sm zs k ≤ 64 * k := by
  induction k with
  | zero => simp [sm]
  | succ k ih => have := ih fun j hj => h j (by omega); have := h k (by omega); rw [sm]; omega
end SP
end Go.Proofs.Ytgajfpohlemahaa
