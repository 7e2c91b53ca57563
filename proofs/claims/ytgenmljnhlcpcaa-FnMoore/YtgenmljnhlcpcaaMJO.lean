/- Orders of jobs, and how late they are: plain facts. -/
import Derived.Test.YtgenmljnhlcpcaaMJD
import Derived.Test.YtgenmljnhlcpcaaMEG
namespace Go.Proofs.Ytgenmljnhlcpcaa
namespace JD
open Go.RowKit
/-- Numbers below n, none twice. -/
def onceB (n : Nat) (os : List Int) : Bool := decide ((∀ z, z ∈ os → 0 ≤ z ∧ z < n) ∧ os.Nodup)
def isO (xs : List I2) (os : List Int) : Bool := okP xs && decide (os.length = xs.length) && onceB xs.length os
theorem getD_at {zs : List Int} {k : Nat} (h : k < zs.length) : zs.getD k 0 = zs[k] := by rw [List.getD_eq_getElem?_getD, List.getElem?_eq_getElem h]; rfl
theorem rise_lt {n : Nat} {s : List Int} (h : EG.riseUp n s s.length) : ∀ d i, i + d + 1 < s.length → s.getD i 0 < s.getD (i + d + 1) 0
  | 0, i, hi => (h (i + 1) hi).2.2 (by omega)
  | d + 1, i, hi => by
    have h1 := rise_lt h d i (by omega)
    have h2 := (h (i + (d + 1) + 1) hi).2.2 (by omega)
    have e : i + (d + 1) + 1 - 1 = i + d + 1 := by omega
    rw [e] at h2
    omega
theorem rises_iff (n : Nat) (s : List Int) : EG.rises n s = true ↔ (∀ z, z ∈ s → 0 ≤ z ∧ z < n) ∧ s.Pairwise (· < ·) := by
  constructor
  · intro h
    have hr := EG.rises_is h
    refine ⟨fun z hz => ?_, ?_⟩
    · obtain ⟨j, hj, rfl⟩ := List.mem_iff_getElem.1 hz
      have := hr j hj
      rw [getD_at hj] at this
      exact ⟨this.1, this.2.1⟩
    · rw [List.pairwise_iff_getElem]
      intro i j hi hj hij
      obtain ⟨d, rfl⟩ : ∃ d, j = i + d + 1 := ⟨j - i - 1, by omega⟩
      have := rise_lt hr d i hj
      rw [getD_at hi, getD_at hj] at this
      exact this
  · rintro ⟨h1, h2⟩
    refine EG.rises_yes (fun i hi => ?_)
    have := h1 _ (List.getElem_mem hi)
    rw [getD_at hi]
    refine ⟨this.1, this.2, fun h0 => ?_⟩
    rw [getD_at (show i - 1 < s.length by omega)]
    exact List.pairwise_iff_getElem.1 h2 (i - 1) i (by omega) hi (by omega)
theorem rises_sort (n : Nat) (os : List Int) : EG.rises n (os.mergeSort fun x y => decide (x ≤ y)) = onceB n os := by
  have hp : (os.mergeSort fun x y => decide (x ≤ y)).Perm os := List.mergeSort_perm _ _
  have hs : (os.mergeSort fun x y => decide (x ≤ y)).Pairwise (fun x y => decide (x ≤ y) = true) := List.pairwise_mergeSort (by intro a b c; simp; omega) (by intro a b; simp; omega) os
  rw [Bool.eq_iff_iff, rises_iff, onceB, decide_eq_true_eq]
  constructor
  · rintro ⟨h1, h2⟩
    exact ⟨fun z hz => h1 z (hp.mem_iff.2 hz), hp.nodup_iff.1 (h2.imp (fun h => by omega))⟩
  · rintro ⟨h1, h2⟩
    refine ⟨fun z hz => h1 z (hp.mem_iff.1 hz), ?_⟩
    have hn : (os.mergeSort fun x y => decide (x ≤ y)).Nodup := hp.nodup_iff.2 h2
    have := hs.and hn
    refine this.imp (fun {a b} h => ?_)
    have h1 := h.1
    rw [decide_eq_true_eq] at h1
    have := h.2
    omega
/-- The first k of them are below n and none is twice. -/
def onceUp (n : Nat) (os : List Int) (k : Nat) : Prop := (∀ j, j < k → 0 ≤ os.getD j 0 ∧ os.getD j 0 < n) ∧ ∀ j, j < k → os.getD j 0 ∉ os.take j
theorem onceUp_zero (n : Nat) (os : List Int) : onceUp n os 0 := ⟨fun j hj => by omega, fun j hj => by omega⟩
theorem onceUp_succ {n : Nat} {os : List Int} {k : Nat} (h : onceUp n os k) (h0 : 0 ≤ os.getD k 0) (h1 : os.getD k 0 < n) (h2 : os.getD k 0 ∉ os.take k) : onceUp n os (k + 1) := by
  refine ⟨fun j hj => ?_, fun j hj => ?_⟩
  · by_cases e : j = k
    · subst e; exact ⟨h0, h1⟩
    · exact h.1 j (by omega)
  · by_cases e : j = k
    · subst e; exact h2
    · exact h.2 j (by omega)
theorem onceB_yes {n : Nat} {os : List Int} (h : onceUp n os os.length) : onceB n os = true := by
  rw [onceB, decide_eq_true_eq]
  refine ⟨fun z hz => ?_, ?_⟩
  · obtain ⟨j, hj, rfl⟩ := List.mem_iff_getElem.1 hz
    have := h.1 j hj
    rw [getD_at hj] at this
    exact this
  · rw [List.nodup_iff_pairwise_ne, List.pairwise_iff_getElem]
    intro i j hi hj hij e
    refine h.2 j hj ?_
    rw [getD_at hj, ← e]
    exact List.mem_take_iff_getElem.2 ⟨i, by omega, rfl⟩
theorem onceB_no {n : Nat} {os : List Int} {k : Nat} (hk : k < os.length) (h : ¬ (0 ≤ os.getD k 0 ∧ os.getD k 0 < n ∧ os.getD k 0 ∉ os.take k)) : onceB n os = false := by
  rw [onceB, decide_eq_false_iff_not]
  rintro ⟨h1, h2⟩
  have := h1 _ (List.getElem_mem hk)
  rw [getD_at hk] at h
  refine h ⟨this.1, this.2, fun hm => ?_⟩
  obtain ⟨i, hi, e⟩ := List.mem_take_iff_getElem.1 hm
  rw [List.nodup_iff_pairwise_ne, List.pairwise_iff_getElem] at h2
  exact h2 i k (by omega) hk (by omega) e
/-- When the first k are done; by how much one is late; the greatest; how many. -/
def jl (xs : List I2) (os : List Int) (k : Nat) : Int := (MI2.at_ xs (os.getD k 0).toNat).a0
def jd (xs : List I2) (os : List Int) (k : Nat) : Int := (MI2.at_ xs (os.getD k 0).toNat).a1
def endK (xs : List I2) (os : List Int) : Nat → Int
  | 0 => 0
  | k + 1 => endK xs os k + jl xs os k
def ltK (xs : List I2) (os : List Int) (k : Nat) : Int := endK xs os k + jl xs os k - jd xs os k
def mxK (xs : List I2) (os : List Int) : Nat → Int
  | 0 => 0
  | k + 1 => if mxK xs os k < ltK xs os k then ltK xs os k else mxK xs os k
def mnK (xs : List I2) (os : List Int) : Nat → Nat
  | 0 => 0
  | k + 1 => if 0 < ltK xs os k then mnK xs os k + 1 else mnK xs os k
theorem mxK_pos (xs : List I2) (os : List Int) : ∀ k, 0 ≤ mxK xs os k
  | 0 => Int.le_refl _
  | k + 1 => by have := mxK_pos xs os k; rw [mxK]; split <;> omega
theorem mnK_le (xs : List I2) (os : List Int) : ∀ k, mnK xs os k ≤ k
  | 0 => Nat.le_refl _
  | k + 1 => by have := mnK_le xs os k; rw [mnK]; split <;> omega
/-- An order of good jobs. -/
structure Ord (xs : List I2) (os : List Int) : Prop where
  ok : okP xs = true
  len : os.length = xs.length
  rng : ∀ k, k < os.length → 0 ≤ os.getD k 0 ∧ os.getD k 0 < xs.length
theorem Ord.of {xs : List I2} {os : List Int} (h : isO xs os = true) : Ord xs os := by
  unfold isO at h
  simp only [Bool.and_eq_true, decide_eq_true_eq, onceB] at h
  refine ⟨h.1.1, h.1.2, fun k hk => ?_⟩
  rw [getD_at hk]
  exact h.2.1 _ (List.getElem_mem hk)
theorem Ord.jl1 {xs : List I2} {os : List Int} (h : Ord xs os) {k : Nat} (hk : k < os.length) : 1 ≤ jl xs os k ∧ jl xs os k ≤ 100 ∧ 1 ≤ jd xs os k ∧ jd xs os k ≤ 1000 := by
  obtain ⟨h0, h1⟩ := h.rng k hk
  have G := okP_good h.ok (k := (os.getD k 0).toNat) (by omega)
  exact ⟨G.l0, G.l1, G.d0, G.d1⟩
theorem Ord.endK_bd {xs : List I2} {os : List Int} (h : Ord xs os) : ∀ k, k ≤ os.length → 0 ≤ endK xs os k ∧ endK xs os k ≤ 100 * k
  | 0, _ => by simp [endK]
  | k + 1, hk => by
    have := h.endK_bd k (by omega)
    have := h.jl1 (k := k) (by omega)
    rw [endK]; omega
theorem Ord.small {xs : List I2} {os : List Int} (h : Ord xs os) : os.length ≤ 10 := by have := ((okP_iff xs).1 h.ok).1; rw [h.len]; exact this
def lts (xs : List I2) (os : List Int) (n : Nat) : List Int := (List.range n).map (ltK xs os)
theorem lts_succ (xs : List I2) (os : List Int) (n : Nat) : lts xs os (n + 1) = lts xs os n ++ [ltK xs os n] := by simp [lts, List.range_succ]
theorem lts_len (xs : List I2) (os : List Int) (n : Nat) : (lts xs os n).length = n := by simp [lts]
theorem lts_at (xs : List I2) (os : List Int) {n k : Nat} (h : k < n) : (lts xs os n).getD k 0 = ltK xs os k := by simp [lts, List.getD_eq_getElem?_getD, h]
/-- The answers. -/
def mxA (xs : List I2) (os : List Int) : Int := if isO xs os = true then mxK xs os os.length else 0
def mnA (xs : List I2) (os : List Int) : Int := if isO xs os = true then (mnK xs os os.length : Int) else 0
end JD
end Go.Proofs.Ytgenmljnhlcpcaa
