/- The short ones, put to their places one by one: plain facts. -/
import Derived.Test.YtlcdimiookaefabMPJ2
import Derived.Test.YtlcdimiookaefabMPS
namespace Go.Proofs.Ytlcdimiookaefab
open Go.RowKit
namespace PG
/-- The first k put to their places. -/
def pU (l : List Int) (k : Nat) : List Int := (l.take k).foldl EG.putS []
theorem pU_zero (l : List Int) : pU l 0 = [] := by simp [pU]
theorem pU_succ {l : List Int} {k : Nat} (hk : k < l.length) : pU l (k + 1) = EG.putS (pU l k) (l.getD k 0) := by
  unfold pU
  rw [List.take_succ_eq_append_getElem hk, List.foldl_append, List.getD_eq_getElem?_getD, List.getElem?_eq_getElem hk]; rfl
theorem pU_perm {l : List Int} : ∀ {k : Nat}, k ≤ l.length → (pU l k).Perm (l.take k)
  | 0, _ => by simp [pU]
  | k + 1, h => by
    rw [pU_succ (by omega), List.take_succ_eq_append_getElem (by omega)]
    refine (EG.putS_perm _ _).trans ?_
    rw [List.getD_eq_getElem?_getD, List.getElem?_eq_getElem (by omega)]
    exact (pU_perm (by omega)).append_right _
theorem pU_sorted {l : List Int} : ∀ {k : Nat}, k ≤ l.length → (pU l k).Pairwise (· ≤ ·)
  | 0, _ => by simp [pU]
  | k + 1, h => by rw [pU_succ (by omega)]; exact EG.putS_sorted _ _ (pU_sorted (by omega))
theorem pU_len {l : List Int} {k : Nat} (h : k ≤ l.length) : (pU l k).length = k := by
  rw [(pU_perm h).length_eq, List.length_take]; omega
theorem pU_new {l : List Int} {k : Nat} (hn : l.Nodup) (hk : k < l.length) : l.getD k 0 ∉ pU l k := fun hm => by
  have hm := (pU_perm (by omega)).mem_iff.1 hm
  rw [List.getD_eq_getElem?_getD, List.getElem?_eq_getElem hk] at hm
  obtain ⟨i, hi, e⟩ := List.mem_take_iff_getElem.1 hm
  exact List.pairwise_iff_getElem.1 hn i k (by omega) hk (by omega) e
theorem pU_all {l : List Int} {n : Nat} {P : Nat → Bool} (hn : l.Nodup) (hlt : ∀ x ∈ l, 0 ≤ x ∧ x < n) (hP : ∀ i, i < n → (decide ((i : Int) ∈ l)) = P i) : pU l l.length = those n P := by
  have h1 : (pU l l.length).Perm l := by have := pU_perm (l := l) (Nat.le_refl _); rwa [List.take_length] at this
  have nd : (those n P).Nodup := (those_lt n P).imp (fun h => by omega)
  refine List.Perm.eq_of_pairwise (le := fun a b : Int => a ≤ b) (fun a b _ _ h1 h2 => by omega) (pU_sorted (Nat.le_refl _)) ((those_lt n P).imp fun h => by omega) (h1.trans ((List.perm_ext_iff_of_nodup hn nd).2 (fun x => ?_)))
  rw [those_mem]
  constructor
  · intro hx
    have := hlt x hx
    refine ⟨x.toNat, by omega, ?_, by omega⟩
    rw [← hP _ (by omega), toNat_is this.1]
    exact decide_eq_true hx
  · rintro ⟨i, hi, h2, rfl⟩
    rw [← hP i hi] at h2
    exact of_decide_eq_true h2
theorem sh_is {l r : Int} {ws : List (List Int)} (h : good l r ws = true) : pU (reach ws (allL l r ws)).1 (reach ws (allL l r ws)).1.length = shL l r ws := by
  obtain ⟨R, ha, _⟩ := rch_is h
  rw [← shL_yes h]
  have hl := allL_len h
  refine pU_all R.nd (fun x hx => by have := R.lt x hx; omega) (fun i hi => ha i hi)
end PG
end Go.Proofs.Ytlcdimiookaefab
