/- What a cover is: plain facts. -/
import Derived.Test.YtjfnmhkhjaafkaaCPairTh
import Derived.Test.YtjfnmhkhjaafkaaCPairGood
import Derived.Test.YtjfnmhkhjaafkaaCPairAll0
namespace Go.Proofs.Ytjfnmhkhjaafkaa
open Go.RowKit
namespace PG
noncomputable def rcB (l r : Int) (ws : List (List Int)) : Nat → Bool := rB (allL l r ws) (ask ws (allL l r ws))
noncomputable def coA (l r : Int) (ws : List (List Int)) : List Int := if good l r ws = true then those l.toNat (fun i => !rcB l r ws i) else []
noncomputable def coB (l r : Int) (ws : List (List Int)) : List Int := if good l r ws = true then those r.toNat (ask ws (allL l r ws)) else []
noncomputable def shL (l r : Int) (ws : List (List Int)) : List Int := if good l r ws = true then those l.toNat (rcB l r ws) else []
theorem coA_yes {l r : Int} {ws : List (List Int)} (h : good l r ws = true) : those l.toNat (fun i => !rcB l r ws i) = coA l r ws := by rw [coA, if_pos h]
theorem coB_yes {l r : Int} {ws : List (List Int)} (h : good l r ws = true) : those r.toNat (ask ws (allL l r ws)) = coB l r ws := by rw [coB, if_pos h]
theorem shL_yes {l r : Int} {ws : List (List Int)} (h : good l r ws = true) : those l.toNat (rcB l r ws) = shL l r ws := by rw [shL, if_pos h]
theorem coA_no {l r : Int} {ws : List (List Int)} (h : good l r ws = false) : coA l r ws = [] := by rw [coA, h]; rfl
theorem coB_no {l r : Int} {ws : List (List Int)} (h : good l r ws = false) : coB l r ws = [] := by rw [coB, h]; rfl
theorem shL_no {l r : Int} {ws : List (List Int)} (h : good l r ws = false) : shL l r ws = [] := by rw [shL, h]; rfl
theorem coA_le (l r : Int) (ws : List (List Int)) : (coA l r ws).length ≤ 8 := by
  by_cases h : good l r ws = true
  · rw [← coA_yes h]; have := those_len l.toNat (fun i => !rcB l r ws i); have := (good_is h).1; omega
  · simp only [Bool.not_eq_true] at h; rw [coA_no h]; simp
theorem coB_le (l r : Int) (ws : List (List Int)) : (coB l r ws).length ≤ 8 := by
  by_cases h : good l r ws = true
  · rw [← coB_yes h]; have := those_len r.toNat (ask ws (allL l r ws)); have := (good_is h).1; omega
  · simp only [Bool.not_eq_true] at h; rw [coB_no h]; simp
theorem shL_le (l r : Int) (ws : List (List Int)) : (shL l r ws).length ≤ 8 := by
  by_cases h : good l r ws = true
  · rw [← shL_yes h]; have := those_len l.toNat (rcB l r ws); have := (good_is h).1; omega
  · simp only [Bool.not_eq_true] at h; rw [shL_no h]; simp
theorem allL_ok8 {l r : Int} {ws : List (List Int)} (h : good l r ws = true) : Ok8 (allL l r ws) := by rw [← allL_yes h]; exact mAll_ok8 (good_Gd h) _
/-- What the specification reaches is what the program's last search tells. -/
theorem rch_is {l r : Int} {ws : List (List Int)} (h : good l r ws = true) :
    Rch ws (allL l r ws) (reach ws (allL l r ws)) ∧ (∀ i, i < l.toNat → EG.hasB (reach ws (allL l r ws)).1 (i : Int) = rcB l r ws i) ∧ (∀ j : Nat, EG.hasB (reach ws (allL l r ws)).2 (j : Int) = ask ws (allL l r ws) j) := by
  have hd := (good_is h).1
  obtain ⟨h1, h2, h3⟩ := mAll_end (good_Gd h) l.toNat (by omega)
  have hp := mAll_pos (good_Gd h) l.toNat
  rw [allL_yes h] at h1 h2 h3 hp
  obtain ⟨R, ha, hb⟩ := reach_is (good_Gd h) (m := allL l r ws) (by omega) h1 h2 (fun i hi hn => hp i (by omega) hn)
  refine ⟨R, fun i hi => ?_, fun j => ?_⟩
  · rw [Bool.eq_iff_iff]
    simp only [EG.hasB, decide_eq_true_eq, rcB, rB, Bool.or_eq_true]
    exact hb i (by omega)
  · rw [Bool.eq_iff_iff]
    simp only [EG.hasB, decide_eq_true_eq]
    exact (ha j).symm
end PG
end Go.Proofs.Ytjfnmhkhjaafkaa
