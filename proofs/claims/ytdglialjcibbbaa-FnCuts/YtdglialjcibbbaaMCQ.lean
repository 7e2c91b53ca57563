import Derived.Test.YtdglialjcibbbaaMKr
import Derived.Test.YtdglialjcibbbaaCCut
/- Of a cut the first cheapest edge is taken: plain facts for FnCuts. -/
namespace Go.Proofs.Ytdglialjcibbbaa
open Go.RowKit
namespace EG
theorem kr_more (xs : List I3) (ks : List Nat) : ∀ js : List Nat, ∀ k, k ∈ krT xs ks → k ∈ krT xs (ks ++ js) := fun js => rev_ind (P := fun js => ∀ k, k ∈ krT xs ks → k ∈ krT xs (ks ++ js)) (fun k h => by rw [List.append_nil]; exact h) (fun js j ih k h => by
  rw [← List.append_assoc, kr_snoc]
  unfold krS
  split
  · exact ih k h
  · exact List.mem_append.2 (.inl (ih k h))) js
/-- An edge across two sides, all that are ahead of it not across: it is taken. -/
theorem kr_cut {xs : List I3} (hok : okP xs = true) (sd : Nat → Nat) {k : Nat} (hk : k < xs.length) (hx : sd (en xs k).1 ≠ sd (en xs k).2) (hmin : ∀ j, j < xs.length → MSym.Lex (cst xs) j k → sd (en xs j).1 = sd (en xs j).2) : k ∈ krT xs (krO xs) := by
  have hm : k ∈ krO xs := (MSym.byCost_mem _ _ _ _).2 ⟨hk, cst_lt hok k⟩
  obtain ⟨A, B, e⟩ := List.append_of_mem hm
  have hp := MSym.byCost_up (cst xs) xs.length 1001
  have hA : ∀ j, j ∈ A → j < xs.length ∧ MSym.Lex (cst xs) j k := fun j hj => by
    have h1 : j ∈ krO xs := by rw [e]; exact List.mem_append.2 (.inl hj)
    refine ⟨((MSym.byCost_mem _ _ _ _).1 h1).1, ?_⟩
    have h2 : (A ++ k :: B).Pairwise (MSym.Lex (cst xs)) := by rw [← e]; exact hp
    exact (List.pairwise_append.1 h2).2.2 j hj k List.mem_cons_self
  have ht : k ∈ krT xs (A ++ [k]) := by
    rw [kr_snoc]
    unfold krS
    split
    · rename_i hl
      exact absurd ((pt_iff _ _ _ _).1 hl sd (fun j hj => hmin j (hA j (kr_sub xs A j hj)).1 (hA j (kr_sub xs A j hj)).2)) hx
    · simp
  have e2 : krO xs = A ++ [k] ++ B := by rw [e]; simp
  rw [e2]
  exact kr_more xs (A ++ [k]) B k ht
end EG
end Go.Proofs.Ytdglialjcibbbaa

/- Of a cut an edge that costs least is in the tree: plain facts for FnCuts. -/
namespace Go.Proofs.Ytdglialjcibbbaa
open Go.RowKit
namespace EG
theorem cut_mem {xs : List I3} {zs : List Int} {i : Int} : ∀ n, i ∈ cutUp xs zs n ↔ ∃ k : Nat, k < n ∧ i = k ∧ cutB zs (MI3.at_ xs k) = true
  | 0 => by simp [cutUp]
  | n + 1 => by
    rw [cutUp, List.mem_append, cut_mem n]
    constructor
    · rintro (⟨k, hk, rfl, h⟩ | h)
      · exact ⟨k, by omega, rfl, h⟩
      · split at h
        · rename_i hc
          simp at h; subst h; exact ⟨n, by omega, rfl, hc⟩
        · simp at h
    · rintro ⟨k, hk, rfl, h⟩
      by_cases e : k = n
      · subst e; right; rw [if_pos h]; simp
      · exact .inl ⟨k, by omega, rfl, h⟩
theorem cut_rise (xs : List I3) (zs : List Int) : ∀ n, (cutUp xs zs n).Pairwise (· < ·)
  | 0 => by simp [cutUp]
  | n + 1 => by
    rw [cutUp]
    split
    · refine List.pairwise_append.2 ⟨cut_rise xs zs n, by simp, fun x hx y hy => ?_⟩
      obtain ⟨k, hk, rfl, -⟩ := (cut_mem n).1 hx
      simp at hy; subst hy; omega
    · simpa using cut_rise xs zs n
theorem least_of {P : Nat → Prop} : ∀ n, P n → ∃ j, P j ∧ ∀ i, i < j → ¬ P i := fun n => by
  induction n using Nat.strongRecOn with
  | _ n ih =>
    intro hn
    by_cases h : ∃ i, i < n ∧ P i
    · obtain ⟨i, hi, hp⟩ := h; exact ih i hi hp
    · exact ⟨n, hn, fun i hi hp => h ⟨i, hi, hp⟩⟩
theorem kru_has {xs : List I3} (hok : okP xs = true) {k : Nat} (h : k ∈ krT xs (krO xs)) : hasB (kruL xs) (k : Int) = true := by
  unfold hasB kruL
  rw [decide_eq_true_eq, if_pos hok, List.mem_mergeSort]
  exact List.mem_map.2 ⟨k, h, rfl⟩
/-- What the law asks of a cut whose least cost is z. -/
theorem cut_found {xs : List I3} {zs : List Int} (hok : okP xs = true) {z : Int} (hz : ∀ j, j < (cutUp xs zs xs.length).length → z ≤ (MI3.at_ xs ((cutUp xs zs xs.length).getD j 0).toNat).a2) (he : ∃ j, j < (cutUp xs zs xs.length).length ∧ z = (MI3.at_ xs ((cutUp xs zs xs.length).getD j 0).toNat).a2) :
    ∃ j, j < (cutUp xs zs xs.length).length ∧ z = (MI3.at_ xs ((cutUp xs zs xs.length).getD j 0).toNat).a2 ∧ hasB (kruL xs) ((cutUp xs zs xs.length).getD j 0) = true := by
  have hmem := @cut_mem xs zs
  have hri := cut_rise xs zs xs.length
  generalize hc : cutUp xs zs xs.length = c at *
  have hat : ∀ j, j < c.length → ∃ k : Nat, k < xs.length ∧ c.getD j 0 = k ∧ cutB zs (MI3.at_ xs k) = true := fun j hj => by
    have : c.getD j 0 ∈ c := by rw [List.getD_eq_getElem?_getD, List.getElem?_eq_getElem hj]; exact List.getElem_mem hj
    rw [← hc] at this; rw [← hc]
    exact (hmem xs.length).1 this
  -- the first of least cost
  have hex : ∃ j, j < c.length ∧ z = (MI3.at_ xs (c.getD j 0).toNat).a2 := he
  obtain ⟨j0, ⟨hj0, hz0⟩, hmin⟩ : ∃ j, (j < c.length ∧ z = (MI3.at_ xs (c.getD j 0).toNat).a2) ∧ ∀ i, i < j → ¬ (i < c.length ∧ z = (MI3.at_ xs (c.getD i 0).toNat).a2) := by
    obtain ⟨n, hn⟩ := hex
    exact least_of (P := fun j => j < c.length ∧ z = (MI3.at_ xs (c.getD j 0).toNat).a2) n hn
  obtain ⟨k, hk, hck, hkb⟩ := hat j0 hj0
  refine ⟨j0, hj0, hz0, ?_⟩
  rw [hck]
  apply kru_has hok
  rw [hck] at hz0
  simp only [Int.toNat_natCast] at hz0
  have gk := okP_good hok hk
  let sd : Nat → Nat := fun n => if hasB zs (n : Int) = true then 1 else 0
  have hen : ∀ j, j < xs.length → (cutB zs (MI3.at_ xs j) = true ↔ sd (en xs j).1 ≠ sd (en xs j).2) := fun j hj => by
    have g := okP_good hok hj
    show _ ↔ (if hasB zs (((MI3.at_ xs j).a0.toNat : Nat) : Int) = true then 1 else 0) ≠ (if hasB zs (((MI3.at_ xs j).a1.toNat : Nat) : Int) = true then 1 else 0)
    rw [Int.toNat_of_nonneg g.f0, Int.toNat_of_nonneg g.t0]
    unfold cutB
    cases hasB zs (MI3.at_ xs j).a0 <;> cases hasB zs (MI3.at_ xs j).a1 <;> simp
  refine kr_cut hok sd hk ((hen k hk).1 hkb) (fun j hj hlex => ?_)
  by_cases hjb : cutB zs (MI3.at_ xs j) = true
  · exfalso
    have hjc : (j : Int) ∈ c := by rw [← hc]; exact (hmem xs.length).2 ⟨j, hj, rfl, hjb⟩
    obtain ⟨i, hi, hij⟩ := List.mem_iff_getElem.1 hjc
    have hgi : c.getD i 0 = (j : Int) := by rw [List.getD_eq_getElem?_getD, List.getElem?_eq_getElem hi]; exact hij
    have hzi := hz i hi
    rw [hgi] at hzi
    simp only [Int.toNat_natCast] at hzi
    have gj := okP_good hok hj
    have e1 : cst xs j = (MI3.at_ xs j).a2.toNat := rfl
    have e2 : cst xs k = (MI3.at_ xs k).a2.toNat := rfl
    have b1 := gj.c0
    have b2 := gk.c0
    rcases hlex with h | ⟨h, h'⟩
    · omega
    · have hzj : z = (MI3.at_ xs j).a2 := by omega
      by_cases hlt : i < j0
      · exact hmin i hlt ⟨hi, by rw [hgi]; simp only [Int.toNat_natCast]; exact hzj⟩
      · by_cases he' : i = j0
        · subst he'; rw [hck] at hgi; omega
        · have h3 := List.pairwise_iff_getElem.1 hri j0 i hj0 hi (by omega)
          have h4 : c[j0] = (k : Int) := by rw [← hck, List.getD_eq_getElem?_getD, List.getElem?_eq_getElem hj0]; rfl
          rw [h4, hij] at h3
          omega
  · exact Classical.not_not.1 (fun h => hjb ((hen j hj).2 h))
/-- What FnCuts asks of a cut, said without what it is made of. -/
structure CQ (xs : List I3) (c K : List Int) : Prop where
  at_ : ∀ k, k < c.length → ∃ n : Nat, n < xs.length ∧ c.getD k 0 = n
  found : ∀ z : Int, (∀ j, j < c.length → z ≤ (MI3.at_ xs (c.getD j 0).toNat).a2) → (∃ j, j < c.length ∧ z = (MI3.at_ xs (c.getD j 0).toNat).a2) → ∃ j, j < c.length ∧ z = (MI3.at_ xs (c.getD j 0).toNat).a2 ∧ hasB K (c.getD j 0) = true
theorem cq_of {xs : List I3} {zs : List Int} (h : cutOk xs zs = true) : okP xs = true ∧ CQ xs (cutL xs zs) (kruL xs) := by
  have hok : okP xs = true := by unfold cutOk at h; rw [Bool.and_eq_true] at h; exact h.1
  have e : cutL xs zs = cutUp xs zs xs.length := by unfold cutL; rw [if_pos h]
  rw [e]
  refine ⟨hok, ⟨fun k hk => ?_, fun z h1 h2 => cut_found hok h1 h2⟩⟩
  have : (cutUp xs zs xs.length).getD k 0 ∈ cutUp xs zs xs.length := by rw [List.getD_eq_getElem?_getD, List.getElem?_eq_getElem hk]; exact List.getElem_mem hk
  obtain ⟨n, hn, he, -⟩ := (cut_mem xs.length).1 this
  exact ⟨n, hn, he⟩
end EG
end Go.Proofs.Ytdglialjcibbbaa
