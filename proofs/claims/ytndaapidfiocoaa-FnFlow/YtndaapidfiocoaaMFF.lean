import Derived.Test.YtndaapidfiocoaaMWY
import Derived.Test.YtndaapidfiocoaaMRB
import Derived.Test.YtndaapidfiocoaaCCutSize
/- What flows is no more than what a cut bears, and the most that flows is as much as the cut that the search leaves: plain facts. -/
namespace Go.Proofs.Ytndaapidfiocoaa
namespace FL
open Go.RowKit
/-- What crosses out of some nodes, less what crosses into them, the first k pipes. -/
def crsUp (xs : List I3) (fs : List Int) (S : List Int) : Nat → Int
  | 0 => 0
  | k + 1 => crsUp xs fs S k + ((if hasN S (MI3.at_ xs k).a0 = true then fs.getD k 0 else 0) - (if hasN S (MI3.at_ xs k).a1 = true then fs.getD k 0 else 0))
theorem hasN_cons (a : Int) (S : List Int) (x : Int) : hasN (a :: S) x = (decide (x = a) || hasN S x) := by
  simp [hasN]
theorem sg_sum (c : I3) (v : Int) (hne : c.a0 ≠ c.a1) : ∀ S : List Int, S.Nodup → (S.map (fun u => sg c u v)).sum = (if hasN S c.a0 = true then v else 0) - (if hasN S c.a1 = true then v else 0)
  | [], _ => by simp [hasN]
  | a :: S, h => by
    rw [List.nodup_cons] at h
    have ih := sg_sum c v hne S h.2
    have h0 : hasN S a = false := by simp [hasN, h.1]
    rw [List.map_cons, List.sum_cons, ih, hasN_cons, hasN_cons]
    unfold sg
    by_cases e0 : c.a0 = a
    · have e1 : ¬ c.a1 = a := fun e => hne (e0.trans e.symm)
      rw [if_pos e0, e0, h0]; simp [e1]; omega
    · by_cases e1 : c.a1 = a
      · rw [if_neg e0, if_pos e1, e1, h0]; simp [e0]; omega
      · rw [if_neg e0, if_neg e1]; simp [e0, e1]
theorem sum_add (S : List Int) (f g : Int → Int) : (S.map (fun u => f u + g u)).sum = (S.map f).sum + (S.map g).sum := by
  induction S with
  | nil => simp
  | cons a S ih => simp only [List.map_cons, List.sum_cons, ih]; omega
theorem out_sum {xs : List I3} (hok : okP xs = true) (fs : List Int) {S : List Int} (hS : S.Nodup) : ∀ m, m ≤ xs.length → (S.map (fun u => outUp xs fs u m)).sum = crsUp xs fs S m
  | 0, _ => by
    induction S with
    | nil => rfl
    | cons a S ih =>
      rw [List.nodup_cons] at hS
      have := ih hS.2
      simp only [List.map_cons, List.sum_cons, outUp, crsUp] at this ⊢
      omega
  | m + 1, hm => by
    have ih := out_sum hok fs hS m (by omega)
    have g := okP_good hok (k := m) (by omega)
    have e : (fun u => outUp xs fs u (m + 1)) = (fun u => outUp xs fs u m + sg (MI3.at_ xs m) u (fs.getD m 0)) := rfl
    rw [e, sum_add, ih, sg_sum _ _ g.ne S hS]; rfl
theorem one_sum (f : Int) (v : Int) : ∀ S : List Int, S.Nodup → (S.map (fun u => if u = f then v else 0)).sum = if f ∈ S then v else 0
  | [], _ => by simp
  | a :: S, h => by
    rw [List.nodup_cons] at h
    rw [List.map_cons, List.sum_cons, one_sum f v S h.2]
    by_cases e : a = f
    · subst e; simp [h.1]
    · by_cases e2 : f ∈ S
      · simp [e, e2]
      · simp [e, e2, Ne.symm e]
/-- Some nodes, the first one among them and the last one not. -/
structure Side (S : List Int) (f t : Int) : Prop where
  nd : S.Nodup
  lt : ∀ u ∈ S, 0 ≤ u ∧ u ≤ 7
  hf : f ∈ S
  ht : t ∉ S
theorem out_is {xs : List I3} {fs : List Int} {f t : Int} {S : List Int} (hok : okP xs = true) (hS : Side S f t) (hc : calmUp xs fs f t 8) : outUp xs fs f xs.length = crsUp xs fs S xs.length := by
  rw [← out_sum hok fs hS.nd xs.length (Nat.le_refl _)]
  have e : S.map (fun u => outUp xs fs u xs.length) = S.map (fun u => if u = f then outUp xs fs f xs.length else 0) := by
    apply List.map_congr_left
    intro u hu
    by_cases e : u = f
    · subst e; rw [if_pos rfl]
    · rw [if_neg e]
      have h := hS.lt u hu
      have := hc u.toNat (by omega) (by omega) (by intro h'; exact hS.ht (by rw [← h', show ((u.toNat : Nat) : Int) = u by omega]; exact hu))
      rwa [show ((u.toNat : Nat) : Int) = u by omega] at this
  rw [e, one_sum f _ S hS.nd, if_pos hS.hf]
theorem crs_le {xs : List I3} {fs : List Int} {S : List Int} (hfit : fitUp xs fs xs.length) : ∀ m, m ≤ xs.length → crsUp xs fs S m ≤ capUp xs S m
  | 0, _ => by simp [crsUp, capUp]
  | m + 1, hm => by
    have ih := crs_le (S := S) hfit m (by omega)
    have h := hfit m (by omega)
    rw [crsUp, capUp]
    generalize fs.getD m 0 = v at *
    cases h0 : hasN S (MI3.at_ xs m).a0 <;> cases h1 : hasN S (MI3.at_ xs m).a1 <;> simp <;> omega
/-- No flow is more than any cut. -/
theorem flow_cut {xs : List I3} {fs : List Int} {f t : Int} {S : List Int} (hok : okP xs = true) (hS : Side S f t) (hfit : fitUp xs fs xs.length) (hc : calmUp xs fs f t 8) : outUp xs fs f xs.length ≤ capUp xs S xs.length := by
  rw [out_is hok hS hc]; exact crs_le hfit _ (Nat.le_refl _)
theorem crs_full {xs : List I3} {fs : List Int} {S : List Int} (h : ∀ k, k < xs.length → (hasN S (MI3.at_ xs k).a0 = true → hasN S (MI3.at_ xs k).a1 = false → fs.getD k 0 = (MI3.at_ xs k).a2) ∧ (hasN S (MI3.at_ xs k).a0 = false → hasN S (MI3.at_ xs k).a1 = true → fs.getD k 0 = 0)) : ∀ m, m ≤ xs.length → crsUp xs fs S m = capUp xs S m
  | 0, _ => by simp [crsUp, capUp]
  | m + 1, hm => by
    have ih := crs_full h m (by omega)
    obtain ⟨a1, a2⟩ := h m (by omega)
    rw [crsUp, capUp, ih]
    generalize fs.getD m 0 = v at *
    cases h0 : hasN S (MI3.at_ xs m).a0 <;> cases h1 : hasN S (MI3.at_ xs m).a1 <;> simp [h0, h1] at a1 a2 ⊢ <;> omega
theorem side_hasN (B : List Int) (u : Int) (hu : 0 ≤ u ∧ u ≤ 7) : hasN (sideUp B 8) u = true ↔ B.getD u.toNat 0 ≠ -1 := by
  unfold hasN
  rw [decide_eq_true_eq, LK.side_mem]
  constructor
  · rintro ⟨j, _, rfl, h⟩; simpa using h
  · intro h; exact ⟨u.toNat, by omega, by omega, h⟩
/-- At the end the search does not come to the last one. -/
theorem maxF_stuck {xs : List I3} {f t : Int} (A : Ask xs f t) : reach xs (maxF xs f t) f t = false := by
  have key : ∀ i : Nat, (∃ j, j ≤ i ∧ reach xs (flowAt xs f t j) f t = false ∧ (j : Int) ≤ outUp xs (flowAt xs f t j) f xs.length) ∨ ((i + 1 : Nat) : Int) ≤ outUp xs (flowAt xs f t (i + 1)) f xs.length := by
    intro i
    induction i with
    | zero =>
      have h0 : ((0 : Nat) : Int) ≤ outUp xs (flowAt xs f t 0) f xs.length := (flowAt_calm A 0).2
      cases h : reach xs (flowAt xs f t 0) f t with
      | false => exact .inl ⟨0, Nat.le_refl _, h, h0⟩
      | true => exact .inr (flowAt_next A h0 h).1
    | succ i ih =>
      rcases ih with ⟨j, h1, h2, h3⟩ | h
      · exact .inl ⟨j, by omega, h2, h3⟩
      · cases hr : reach xs (flowAt xs f t (i + 1)) f t with
        | false => exact .inl ⟨i + 1, Nat.le_refl _, hr, h⟩
        | true => exact .inr (flowAt_next A h hr).1
  rcases key 2000 with ⟨j, h1, h2, h3⟩ | h
  · rw [maxF_is A h3 h2]; exact h2
  · have o := flowAt_ok A (2000 + 1)
    have := (outUp_within (n := f) A.ok o.2 xs.length (Nat.le_refl _)).2
    have := A.len
    omega
theorem maxF_calm8 {xs : List I3} {f t : Int} (A : Ask xs f t) : calmUp xs (maxF xs f t) f t 8 := fun j _ h0 h1 => (maxF_calm A).1 j h0 h1
/-- What is reached at the end is a side. -/
theorem cut_side {xs : List I3} {f t : Int} (A : Ask xs f t) : Side (cutL xs f t) f t := by
  refine ⟨(LK.side_up _ 8).imp (fun h e => by omega), fun u hu => ?_, ?_, ?_⟩
  · obtain ⟨j, hj, e, _⟩ := (LK.side_mem _ _ _).1 hu; omega
  · have := (srch_tree (fs := maxF xs f t) A.ok ⟨A.f0, A.f7⟩)
    have h := (side_hasN (srch xs (maxF xs f t) f).by_ f ⟨A.f0, A.f7⟩).2 (by rw [this.fst]; decide)
    simpa [hasN, cutL] using h
  · intro h
    have h1 := (side_hasN (srch xs (maxF xs f t) f).by_ t ⟨A.t0, A.t7⟩).1 (by simpa [hasN, cutL] using h)
    have := maxF_stuck A
    simp only [reach, Bool.not_eq_false', decide_eq_true_eq] at this
    exact h1 this
/-- The most that flows is as much as that cut bears. -/
theorem max_cut {xs : List I3} {f t : Int} (A : Ask xs f t) : outUp xs (maxF xs f t) f xs.length = capUp xs (cutL xs f t) xs.length := by
  have o := maxF_ok A
  rw [out_is A.ok (cut_side A) (maxF_calm8 A)]
  refine crs_full (fun k hk => ?_) _ (Nat.le_refl _)
  have g := A.good hk
  have hf := o.2 k hk
  have C := fun {m : Nat} (hm : m < 8) hr h0 => srch_closed (xs := xs) (fs := maxF xs f t) (f := f) A.ok ⟨A.f0, A.f7⟩ (m := m) (k := k) hm hr hk h0
  have i0 := side_hasN (srch xs (maxF xs f t) f).by_ (MI3.at_ xs k).a0 ⟨g.f0, g.f1⟩
  have i1 := side_hasN (srch xs (maxF xs f t) f).by_ (MI3.at_ xs k).a1 ⟨g.t0, g.t1⟩
  constructor
  · intro h0 h1
    have r0 := i0.1 h0
    by_cases h : (maxF xs f t).getD k 0 = (MI3.at_ xs k).a2
    · exact h
    · have e0 : (((MI3.at_ xs k).a0.toNat : Nat) : Int) = (MI3.at_ xs k).a0 := by have := g.f0; omega
      have c := C (m := (MI3.at_ xs k).a0.toNat) (by have := g.f1; omega) r0 (by rw [e0]; simp only [rm, if_true]; omega)
      rw [e0] at c
      simp only [nx, if_true] at c
      have := i1.2 c
      rw [show cutL xs f t = sideUp (srch xs (maxF xs f t) f).by_ 8 from rfl] at h1
      rw [h1] at this; cases this
  · intro h0 h1
    have r1 := i1.1 h1
    by_cases h : (maxF xs f t).getD k 0 = 0
    · exact h
    · have e1 : (((MI3.at_ xs k).a1.toNat : Nat) : Int) = (MI3.at_ xs k).a1 := by have := g.t0; omega
      have hne := g.ne
      have c := C (m := (MI3.at_ xs k).a1.toNat) (by have := g.t1; omega) r1 (by rw [e1]; simp only [rm, if_neg hne, if_true]; omega)
      rw [e1] at c
      simp only [nx, if_neg hne, if_true] at c
      have := i0.2 c
      rw [show cutL xs f t = sideUp (srch xs (maxF xs f t) f).by_ 8 from rfl] at h0
      rw [h0] at this; cases this
end FL
end Go.Proofs.Ytndaapidfiocoaa

/- FnFlow as plain facts: the most that flows is a flow, no more can be put on, its cut is as much, no other is less. -/
namespace Go.Proofs.Ytndaapidfiocoaa
namespace FL
open Go.RowKit
theorem up_getD {l : List Int} (h : LK.Up l) : ∀ i, 0 < i → i < l.length → l.getD (i - 1) 0 < l.getD i 0 := by
  intro i h0 hi
  have := List.pairwise_iff_getElem.1 h (i - 1) i (by omega) hi (by omega)
  rw [List.getD_eq_getElem?_getD, List.getElem?_eq_getElem (by omega), List.getD_eq_getElem?_getD, List.getElem?_eq_getElem hi]
  exact this
theorem up_rises {l : List Int} (h : LK.Up l) (hl : ∀ u ∈ l, 0 ≤ u ∧ u ≤ 7) : EG.rises 8 l = true := by
  refine EG.rises_yes (fun i hi => ?_)
  have hm : l.getD i 0 ∈ l := by rw [List.getD_eq_getElem?_getD, List.getElem?_eq_getElem hi]; exact List.getElem_mem hi
  have := hl _ hm
  exact ⟨this.1, by omega, fun h0 => up_getD h i h0 hi⟩
structure FlC (xs : List I3) (f t : Int) : Prop where
  is : isR xs f t (mxL xs f t) = true
  ask : askF xs f t (mxL xs f t) = true
  fl : flR xs f t (mxL xs f t) = mxN xs f t
  no : agB xs f t (mxL xs f t) = false
  ok : szOk xs (mcL xs f t) = true
  sz : szN xs (mcL xs f t) = mxN xs f t
  mc : mcN xs f t = mxN xs f t
  hf : f ∈ mcL xs f t
  ht : t ∉ mcL xs f t
  oth : ∀ os : List Int, LK.Up os → (∀ u ∈ os, 0 ≤ u ∧ u ≤ 7) → f ∈ os → t ∉ os → szOk xs os = true ∧ mxN xs f t ≤ szN xs os
theorem flC {xs : List I3} {f t : Int} (h : FL.ask xs f t = true) : FlC xs f t := by
  have A := ask_is h
  have o := maxF_ok A
  have eL : mxL xs f t = maxF xs f t := by simp [mxL, h]
  have eN : mxN xs f t = outUp xs (maxF xs f t) f xs.length := by simp [mxN, h]
  have eC : mcL xs f t = cutL xs f t := by simp [mcL, h]
  have eD : mcN xs f t = capUp xs (cutL xs f t) xs.length := by simp [mcN, h]
  have hask : askF xs f t (maxF xs f t) = true := by simp [askF, h, o.1]
  have his : isR xs f t (maxF xs f t) = true := by rw [isR, hask, isF_yes o.2 (maxF_calm8 A)]; rfl
  have S := cut_side A
  have hup : LK.Up (cutL xs f t) := LK.side_up _ 8
  have hok : szOk xs (cutL xs f t) = true := by rw [szOk, A.ok, up_rises hup S.lt]; rfl
  refine ⟨by rw [eL]; exact his, by rw [eL]; exact hask, by rw [eL, eN, flR, if_pos his], ?_, by rw [eC]; exact hok, by rw [eC, eN, szN, if_pos hok, max_cut A], by rw [eD, eN, max_cut A], by rw [eC]; exact S.hf, by rw [eC]; exact S.ht, fun os u1 u2 u3 u4 => ?_⟩
  · rw [eL, agB, his]
    rcases aug_zero A o.2 with ⟨_, h2, _⟩ | ⟨h1, _⟩
    · rw [h2]; rfl
    · rw [maxF_stuck A] at h1; cases h1
  · have hk : szOk xs os = true := by rw [szOk, A.ok, up_rises u1 u2]; rfl
    refine ⟨hk, ?_⟩
    rw [szN, if_pos hk, eN]
    exact flow_cut A.ok ⟨u1.imp (fun h e => by omega), u2, u3, u4⟩ o.2 (maxF_calm8 A)
end FL
end Go.Proofs.Ytndaapidfiocoaa
