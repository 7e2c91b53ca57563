/- As many pairs as it takes to be in all (Konig): plain facts. -/
import Derived.Test.YtjfnmhkhjaafkaaMPJ2
import Derived.Test.YtjfnmhkhjaafkaaCPairImp
import Derived.Test.YtjfnmhkhjaafkaaCPairCv
namespace Go.Proofs.Ytjfnmhkhjaafkaa
open Go.RowKit
namespace PG
open NR (rw_)
/-- Each has one that it wants. -/
def OkW (ws : List (List Int)) (m : List Int) : Prop := ∀ j, j < m.length → m.getD j 0 = -1 ∨ m.getD j 0 ∈ rw_ ws j
theorem OkW.set {ws : List (List Int)} {m : List Int} (h : OkW ws m) (i : Nat) {x : Int} (hx : x ∈ rw_ ws i) : OkW ws (m.set i x) := fun j hj => by
  rw [List.length_set] at hj
  by_cases hi : i < m.length
  · rw [getD_set _ _ _ _ hi]
    split
    · rename_i e; subst e; exact .inr hx
    · exact h j hj
  · rw [List.set_eq_of_length_le (by omega)]; exact h j hj
theorem lets_okW {ws : List (List Int)} {rec : Nat → St → Bool × St} (h : ∀ o s, OkW ws s.1 → OkW ws (rec o s).2.1) (r : Int) (s : St) (hs : OkW ws s.1) : OkW ws (lets rec r s).2.1 := by
  unfold lets
  split
  · exact hs
  · split
    · exact hs
    · exact h _ _ hs
theorem first_okW {ws : List (List Int)} {g : Int → St → Bool × St} (h : ∀ r s, OkW ws s.1 → OkW ws (g r s).2.1) (left : Nat) : ∀ (rs : List Int) (s : St), (∀ r ∈ rs, r ∈ rw_ ws left) → OkW ws s.1 → OkW ws (first g left rs s).2.1
  | [], s, _, hs => hs
  | r :: rs, s, hrs, hs => by
    rw [first]; split
    · exact (h r s hs).set left (hrs r (by simp))
    · exact first_okW h left rs _ (fun x hx => hrs x (by simp [hx])) (h r s hs)
theorem tr_okW {ws : List (List Int)} : ∀ (f left : Nat) (s : St), OkW ws s.1 → OkW ws (tr ws f left s).2.1
  | 0, _, _, hs => hs
  | f + 1, left, s, hs => first_okW (fun r s h => lets_okW (tr_okW f) r s h) left (rw_ ws left) s (fun _ hr => hr) hs
theorem imp_okW {ws : List (List Int)} {m : List Int} (hm : OkW ws m) : ∀ (n : Nat) (m' : List Int), imp ws m n = some m' → OkW ws m'
  | 0, m', h => by simp [imp] at h
  | n + 1, m', h => by
    rw [imp] at h
    split at h
    · split at h
      · simp only [Option.some.injEq] at h
        subst h; exact tr_okW 9 _ _ hm
      · exact imp_okW hm n m' h
    · exact imp_okW hm n m' h
theorem all_okW {ws : List (List Int)} : ∀ (f : Nat) (m : List Int), OkW ws m → OkW ws (all ws f m)
  | 0, _, h => h
  | f + 1, m, h => by
    cases c : imp ws m m.length with
    | none => rw [all_none f c]; exact h
    | some m' => rw [all_some f c]; exact all_okW f m' (imp_okW h _ m' c)
theorem isB_of {ws : List (List Int)} {m : List Int} (hw : OkW ws m) (hi : Inj m) : isB ws m = true := isB_yes (fun j hj => by
  by_cases c : m.getD j 0 = -1
  · exact .inl c
  · refine .inr ⟨?_, ?_⟩
    · rcases hw j hj with h | h
      · exact absurd h c
      · simp only [EG.hasB, decide_eq_true_eq]; exact h
    · simp only [EG.hasB, decide_eq_false_iff_not]
      intro hm
      obtain ⟨i, hi', e⟩ := List.mem_take_iff_getElem.1 hm
      have e2 : m.getD i 0 = m.getD j 0 := by
        rw [← e, List.getD_eq_getElem?_getD, List.getElem?_eq_getElem (by omega)]; rfl
      have := hi i j (by omega) hj e2 (by rw [e2]; exact c)
      omega)
/-- How many have one. -/
def prs (m : List Int) : Nat := m.countP fun x => decide (0 ≤ x)
theorem rises_those {n : Nat} (P : Nat → Bool) : EG.rises n (those n P) = true := EG.rises_yes (fun i hi => by
  have hg : ∀ k, k < (those n P).length → (those n P).getD k 0 ∈ those n P := fun k hk => by rw [List.getD_eq_getElem?_getD, List.getElem?_eq_getElem hk]; exact List.getElem_mem _
  obtain ⟨j, h1, _, h3⟩ := (those_mem n P _).1 (hg i hi)
  refine ⟨by rw [h3]; omega, by rw [h3]; omega, fun h0 => ?_⟩
  have := List.pairwise_iff_getElem.1 (those_lt n P) (i - 1) i (by omega) hi (by omega)
  rw [List.getD_eq_getElem?_getD, List.getD_eq_getElem?_getD, List.getElem?_eq_getElem (by omega), List.getElem?_eq_getElem hi]
  exact this)
theorem countP_split {α : Type} (p q : α → Bool) : ∀ l : List α, l.countP p = l.countP (fun x => p x && q x) + l.countP (fun x => p x && !q x)
  | [] => rfl
  | x :: l => by
    have := countP_split p q l
    simp only [List.countP_cons, this]
    cases p x <;> cases q x <;> simp <;> omega
theorem those_count (n : Nat) (P : Nat → Bool) : (those n P).length = (List.range n).countP P := by
  rw [those, List.length_map, List.countP_eq_length_filter]
theorem prs_range (m : List Int) : prs m = (List.range m.length).countP (fun i => decide (0 ≤ m.getD i 0)) := by
  unfold prs
  have e : m = (List.range m.length).map (fun i => m.getD i 0) := by
    apply List.ext_getElem (by simp)
    intro i h1 h2
    simp [List.getElem?_eq_getElem h1]
  conv => lhs; rw [e]
  rw [List.countP_map]
  rfl
theorem konig {l r : Int} {ws : List (List Int)} (h : good l r ws = true) :
    imB l r ws (allL l r ws) = true ∧ okB l r ws (allL l r ws) = true ∧ impL l r ws (allL l r ws) = none ∧ icB l r ws (coA l r ws) (coB l r ws) = true ∧ ocB l r ws (coA l r ws) (coB l r ws) = true ∧ (coA l r ws).length + (coB l r ws).length = prs (allL l r ws) := by
  have hd := (good_is h).1
  have G := good_Gd h
  obtain ⟨e1, e2, e3⟩ := mAll_end G l.toNat (by omega)
  have hp := mAll_pos G l.toNat
  have hw : OkW ws (mAll ws l.toNat) := all_okW 9 _ (fun j hj => .inl (none_at _ j (by simpa [none_] using hj)))
  rw [allL_yes h] at e1 e2 e3 hp hw
  have hok8 := allL_ok8 h
  obtain ⟨R, ha, hb⟩ := reach_is G (m := allL l r ws) (by omega) e1 e2 (fun i hi hn => hp i (by omega) hn)
  obtain ⟨_, _, g3⟩ := (fnd_imp G (allL l r ws) (allL l r ws).length No (Nat.le_refl _) (cl_no ws _)).2 e1
  rw [← ask] at g3
  have hok : okB l r ws (allL l r ws) = true := by simp only [okB, decide_eq_true_eq]; exact ⟨h, by rw [e3]; omega⟩
  have him : imB l r ws (allL l r ws) = true := by rw [imB, hok, isB_of hw e2]; rfl
  have hoc : ocB l r ws (coA l r ws) (coB l r ws) = true := by
    unfold ocB
    rw [h, ← coA_yes h, ← coB_yes h, rises_those, rises_those]; rfl
  have key : ∀ i, i < l.toNat → rcB l r ws i = true → ∀ x ∈ rw_ ws i, ask ws (allL l r ws) x.toNat = true := fun i hi hr x hx => by
    simp only [rcB, rB, Bool.or_eq_true, decide_eq_true_eq] at hr
    by_cases c : (allL l r ws).getD i 0 = -1
    · exact g3.all i (by omega) (by omega) c x hx
    · rcases hr with hr | hr
      · exact absurd hr c
      · obtain ⟨o, ho, hx'⟩ := g3.cl _ hr
        rw [toNat_is (hp i hi c)] at ho
        have ho' := own_some.1 ho
        have := e2 o i ho'.1 (by omega) ho'.2.1 (by rw [ho'.2.1]; exact c)
        subst this
        exact hx' x hx
  refine ⟨him, hok, by rw [← impL_yes him]; exact e1, ?_, hoc, ?_⟩
  · rw [icB, hoc, Bool.true_and]
    refine cvB_yes (fun i hi j hj => ?_)
    have hil : i < l.toNat := by omega
    cases c : rcB l r ws i
    · left
      rw [← coA_yes h]
      simp only [EG.hasB, decide_eq_true_eq, those_mem]
      exact ⟨i, hil, by rw [c]; rfl, rfl⟩
    · right
      have hm : (rw_ ws i).getD j 0 ∈ rw_ ws i := by rw [List.getD_eq_getElem?_getD, List.getElem?_eq_getElem hj]; exact List.getElem_mem _
      have hx := good_want h i _ hm
      rw [← coB_yes h]
      simp only [EG.hasB, decide_eq_true_eq, those_mem]
      exact ⟨((rw_ ws i).getD j 0).toNat, by omega, key i hil c _ hm, by omega⟩
  · rw [← coA_yes h, ← coB_yes h, prs_range, countP_split _ (fun i => ask ws (allL l r ws) ((allL l r ws).getD i 0).toNat), e3, Nat.add_comm]
    congr 1
    · -- the rights that are asked are those of the lefts that have one that is asked
      rw [those_count, List.countP_eq_length_filter, List.countP_eq_length_filter]
      have nd1 : (((List.range l.toNat).filter (fun i => decide (0 ≤ (allL l r ws).getD i 0) && ask ws (allL l r ws) ((allL l r ws).getD i 0).toNat)).map (fun i => ((allL l r ws).getD i 0).toNat)).Nodup := by
        rw [List.nodup_iff_pairwise_ne, List.pairwise_map]
        refine List.Pairwise.imp_of_mem (R := (· ≠ ·)) (fun {i j} hi hj hne e => hne ?_) (List.Pairwise.filter _ List.nodup_range)
        simp only [List.mem_filter, List.mem_range, Bool.and_eq_true, decide_eq_true_eq] at hi hj
        exact e2 i j (by omega) (by omega) (by omega) (by omega)
      have nd2 : ((List.range r.toNat).filter (ask ws (allL l r ws))).Nodup := List.Pairwise.filter _ List.nodup_range
      have hp2 := (List.perm_ext_iff_of_nodup nd1 nd2).2 (fun x => by
        simp only [List.mem_map, List.mem_filter, List.mem_range, Bool.and_eq_true, decide_eq_true_eq]
        constructor
        · rintro ⟨i, ⟨h1, h2, h3⟩, rfl⟩
          refine ⟨?_, h3⟩
          rcases hw i (by omega) with k | k
          · omega
          · have := good_want h i _ k; omega
        · rintro ⟨h1, h2⟩
          obtain ⟨o, ho, _⟩ := g3.cl x h2
          have ho' := own_some.1 ho
          exact ⟨o, ⟨by omega, by omega, by rw [ho'.2.1]; simpa using h2⟩, by omega⟩)
      rw [← hp2.length_eq, List.length_map]
    · rw [those_count]
      refine List.countP_congr (fun i hi => ?_)
      have hi := List.mem_range.1 hi
      simp only [rcB, rB, Bool.not_or, Bool.and_eq_true, Bool.not_eq_true', decide_eq_false_iff_not, decide_eq_true_eq]
      constructor
      · rintro ⟨h1, h2⟩; exact ⟨hp i hi h1, h2⟩
      · rintro ⟨h1, h2⟩; exact ⟨by omega, h2⟩
end PG
end Go.Proofs.Ytjfnmhkhjaafkaa
