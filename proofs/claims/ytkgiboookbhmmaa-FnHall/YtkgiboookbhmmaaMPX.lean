/- Fewer than they are (Hall), no cover less than a match, one pair more: plain facts. -/
import Derived.Test.YtkgiboookbhmmaaMPO
namespace Go.Proofs.Ytkgiboookbhmmaa
open Go.RowKit
namespace PG
open NR (rw_)
theorem those_nodup (n : Nat) (P : Nat → Bool) : (those n P).Nodup := (those_lt n P).imp (fun h e => by omega)
/-- No cover is less than any match. -/
theorem cover_le {ws : List (List Int)} {m a b : List Int} (hw : OkW ws m) (hi : Inj m) (hc : ∀ i, i < m.length → ∀ x ∈ rw_ ws i, (i : Int) ∈ a ∨ x ∈ b) : prs m ≤ a.length + b.length := by
  rw [prs_range, countP_split (α := Nat) _ (fun (i : Nat) => decide ((i : Int) ∈ a))]
  have h1 : (List.range m.length).countP (fun i => decide (0 ≤ m.getD i 0) && decide ((i : Int) ∈ a)) ≤ a.length := by
    rw [← those_count]
    refine sub_len _ _ (those_nodup _ _) (fun x hx => ?_)
    obtain ⟨i, _, h, rfl⟩ := (those_mem _ _ _).1 hx
    simp only [Bool.and_eq_true, decide_eq_true_eq] at h
    exact h.2
  have h2 : (List.range m.length).countP (fun i => decide (0 ≤ m.getD i 0) && !decide ((i : Int) ∈ a)) ≤ b.length := by
    rw [List.countP_eq_length_filter, ← List.length_map (f := fun i => m.getD i 0)]
    refine sub_len _ _ ?_ (fun x hx => ?_)
    · rw [List.nodup_iff_pairwise_ne, List.pairwise_map]
      refine List.Pairwise.imp_of_mem (R := (· ≠ ·)) (fun {i j} hi' hj' hne e => hne ?_) (List.Pairwise.filter _ List.nodup_range)
      simp only [List.mem_filter, List.mem_range, Bool.and_eq_true, decide_eq_true_eq] at hi' hj'
      exact hi i j hi'.1 hj'.1 e (by omega)
    · obtain ⟨i, hm, rfl⟩ := List.mem_map.1 hx
      simp only [List.mem_filter, List.mem_range, Bool.and_eq_true, Bool.not_eq_true', decide_eq_true_eq, decide_eq_false_iff_not] at hm
      rcases hw i hm.1 with k | k
      · omega
      · rcases hc i hm.1 _ k with q | q
        · exact absurd q hm.2.2
        · exact q
  omega
theorem cvB_is {ws : List (List Int)} {a b : List Int} (h : cvB ws a b = true) : cvUp ws a b ws.length := by simpa only [cvB, decide_eq_true_eq] using h
theorem all_cover {l r : Int} {ws : List (List Int)} {a b : List Int} (h : icB l r ws a b = true) : good l r ws = true ∧ prs (allL l r ws) ≤ a.length + b.length := by
  unfold icB at h
  simp only [Bool.and_eq_true] at h
  have hg : good l r ws = true := by have := h.1; unfold ocB at this; simp only [Bool.and_eq_true] at this; exact this.1.1
  refine ⟨hg, ?_⟩
  have hd := (good_is hg).1
  have G := good_Gd hg
  obtain ⟨e1, e2, e3⟩ := mAll_end G l.toNat (by omega)
  have hw : OkW ws (mAll ws l.toNat) := all_okW 9 _ (fun j hj => .inl (none_at _ j (by simpa [none_] using hj)))
  rw [allL_yes hg] at e2 e3 hw
  refine cover_le hw e2 (fun i hi x hx => ?_)
  obtain ⟨j, hj, rfl⟩ := List.getElem_of_mem hx
  have := cvB_is h.2 i (by omega) j hj
  simp only [EG.hasB, decide_eq_true_eq] at this
  rw [List.getD_eq_getElem?_getD, List.getElem?_eq_getElem hj] at this
  exact this
/-- Those that are reached, and what they want: more than that. -/
theorem short_more {l r : Int} {ws : List (List Int)} (h : good l r ws = true) (hs : shL l r ws ≠ []) (zs : List Int) (hn : zs.Nodup) (hz : ∀ x ∈ zs, ∃ i : Nat, (i : Int) ∈ shL l r ws ∧ x ∈ rw_ ws i) : zs.length < (shL l r ws).length := by
  have hd := (good_is h).1
  have G := good_Gd h
  obtain ⟨e1, e2, e3⟩ := mAll_end G l.toNat (by omega)
  have hp := mAll_pos G l.toNat
  rw [allL_yes h] at e1 e2 e3 hp
  obtain ⟨f0, _, g3⟩ := (fnd_imp G (allL l r ws) (allL l r ws).length No (Nat.le_refl _) (cl_no ws _)).2 e1
  rw [← ask] at g3
  have key : ∀ i, i < l.toNat → rcB l r ws i = true → ∀ x ∈ rw_ ws i, ask ws (allL l r ws) x.toNat = true := fun i hi hr x hx => by
    simp only [rcB, rB, Bool.or_eq_true, decide_eq_true_eq] at hr
    by_cases c : (allL l r ws).getD i 0 = -1
    · exact g3.all i (by omega) (by omega) c x hx
    · rcases hr with hr | hr
      · exact absurd hr c
      · obtain ⟨o, ho, hx'⟩ := g3.cl _ hr
        rw [toNat_is (hp i hi c)] at ho
        have ho' := own_some.1 ho
        have := e2 o i ho'.1 (by omega) ho'.2.1 (by rw [ho'.2.1]; exact c)
        subst this
        exact hx' x hx
  have k6 := (konig h).2.2.2.2.2
  have hzl : zs.length ≤ (coB l r ws).length := by
    refine sub_len _ _ hn (fun x hx => ?_)
    obtain ⟨i, hi, hx'⟩ := hz x hx
    rw [← shL_yes h, those_mem] at hi
    obtain ⟨i', hi1, hi2, e⟩ := hi
    obtain rfl : i = i' := by omega
    have hxw := good_want h i x hx'
    rw [← coB_yes h, those_mem]
    exact ⟨x.toNat, by omega, key i hi1 hi2 x hx', by omega⟩
  have hsum : (coA l r ws).length + (shL l r ws).length = l.toNat := by
    rw [← coA_yes h, ← shL_yes h, those_count, those_count]
    have := countP_split (fun _ => true) (rcB l r ws) (List.range l.toNat)
    have h2 : (List.range l.toNat).countP (fun x => rcB l r ws x) = (List.range l.toNat).countP (rcB l r ws) := rfl
    simp at this
    omega
  -- some left has none
  have hfree : prs (allL l r ws) < l.toNat := by
    by_cases c : ∃ i, i < l.toNat ∧ (allL l r ws).getD i 0 = -1
    · obtain ⟨i, hi, hm⟩ := c
      rw [prs_range, e3]
      have := countP_lt (p := fun _ => true) (q := fun i => decide (0 ≤ (allL l r ws).getD i 0)) (x := i) (l := List.range l.toNat) (fun _ _ => rfl) (by simpa using hi) rfl (by rw [hm]; rfl)
      simpa using this
    · exfalso
      have hP : Shut ws (allL l r ws) (fun _ => False) := ⟨fun i hi hm => absurd ⟨i, by omega, hm⟩ c, fun _ _ h => absurd h (by simp)⟩
      obtain ⟨x, hx⟩ := List.exists_mem_of_ne_nil _ hs
      rw [← shL_yes h, those_mem] at hx
      obtain ⟨i, hi, hr, -⟩ := hx
      simp only [rcB, rB, Bool.or_eq_true, decide_eq_true_eq] at hr
      rcases hr with hr | hr
      · exact c ⟨i, hi, hr⟩
      · rcases fnd_in G hP (allL l r ws).length No (Nat.le_refl _) (by first | exact f0 | simp [f0]) _ hr with q | q
        · cases q
        · exact q
  omega
/-- Who has none still has none, but the one that asks. -/
theorem lets_stay {rec : Nat → St → Bool × St} (h : ∀ o (s : St) j, j ≠ o → s.1.getD j 0 = -1 → (rec o s).2.1.getD j 0 = -1) (r : Int) (hr : 0 ≤ r) (s : St) (j : Nat) (hj : s.1.getD j 0 = -1) : (lets rec r s).2.1.getD j 0 = -1 := by
  unfold lets
  split
  · exact hj
  · split
    · exact hj
    · rename_i o ho
      refine h o _ j (fun e => ?_) hj
      have := (own_some.1 ho).2.1
      rw [← e] at this; omega
theorem first_stay {g : Int → St → Bool × St} (h : ∀ r (s : St), 0 ≤ r → ∀ j, s.1.getD j 0 = -1 → (g r s).2.1.getD j 0 = -1) (left j : Nat) (hne : j ≠ left) : ∀ (rs : List Int) (s : St), (∀ r ∈ rs, 0 ≤ r) → s.1.getD j 0 = -1 → (first g left rs s).2.1.getD j 0 = -1
  | [], s, _, hj => hj
  | r :: rs, s, hrs, hj => by
    have h1 := h r s (hrs r (by simp)) j hj
    rw [first]; split
    · show ((g r s).2.1.set left r).getD j 0 = -1
      rw [List.getD_eq_getElem?_getD, List.getElem?_set, if_neg (fun e => hne e.symm), ← List.getD_eq_getElem?_getD]; exact h1
    · exact first_stay h left j hne rs _ (fun x hx => hrs x (by simp [hx])) h1
theorem tr_stay {ws : List (List Int)} (G : Gd ws) : ∀ (f left : Nat) (s : St) (j : Nat), j ≠ left → s.1.getD j 0 = -1 → (tr ws f left s).2.1.getD j 0 = -1
  | 0, _, _, _, _, hj => hj
  | f + 1, left, s, j, hne, hj => first_stay (fun r s hr j hj => lets_stay (tr_stay G f) r hr s j hj) left j hne (rw_ ws left) s (fun x hx => (G left x hx).1) hj
theorem countP_one {p q : Nat → Bool} {x : Nat} : ∀ n, x < n → (∀ i, i < n → i ≠ x → q i = p i) → p x = false → q x = true → (List.range n).countP q = (List.range n).countP p + 1
  | 0, h, _, _, _ => by omega
  | n + 1, h, he, hp, hq => by
    rw [List.range_succ, List.countP_append, List.countP_append]
    by_cases c : x = n
    · subst c
      have : (List.range x).countP q = (List.range x).countP p := List.countP_congr (fun i hi => by have := List.mem_range.1 hi; rw [he i (by omega) (by omega)])
      rw [this]; simp [hp, hq]
    · rw [countP_one n (by omega) (fun i hi hne => he i (by omega) hne) hp hq]
      simp only [List.countP_cons, List.countP_nil, he n (by omega) (fun e => c e.symm)]
      omega
/-- One pair more, and none that had one is without. -/
theorem imp_one {ws : List (List Int)} (G : Gd ws) {m : List Int} (hi : Inj m) (hw : OkW ws m) : ∀ (n : Nat) (m' : List Int), n ≤ m.length → imp ws m n = some m' → prs m' = prs m + 1 ∧ ∀ j, j < m.length → 0 ≤ m.getD j 0 → 0 ≤ m'.getD j 0
  | 0, m', _, h => by simp [imp] at h
  | n + 1, m', hn, h => by
    rw [imp] at h
    by_cases c : m.getD (m.length - (n + 1)) 0 = -1
    · rw [if_pos c] at h
      split at h
      · rename_i e
        simp only [Option.some.injEq] at h
        subst h
        have w := tr_won G 9 (m.length - (n + 1)) (m, No) hi e
        have k := (tr_keep ws 9 (m.length - (n + 1)) (m, No)).len
        have k' : (tr ws 9 (m.length - (n + 1)) (m, No)).2.1.length = m.length := k
        have old : ∀ j, j < m.length → 0 ≤ m.getD j 0 → 0 ≤ (tr ws 9 (m.length - (n + 1)) (m, No)).2.1.getD j 0 := fun j hj h0 => by
          rcases w.old j hj with h' | h'
          · rw [h']; exact h0
          · exact h'.1
        refine ⟨?_, old⟩
        rw [prs_range, prs_range, k']
        refine countP_one (x := m.length - (n + 1)) _ (by omega) (fun i hi' hne => ?_) (by rw [c]; rfl) (by have := (w.new (by show m.length - (n + 1) < m.length; omega)).1; simpa using this)
        rcases hw i hi' with q | q
        · have := tr_stay G 9 (m.length - (n + 1)) (m, No) i hne q
          rw [this, q]
        · have h0 := (G i _ q).1
          have := old i hi' h0
          simp only [h0, this]
      · exact imp_one G hi hw n m' (by omega) h
    · rw [if_neg c] at h
      exact imp_one G hi hw n m' (by omega) h
theorem isB_okW {ws : List (List Int)} {m : List Int} (h : isB ws m = true) : OkW ws m := fun j hj => by
  rcases isB_is h j hj with q | ⟨q, _⟩
  · exact .inl q
  · simp only [EG.hasB, decide_eq_true_eq] at q; exact .inr q
/-- What FnHall asks of a match that is made better. -/
theorem impL_one {l r : Int} {ws : List (List Int)} {m m' : List Int} (h : impL l r ws m = some m') : imB l r ws m' = true ∧ okB l r ws m' = true ∧ m'.length = m.length ∧ prs m' = prs m + 1 ∧ ∀ j, j < m.length → 0 ≤ m.getD j 0 → 0 ≤ m'.getD j 0 := by
  have him : imB l r ws m = true := by
    cases c : imB l r ws m with
    | true => rfl
    | false => rw [← impL_no c] at h; cases h
  rw [← impL_yes him] at h
  obtain ⟨hg, hl, hb, _⟩ := imB_is him
  have G := good_Gd hg
  have hw := isB_okW hb
  obtain ⟨i1, i2, _, _⟩ := imp_some G (isB_inj hb) m.length m' (Nat.le_refl _) h
  obtain ⟨o1, o2⟩ := imp_one G (isB_inj hb) hw m.length m' (Nat.le_refl _) h
  have hok : okB l r ws m' = true := by simp only [okB, decide_eq_true_eq]; exact ⟨hg, by rw [i2]; exact hl⟩
  exact ⟨by rw [imB, hok, isB_of (imp_okW hw _ m' h) i1]; rfl, hok, i2, o1, o2⟩
end PG
end Go.Proofs.Ytkgiboookbhmmaa
