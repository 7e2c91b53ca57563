/- Who goes with whom: the search for a row, as a function, and what it leaves: plain facts. -/
import Derived.Test.YtjfnmhkhjaafkaaMNR
import Derived.Test.YtjfnmhkhjaafkaaMEG
namespace Go.Proofs.Ytjfnmhkhjaafkaa
namespace PG
open NR (rw_)
/-- A match, and who was asked. -/
abbrev St := List Int × (Nat → Bool)
abbrev No : Nat → Bool := fun _ => false
/-- Who has it. -/
def own (m : List Int) (r : Int) : Option Nat := m.findIdx? (· == r)
def mk (A : Nat → Bool) (r : Nat) : Nat → Bool := fun j => if j = r then true else A j
def lets (rec : Nat → St → Bool × St) (r : Int) (s : St) : Bool × St :=
  if s.2 r.toNat = true then (false, s) else
  match own s.1 r with
  | none => (true, (s.1, mk s.2 r.toNat))
  | some o => rec o (s.1, mk s.2 r.toNat)
def first (g : Int → St → Bool × St) (left : Nat) : List Int → St → Bool × St
  | [], s => (false, s)
  | r :: rs, s => if (g r s).1 = true then (true, ((g r s).2.1.set left r, (g r s).2.2)) else first g left rs (g r s).2
def tr (ws : List (List Int)) : Nat → Nat → St → Bool × St
  | 0, _, s => (false, s)
  | f + 1, left, s => first (lets (tr ws f)) left (rw_ ws left) s
theorem own_some {m : List Int} {r : Int} {o : Nat} : own m r = some o ↔ o < m.length ∧ m.getD o 0 = r ∧ ∀ j, j < o → m.getD j 0 ≠ r := by
  unfold own
  rw [List.findIdx?_eq_some_iff_getElem]
  constructor
  · rintro ⟨h, h1, h2⟩
    refine ⟨h, by rw [List.getD_eq_getElem?_getD, List.getElem?_eq_getElem h]; simpa using h1, fun j hj e => h2 j hj ?_⟩
    rw [List.getD_eq_getElem?_getD, List.getElem?_eq_getElem (by omega)] at e
    simpa using e
  · rintro ⟨h, h1, h2⟩
    rw [List.getD_eq_getElem?_getD, List.getElem?_eq_getElem h] at h1
    refine ⟨h, by simpa using h1, fun j hj e => h2 j hj ?_⟩
    rw [List.getD_eq_getElem?_getD, List.getElem?_eq_getElem (by omega)]
    simpa using e
theorem own_none {m : List Int} {r : Int} : own m r = none ↔ ∀ j, j < m.length → m.getD j 0 ≠ r := by
  unfold own
  rw [List.findIdx?_eq_none_iff]
  constructor
  · intro h j hj e
    have := h m[j] (List.getElem_mem _)
    rw [List.getD_eq_getElem?_getD, List.getElem?_eq_getElem hj] at e
    simp at e; simp [e] at this
  · intro h x hx
    obtain ⟨j, hj, rfl⟩ := List.getElem_of_mem hx
    have := h j hj
    rw [List.getD_eq_getElem?_getD, List.getElem?_eq_getElem hj] at this
    simpa using this
/-- How many are not asked yet. -/
def un (A : Nat → Bool) : Nat := (List.range 8).countP fun j => !A j
theorem countP_lt {p q : Nat → Bool} {x : Nat} : ∀ {l : List Nat}, (∀ j, q j = true → p j = true) → x ∈ l → p x = true → q x = false → l.countP q < l.countP p
  | [], _, h, _, _ => by simp at h
  | y :: l, hpq, h, hp, hq => by
    have hle : l.countP q ≤ l.countP p := List.countP_mono_left (fun j _ => hpq j)
    rw [List.countP_cons, List.countP_cons]
    rcases List.mem_cons.1 h with rfl | h
    · rw [hp, hq]; simp; omega
    · have := countP_lt (l := l) hpq h hp hq
      by_cases c : q y = true
      · rw [c, hpq y c]; omega
      · simp only [Bool.not_eq_true] at c; rw [c]
        simp; omega
theorem un_mk {A : Nat → Bool} {r : Nat} (h : A r = false) (hr : r < 8) : un (mk A r) < un A := by
  unfold un
  refine countP_lt (x := r) (fun j hj => ?_) (by simpa using hr) (by simp [h]) (by simp [mk])
  simp only [mk, Bool.not_eq_true'] at hj ⊢
  by_cases c : j = r
  · simp [c] at hj
  · simpa [c] using hj
theorem un_le (A : Nat → Bool) : un A ≤ 8 := by
  have := List.countP_le_length (p := fun j => !A j) (l := List.range 8)
  simpa [un] using this
theorem un_mono {A B : Nat → Bool} (h : ∀ j, A j = true → B j = true) : un B ≤ un A := by
  unfold un
  refine List.countP_mono_left (fun j _ hj => ?_)
  simp only [Bool.not_eq_true'] at hj ⊢
  cases c : A j
  · rfl
  · rw [h j c] at hj; cases hj
/-- What is kept, whatever comes of it. -/
structure Keep (s : St) (q : Bool × St) : Prop where
  m : q.1 = false → q.2.1 = s.1
  A : ∀ j, s.2 j = true → q.2.2 j = true
  len : q.2.1.length = s.1.length
theorem mk_mono {A : Nat → Bool} {r j : Nat} (h : A j = true) : mk A r j = true := by unfold mk; split <;> simp_all
theorem mk_self (A : Nat → Bool) (r : Nat) : mk A r r = true := by simp [mk]
theorem lets_keep {rec : Nat → St → Bool × St} (h : ∀ o s, Keep s (rec o s)) (r : Int) (s : St) : Keep s (lets rec r s) := by
  unfold lets
  split
  · exact ⟨fun _ => rfl, fun _ h => h, rfl⟩
  · split
    · exact ⟨fun h => (nomatch h), fun j hj => mk_mono hj, rfl⟩
    · rename_i o _
      have k := h o (s.1, mk s.2 r.toNat)
      exact ⟨fun e => k.m e, fun j hj => k.A j (mk_mono hj), k.len⟩
theorem first_keep {g : Int → St → Bool × St} (h : ∀ r s, Keep s (g r s)) (left : Nat) : ∀ (rs : List Int) (s : St), Keep s (first g left rs s)
  | [], s => ⟨fun _ => rfl, fun _ h => h, rfl⟩
  | r :: rs, s => by
    have k := h r s
    rw [first]; split
    · exact ⟨fun h => (nomatch h), fun j hj => k.A j hj, by simp [k.len]⟩
    · rename_i e
      have k2 := first_keep h left rs (g r s).2
      have km := k.m (by simpa using e)
      exact ⟨fun e => (k2.m e).trans km, fun j hj => k2.A j (k.A j hj), k2.len.trans k.len⟩
theorem tr_keep (ws : List (List Int)) : ∀ (f left : Nat) (s : St), Keep s (tr ws f left s)
  | 0, _, _ => ⟨fun _ => rfl, fun _ h => h, rfl⟩
  | f + 1, left, s => first_keep (fun r s => lets_keep (tr_keep ws f) r s) left _ s
/-- All wants name somebody. -/
def Gd (ws : List (List Int)) : Prop := ∀ j r, r ∈ rw_ ws j → 0 ≤ r ∧ r < 8
/-- Whom it asked in vain is somebody's, who asked in vain. -/
def Sh (ws : List (List Int)) (s : St) (q : Bool × St) : Prop := q.1 = false → ∀ r : Nat, q.2.2 r = true → s.2 r = false → ∃ o, own s.1 r = some o ∧ ∀ x ∈ rw_ ws o, q.2.2 x.toNat = true
theorem toNat_is {x : Int} (h : 0 ≤ x) : ((x.toNat : Nat) : Int) = x := by omega
theorem lets_shut {ws : List (List Int)} {f : Nat} (h : ∀ o s, un s.2 < f → Sh ws s (tr ws f o s) ∧ ((tr ws f o s).1 = false → ∀ x ∈ rw_ ws o, (tr ws f o s).2.2 x.toNat = true)) (r : Int) (hr : 0 ≤ r ∧ r < 8) (s : St) (hu : un s.2 < f + 1) :
    Sh ws s (lets (tr ws f) r s) ∧ ((lets (tr ws f) r s).1 = false → (lets (tr ws f) r s).2.2 r.toNat = true) := by
  unfold lets
  split
  · rename_i hA
    exact ⟨fun _ r' h1 h2 => (by simp only at h1; rw [h1] at h2; cases h2), fun _ => hA⟩
  · rename_i hA
    simp only [Bool.not_eq_true] at hA
    split
    · exact ⟨fun h => (nomatch h), fun h => (nomatch h)⟩
    · rename_i o ho
      have hu2 : un (mk s.2 r.toNat) < f := by have := un_mk hA (by omega); omega
      obtain ⟨h1, h2⟩ := h o (s.1, mk s.2 r.toNat) hu2
      have k := tr_keep ws f o (s.1, mk s.2 r.toNat)
      refine ⟨fun e r' hr' h0 => ?_, fun e => k.A _ (mk_self _ _)⟩
      by_cases c : r' = r.toNat
      · subst c
        refine ⟨o, by rw [toNat_is hr.1]; exact ho, h2 e⟩
      · exact h1 e r' hr' (by simp only [mk, if_neg c]; exact h0)
theorem first_shut {ws : List (List Int)} {f : Nat} (h : ∀ o s, un s.2 < f → Sh ws s (tr ws f o s) ∧ ((tr ws f o s).1 = false → ∀ x ∈ rw_ ws o, (tr ws f o s).2.2 x.toNat = true)) (left : Nat) : ∀ (rs : List Int) (s : St), (∀ r ∈ rs, 0 ≤ r ∧ r < 8) → un s.2 < f + 1 →
    Sh ws s (first (lets (tr ws f)) left rs s) ∧ ((first (lets (tr ws f)) left rs s).1 = false → ∀ x ∈ rs, (first (lets (tr ws f)) left rs s).2.2 x.toNat = true)
  | [], s, _, _ => ⟨fun _ r' h1 h2 => (by simp only [first] at h1; rw [h1] at h2; cases h2), fun _ x hx => by simp at hx⟩
  | r :: rs, s, hrs, hu => by
    have k := lets_keep (tr_keep ws f) r s
    obtain ⟨h1, h2⟩ := lets_shut h r (hrs r (by simp)) s hu
    rw [first]; split
    · exact ⟨fun h => (nomatch h), fun h => (nomatch h)⟩
    · rename_i e
      simp only [Bool.not_eq_true] at e
      have km := k.m e
      have h1 := h1 e
      have h2 := h2 e
      generalize lets (tr ws f) r s = q at *
      have k2 := first_keep (fun r s => lets_keep (tr_keep ws f) r s) left rs q.2
      obtain ⟨g1, g2⟩ := first_shut h left rs q.2 (fun x hx => hrs x (by simp [hx])) (by have := un_mono k.A; omega)
      refine ⟨fun e2 r' hr' h0 => ?_, fun e2 x hx => ?_⟩
      · cases c : q.2.2 r'
        · obtain ⟨o, ho, hx⟩ := g1 e2 r' hr' c
          exact ⟨o, by rw [← km]; exact ho, hx⟩
        · obtain ⟨o, ho, hx⟩ := h1 r' c h0
          exact ⟨o, ho, fun x hx' => k2.A _ (hx x hx')⟩
      · rcases List.mem_cons.1 hx with rfl | hx
        · exact k2.A _ h2
        · exact g2 e2 x hx
theorem tr_shut {ws : List (List Int)} (G : Gd ws) : ∀ (f left : Nat) (s : St), un s.2 < f → Sh ws s (tr ws f left s) ∧ ((tr ws f left s).1 = false → ∀ x ∈ rw_ ws left, (tr ws f left s).2.2 x.toNat = true)
  | 0, _, _, h => by omega
  | f + 1, left, s, h => first_shut (tr_shut G f) left (rw_ ws left) s (fun r hr => G left r hr) h
/-- Closed: all are somebody's, and whom that one wants is in it, too. -/
def Cl (ws : List (List Int)) (m : List Int) (C : Nat → Bool) : Prop := ∀ r : Nat, C r = true → ∃ o, own m r = some o ∧ ∀ x ∈ rw_ ws o, C x.toNat = true
def orB (A C : Nat → Bool) : Nat → Bool := fun j => A j || C j
theorem lets_stuck {ws : List (List Int)} {m : List Int} {C : Nat → Bool} (hC : Cl ws m C) {rec : Nat → St → Bool × St} (h : ∀ o A, (∀ x ∈ rw_ ws o, C x.toNat = true) → ∃ A', rec o (m, A) = (false, (m, A')) ∧ ∀ j, (A' j = true → A j = true ∨ C j = true)) (r : Int) (hr : 0 ≤ r) (hrC : C r.toNat = true) (A : Nat → Bool) :
    ∃ A', lets rec r (m, A) = (false, (m, A')) ∧ ∀ j, (A' j = true → A j = true ∨ C j = true) := by
  unfold lets
  split
  · exact ⟨A, rfl, fun j hj => .inl hj⟩
  · obtain ⟨o, ho, hx⟩ := hC _ hrC
    rw [toNat_is hr] at ho
    simp only [ho]
    obtain ⟨A', e, hA'⟩ := h o (mk A r.toNat) hx
    refine ⟨A', e, fun j hj => ?_⟩
    rcases hA' j hj with h | h
    · by_cases c : j = r.toNat
      · subst c; exact .inr hrC
      · simp only [mk, if_neg c] at h; exact .inl h
    · exact .inr h
theorem first_stuck {m : List Int} {C : Nat → Bool} {g : Int → St → Bool × St} (h : ∀ r A, 0 ≤ r → C r.toNat = true → ∃ A', g r (m, A) = (false, (m, A')) ∧ ∀ j, (A' j = true → A j = true ∨ C j = true)) (left : Nat) : ∀ (rs : List Int) (A : Nat → Bool), (∀ r ∈ rs, 0 ≤ r ∧ C r.toNat = true) → ∃ A', first g left rs (m, A) = (false, (m, A')) ∧ ∀ j, (A' j = true → A j = true ∨ C j = true)
  | [], A, _ => ⟨A, rfl, fun j hj => .inl hj⟩
  | r :: rs, A, hrs => by
    obtain ⟨A1, e1, h1⟩ := h r A (hrs r (by simp)).1 (hrs r (by simp)).2
    obtain ⟨A2, e2, h2⟩ := first_stuck h left rs A1 (fun x hx => hrs x (by simp [hx]))
    refine ⟨A2, by rw [first, e1]; simpa using e2, fun j hj => ?_⟩
    rcases h2 j hj with h | h
    · exact h1 j h
    · exact .inr h
theorem tr_stuck {ws : List (List Int)} (G : Gd ws) {m : List Int} {C : Nat → Bool} (hC : Cl ws m C) : ∀ (f left : Nat) (A : Nat → Bool), (∀ x ∈ rw_ ws left, C x.toNat = true) → ∃ A', tr ws f left (m, A) = (false, (m, A')) ∧ ∀ j, (A' j = true → A j = true ∨ C j = true)
  | 0, _, A, _ => ⟨A, rfl, fun _ hj => .inl hj⟩
  | f + 1, left, A, h => first_stuck (fun r A hr hrC => lets_stuck hC (tr_stuck G hC f) r hr hrC A) left (rw_ ws left) A (fun r hr => ⟨(G left r hr).1, h r hr⟩)
theorem orB_mk (A C : Nat → Bool) (r : Nat) : mk (orB A C) r = orB (mk A r) C := by
  funext j; simp only [mk, orB]; by_cases c : j = r <;> simp [c]
/-- The same comes of it where those of a closed row count as asked. -/
def Sim (C : Nat → Bool) (q q2 : Bool × St) : Prop := q2 = (q.1, (q.2.1, orB q.2.2 C))
theorem lets_sim {ws : List (List Int)} (G : Gd ws) {m : List Int} {C : Nat → Bool} (hC : Cl ws m C) {f : Nat} (h : ∀ o A, Sim C (tr ws f o (m, A)) (tr ws f o (m, orB A C))) (r : Int) (hr : 0 ≤ r) (A : Nat → Bool) : Sim C (lets (tr ws f) r (m, A)) (lets (tr ws f) r (m, orB A C)) := by
  unfold Sim lets
  cases hA : A r.toNat
  · cases hc : C r.toNat
    · simp only [orB, hA, hc, Bool.or_self, Bool.false_eq_true, if_false]
      cases ho : own m r with
      | none => simp only; rw [orB_mk]
      | some o =>
        simp only
        rw [orB_mk]
        exact h o _
    · simp only [orB, hA, hc, Bool.or_true, if_true, Bool.false_eq_true, if_false]
      obtain ⟨o, ho, hx⟩ := hC _ hc
      rw [toNat_is hr] at ho
      simp only [ho]
      obtain ⟨A', e, hA'⟩ := tr_stuck G hC f o (mk A r.toNat) hx
      have k := tr_keep ws f o (m, mk A r.toNat)
      rw [e] at k
      rw [e]
      simp only [Prod.mk.injEq, true_and]
      funext j
      cases c : A' j
      · have : A j = false := by
          cases d : A j
          · rfl
          · have := k.A j (mk_mono d); simp only at this; rw [c] at this; cases this
        simp [orB, this, c]
      · rcases hA' j c with h' | h'
        · by_cases d : j = r.toNat
          · subst d; simp [orB, hc]
          · simp only [mk, if_neg d] at h'; simp [orB, h', c]
        · simp [orB, h']
  · simp [orB, hA]
theorem first_sim {m : List Int} {C : Nat → Bool} {g : Int → St → Bool × St} (hk : ∀ r s, Keep s (g r s)) (h : ∀ r A, 0 ≤ r → Sim C (g r (m, A)) (g r (m, orB A C))) (left : Nat) : ∀ (rs : List Int) (A : Nat → Bool), (∀ r ∈ rs, 0 ≤ r) → Sim C (first g left rs (m, A)) (first g left rs (m, orB A C))
  | [], A, _ => rfl
  | r :: rs, A, hrs => by
    have h1 := h r A (hrs r (by simp))
    have k := hk r (m, A)
    unfold Sim at h1 ⊢
    rw [first, first, h1]
    generalize g r (m, A) = q at *
    obtain ⟨b, m1, A1⟩ := q
    cases b
    · have := k.m rfl
      simp only at this
      subst this
      simp only [Bool.false_eq_true, if_false]
      exact first_sim hk h left rs A1 (fun x hx => hrs x (by simp [hx]))
    · simp
theorem tr_sim {ws : List (List Int)} (G : Gd ws) {m : List Int} {C : Nat → Bool} (hC : Cl ws m C) : ∀ (f left : Nat) (A : Nat → Bool), Sim C (tr ws f left (m, A)) (tr ws f left (m, orB A C))
  | 0, _, _ => rfl
  | f + 1, left, A => first_sim (fun r s => lets_keep (tr_keep ws f) r s) (fun r A hr => lets_sim G hC (tr_sim G hC f) r hr A) left (rw_ ws left) A (fun r hr => (G left r hr).1)
/-- None twice. -/
def Inj (m : List Int) : Prop := ∀ i j, i < m.length → j < m.length → m.getD i 0 = m.getD j 0 → m.getD i 0 ≠ -1 → i = j
/-- What a row that was found has made of a match. -/
structure Won (left : Nat) (s : St) (q : Bool × St) : Prop where
  inj : Inj q.2.1
  old : ∀ j, j < s.1.length → q.2.1.getD j 0 = s.1.getD j 0 ∨ (0 ≤ q.2.1.getD j 0 ∧ s.2 (q.2.1.getD j 0).toNat = false)
  new : left < s.1.length → 0 ≤ q.2.1.getD left 0 ∧ s.2 (q.2.1.getD left 0).toNat = false
theorem getD_set (m : List Int) (i j : Nat) (x : Int) (h : i < m.length) : (m.set i x).getD j 0 = if j = i then x else m.getD j 0 := by
  rw [List.getD_eq_getElem?_getD, List.getD_eq_getElem?_getD, List.getElem?_set]
  by_cases c : i = j
  · subst c; simp [h]
  · rw [if_neg c, if_neg (fun e => c e.symm)]
/-- What a taking gives up: a match where that one is free. -/
structure Free (r : Int) (s : St) (q : Bool × St) : Prop where
  inj : Inj q.2.1
  old : ∀ j, j < s.1.length → q.2.1.getD j 0 = s.1.getD j 0 ∨ (0 ≤ q.2.1.getD j 0 ∧ s.2 (q.2.1.getD j 0).toNat = false)
  gone : ∀ j, j < s.1.length → q.2.1.getD j 0 ≠ r
theorem lets_won {rec : Nat → St → Bool × St} (hk : ∀ o s, Keep s (rec o s)) (h : ∀ o s, Inj s.1 → (rec o s).1 = true → Won o s (rec o s)) (r : Int) (hr : 0 ≤ r) (s : St) (hi : Inj s.1) (e : (lets rec r s).1 = true) : Free r s (lets rec r s) ∧ s.2 r.toNat = false := by
  unfold lets at e ⊢
  split at e
  · cases e
  · rename_i hA
    rw [if_neg hA]
    simp only [Bool.not_eq_true] at hA
    refine ⟨?_, hA⟩
    split at e
    · rename_i ho
      exact ⟨hi, fun j _ => .inl rfl, own_none.1 ho⟩
    · rename_i o ho
      have w := h o (s.1, mk s.2 r.toNat) hi e
      have k := hk o (s.1, mk s.2 r.toNat)
      obtain ⟨ho1, ho2, ho3⟩ := own_some.1 ho
      have hmk : ∀ x : Int, mk s.2 r.toNat x.toNat = false → x.toNat ≠ r.toNat ∧ s.2 x.toNat = false := fun x hx => by
        unfold mk at hx
        by_cases c : x.toNat = r.toNat
        · rw [if_pos c] at hx; cases hx
        · rw [if_neg c] at hx; exact ⟨c, hx⟩
      refine ⟨w.inj, fun j hj => ?_, fun j hj e' => ?_⟩
      · rcases w.old j hj with h | ⟨h1, h2⟩
        · exact .inl h
        · exact .inr ⟨h1, (hmk _ h2).2⟩
      · have wn := w.new ho1
        have hj0 : (rec o (s.1, mk s.2 r.toNat)).2.1.getD j 0 = s.1.getD j 0 := by
          rcases w.old j hj with h | ⟨h1, h2⟩
          · exact h
          · exact absurd (by rw [e']) (hmk _ h2).1
        have hjo : j = o := hi j o hj ho1 (by rw [← hj0, e', ho2]) (by rw [← hj0, e']; omega)
        subst hjo
        exact (hmk _ wn.2).1 (by rw [e'])
theorem first_won {g : Int → St → Bool × St} (hk : ∀ r s, Keep s (g r s)) (h : ∀ r s, 0 ≤ r → Inj s.1 → (g r s).1 = true → Free r s (g r s) ∧ s.2 r.toNat = false) (left : Nat) : ∀ (rs : List Int) (s : St), (∀ r ∈ rs, 0 ≤ r) → Inj s.1 → (first g left rs s).1 = true → Won left s (first g left rs s)
  | [], s, _, _, e => by cases e
  | r :: rs, s, hrs, hi, e => by
    have hr := hrs r (by simp)
    rw [first] at e ⊢
    split at e
    · rename_i e1
      rw [if_pos e1]
      obtain ⟨w, hA⟩ := h r s hr hi e1
      have kl := (hk r s).len
      generalize g r s = q at *
      by_cases hl : left < q.2.1.length
      · refine ⟨fun i j hi' hj' e' hn => ?_, fun j hj => ?_, fun _ => ?_⟩
        · simp only [List.length_set] at hi' hj'
          simp only [getD_set _ _ _ _ hl] at e' hn
          by_cases ci : i = left
          · by_cases cj : j = left
            · rw [ci, cj]
            · rw [if_pos ci, if_neg cj] at e'
              exact absurd e'.symm (w.gone j (by omega))
          · by_cases cj : j = left
            · rw [if_neg ci, if_pos cj] at e'
              exact absurd e' (w.gone i (by omega))
            · rw [if_neg ci, if_neg cj] at e'
              rw [if_neg ci] at hn
              exact w.inj i j hi' hj' e' hn
        · simp only [getD_set _ _ _ _ hl]
          by_cases cj : j = left
          · rw [if_pos cj]; exact .inr ⟨hr, hA⟩
          · rw [if_neg cj]; exact w.old j hj
        · simp only [getD_set _ _ _ _ hl, if_true]; exact ⟨hr, hA⟩
      · have es : q.2.1.set left r = q.2.1 := List.set_eq_of_length_le (by omega)
        refine ⟨?_, fun j hj => ?_, fun h' => by omega⟩
        · simp only [es]; exact w.inj
        · simp only [es]; exact w.old j hj
    · rename_i e1
      rw [if_neg e1]
      have k := hk r s
      have km := k.m (by simpa using e1)
      have w := first_won hk h left rs (g r s).2 (fun x hx => hrs x (by simp [hx])) (by rw [km]; exact hi) e
      have neg : ∀ x : Nat, (g r s).2.2 x = false → s.2 x = false := fun x hx => by
        cases c : s.2 x
        · rfl
        · rw [k.A x c] at hx; cases hx
      refine ⟨w.inj, fun j hj => ?_, fun hl => ?_⟩
      · rcases w.old j (by rw [km]; exact hj) with h' | ⟨h1, h2⟩
        · exact .inl (by rw [h', km])
        · exact .inr ⟨h1, neg _ h2⟩
      · have := w.new (by rw [km]; exact hl)
        exact ⟨this.1, neg _ this.2⟩
theorem tr_won {ws : List (List Int)} (G : Gd ws) : ∀ (f left : Nat) (s : St), Inj s.1 → (tr ws f left s).1 = true → Won left s (tr ws f left s)
  | 0, _, _, _, e => by cases e
  | f + 1, left, s, hi, e => first_won (fun r s => lets_keep (tr_keep ws f) r s) (fun r s hr hi e => lets_won (tr_keep ws f) (tr_won G f) r hr s hi e) left (rw_ ws left) s (fun r hr => (G left r hr).1) hi e
end PG
end Go.Proofs.Ytjfnmhkhjaafkaa
