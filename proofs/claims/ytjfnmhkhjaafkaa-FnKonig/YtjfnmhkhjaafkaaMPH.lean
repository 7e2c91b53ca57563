/- Who goes with whom: as many pairs as can be, and what is reached: plain facts. -/
import Derived.Test.YtjfnmhkhjaafkaaMPG
namespace Go.Proofs.Ytjfnmhkhjaafkaa
namespace PG
open NR (rw_)
/-- One more pair, as the specification finds it: n of the match are still to be looked at. -/
def imp (ws : List (List Int)) (m : List Int) : Nat → Option (List Int)
  | 0 => none
  | n + 1 => if m.getD (m.length - (n + 1)) 0 = -1 then (if (tr ws 9 (m.length - (n + 1)) (m, No)).1 = true then some (tr ws 9 (m.length - (n + 1)) (m, No)).2.1 else imp ws m n) else imp ws m n
/-- As the program finds it. -/
def fnd (ws : List (List Int)) : Nat → St → Bool × St
  | 0, s => (false, s)
  | n + 1, s => if s.1.getD (s.1.length - (n + 1)) 0 = -1 then (if (tr ws 9 (s.1.length - (n + 1)) s).1 = true then tr ws 9 (s.1.length - (n + 1)) s else fnd ws n (tr ws 9 (s.1.length - (n + 1)) s).2) else fnd ws n s
theorem cl_no (ws : List (List Int)) (m : List Int) : Cl ws m No := fun r h => by cases h
theorem cl_or {ws : List (List Int)} {m : List Int} {A C : Nat → Bool} (hA : Cl ws m A) (hC : Cl ws m C) : Cl ws m (orB A C) := fun r h => by
  simp only [orB, Bool.or_eq_true] at h
  rcases h with h | h
  · obtain ⟨o, ho, hx⟩ := hA r h
    exact ⟨o, ho, fun x hx' => by simp [orB, hx x hx']⟩
  · obtain ⟨o, ho, hx⟩ := hC r h
    exact ⟨o, ho, fun x hx' => by simp [orB, hx x hx']⟩
theorem or_no (A : Nat → Bool) : orB No A = A := by funext j; simp [orB]
theorem un_no : un No < 9 := by have := un_le No; omega
/-- What a search leaves that found none. -/
structure Left (ws : List (List Int)) (m : List Int) (n : Nat) (A A' : Nat → Bool) : Prop where
  cl : Cl ws m A'
  mono : ∀ j, A j = true → A' j = true
  all : ∀ i, m.length - n ≤ i → i < m.length → m.getD i 0 = -1 → ∀ x ∈ rw_ ws i, A' x.toNat = true
theorem fnd_imp {ws : List (List Int)} (G : Gd ws) (m : List Int) : ∀ (n : Nat) (A : Nat → Bool), n ≤ m.length → Cl ws m A →
    (∀ m', imp ws m n = some m' → (fnd ws n (m, A)).1 = true ∧ (fnd ws n (m, A)).2.1 = m') ∧
    (imp ws m n = none → (fnd ws n (m, A)).1 = false ∧ (fnd ws n (m, A)).2.1 = m ∧ Left ws m n A (fnd ws n (m, A)).2.2)
  | 0, A, _, hA => ⟨fun m' h => by simp [imp] at h, fun _ => ⟨rfl, rfl, hA, fun _ h => h, fun i h1 h2 => by omega⟩⟩
  | n + 1, A, hn, hA => by
    rw [imp, fnd]
    simp only
    by_cases c : m.getD (m.length - (n + 1)) 0 = -1
    · rw [if_pos c, if_pos c]
      have hs := tr_sim G hA 9 (m.length - (n + 1)) No
      rw [or_no] at hs
      have sh := tr_shut G 9 (m.length - (n + 1)) (m, No) un_no
      have kp := tr_keep ws 9 (m.length - (n + 1)) (m, No)
      unfold Sim at hs
      rw [hs]
      generalize tr ws 9 (m.length - (n + 1)) (m, No) = q at *
      obtain ⟨b, m1, A1⟩ := q
      cases b
      · have em := kp.m rfl
        simp only at em
        subst em
        simp only [Bool.false_eq_true, if_false]
        have c1 : Cl ws m1 A1 := fun r hr => by
          obtain ⟨o, ho, hx⟩ := sh.1 rfl r hr rfl
          exact ⟨o, ho, hx⟩
        obtain ⟨h1, h2⟩ := fnd_imp G m1 n (orB A1 A) (by omega) (cl_or c1 hA)
        refine ⟨h1, fun e => ?_⟩
        obtain ⟨g1, g2, g3⟩ := h2 e
        refine ⟨g1, g2, g3.cl, fun j hj => g3.mono j (by simp [orB, hj]), fun i hi1 hi2 hi3 x hx => ?_⟩
        by_cases ci : i = m1.length - (n + 1)
        · subst ci
          exact g3.mono _ (by have := sh.2 rfl x hx; simp only at this; simp [orB, this])
        · exact g3.all i (by omega) hi2 hi3 x hx
      · simp only [if_true]
        exact ⟨fun m' e => ⟨trivial, by simpa using e⟩, fun e => by cases e⟩
    · rw [if_neg c, if_neg c]
      obtain ⟨h1, h2⟩ := fnd_imp G m n A (by omega) hA
      refine ⟨h1, fun e => ?_⟩
      obtain ⟨g1, g2, g3⟩ := h2 e
      refine ⟨g1, g2, g3.cl, g3.mono, fun i hi1 hi2 hi3 x hx => ?_⟩
      by_cases ci : i = m.length - (n + 1)
      · subst ci; exact absurd hi3 c
      · exact g3.all i (by omega) hi2 hi3 x hx
/-- How many have none. -/
def fr (m : List Int) : Nat := (List.range m.length).countP fun i => decide (m.getD i 0 = -1)
theorem fr_le (m : List Int) : fr m ≤ m.length := by
  have := List.countP_le_length (p := fun i => decide (m.getD i 0 = -1)) (l := List.range m.length)
  simpa [fr] using this
theorem won_less {left : Nat} {m : List Int} {A : Nat → Bool} {q : Bool × St} (w : Won left (m, A) q) (hl : q.2.1.length = m.length) (h : left < m.length) (h1 : m.getD left 0 = -1) : fr q.2.1 < fr m := by
  unfold fr
  rw [hl]
  have wn := w.new h
  have key : ∀ j, j < m.length → q.2.1.getD j 0 = -1 → m.getD j 0 = -1 := fun j hj e => by
    rcases w.old j hj with h' | ⟨h', _⟩
    · exact h'.symm.trans e
    · omega
  have e1 : (List.range m.length).countP (fun i => decide (q.2.1.getD i 0 = -1)) = (List.range m.length).countP (fun i => decide (i < m.length ∧ q.2.1.getD i 0 = -1)) := List.countP_congr (fun i hi => by have := List.mem_range.1 hi; simp [this])
  rw [e1]
  refine countP_lt (x := left) (fun j hj => ?_) (by simpa using h) (by simpa using h1) ?_
  · simp only [decide_eq_true_eq] at hj ⊢; exact key j hj.1 hj.2
  · simp only [decide_eq_false_iff_not]; omega
theorem imp_some {ws : List (List Int)} (G : Gd ws) {m : List Int} (hi : Inj m) : ∀ (n : Nat) (m' : List Int), n ≤ m.length → imp ws m n = some m' → Inj m' ∧ m'.length = m.length ∧ fr m' < fr m ∧ ∀ j, j < m.length → m'.getD j 0 = m.getD j 0 ∨ 0 ≤ m'.getD j 0
  | 0, m', _, h => by simp [imp] at h
  | n + 1, m', hn, h => by
    rw [imp] at h
    by_cases c : m.getD (m.length - (n + 1)) 0 = -1
    · rw [if_pos c] at h
      split at h
      · rename_i e
        simp only [Option.some.injEq] at h
        subst h
        have w := tr_won G 9 (m.length - (n + 1)) (m, No) hi e
        have k := (tr_keep ws 9 (m.length - (n + 1)) (m, No)).len
        refine ⟨w.inj, k, won_less w k (by omega) c, fun j hj => ?_⟩
        rcases w.old j hj with h' | h'
        · exact .inl h'
        · exact .inr h'.1
      · exact imp_some G hi n m' (by omega) h
    · rw [if_neg c] at h
      exact imp_some G hi n m' (by omega) h
/-- As often as it can be. -/
def all (ws : List (List Int)) : Nat → List Int → List Int
  | 0, m => m
  | f + 1, m => match imp ws m m.length with
    | none => m
    | some m' => all ws f m'
theorem all_none {ws : List (List Int)} {m : List Int} (f : Nat) (h : imp ws m m.length = none) : all ws (f + 1) m = m := by rw [all, h]
theorem all_some {ws : List (List Int)} {m m' : List Int} (f : Nat) (h : imp ws m m.length = some m') : all ws (f + 1) m = all ws f m' := by rw [all, h]
theorem all_end {ws : List (List Int)} (G : Gd ws) : ∀ (f : Nat) (m : List Int), Inj m → fr m < f → imp ws (all ws f m) (all ws f m).length = none ∧ Inj (all ws f m) ∧ (all ws f m).length = m.length
  | 0, m, _, h => by omega
  | f + 1, m, hi, h => by
    cases c : imp ws m m.length with
    | none => rw [all_none f c]; exact ⟨c, hi, rfl⟩
    | some m' =>
      rw [all_some f c]
      obtain ⟨h1, h2, h3, _⟩ := imp_some G hi _ m' (Nat.le_refl _) c
      obtain ⟨g1, g2, g3⟩ := all_end G f m' h1 (by omega)
      exact ⟨g1, g2, g3.trans h2⟩
/-- Nobody has one yet. -/
def none_ (n : Nat) : List Int := List.replicate n (-1)
theorem none_at (n j : Nat) (h : j < n) : (none_ n).getD j 0 = -1 := by simp [none_, List.getD_eq_getElem?_getD, h]
theorem none_inj (n : Nat) : Inj (none_ n) := fun i j hi _ _ hn => by
  rw [none_, List.length_replicate] at hi
  exact absurd (none_at n i hi) hn
/-- The most pairs. -/
def mAll (ws : List (List Int)) (n : Nat) : List Int := all ws 9 (none_ n)
theorem fr_none (n : Nat) (h : n ≤ 8) : fr (none_ n) < 9 := by have := fr_le (none_ n); simp only [none_, List.length_replicate] at this; unfold none_; omega
theorem mAll_end {ws : List (List Int)} (G : Gd ws) (n : Nat) (h : n ≤ 8) : imp ws (mAll ws n) (mAll ws n).length = none ∧ Inj (mAll ws n) ∧ (mAll ws n).length = n := by
  obtain ⟨h1, h2, h3⟩ := all_end G 9 (none_ n) (none_inj n) (fr_none n h)
  exact ⟨h1, h2, by rw [mAll, h3]; simp [none_]⟩
/-- Whom the last search asked. -/
def ask (ws : List (List Int)) (m : List Int) : Nat → Bool := (fnd ws m.length (m, No)).2.2
/-- What can be reached from lefts without one. -/
def Shut (ws : List (List Int)) (m : List Int) (P : Int → Prop) : Prop := (∀ i, i < m.length → m.getD i 0 = -1 → ∀ x ∈ rw_ ws i, P x) ∧ ∀ r o, P r → own m r = some o → ∀ x ∈ rw_ ws o, P x
theorem lets_in {P : Int → Prop} {ws : List (List Int)} {m : List Int} (hP : Shut ws m P) {rec : Nat → St → Bool × St} (h : ∀ o A, (∀ x ∈ rw_ ws o, P x) → ∀ j : Nat, (rec o (m, A)).2.2 j = true → A j = true ∨ P j) (r : Int) (hr0 : 0 ≤ r) (hr : P r) (A : Nat → Bool) : ∀ j : Nat, (lets rec r (m, A)).2.2 j = true → A j = true ∨ P j := by
  have hm : ∀ j : Nat, mk A r.toNat j = true → A j = true ∨ P j := fun j hj => by
    by_cases c : j = r.toNat
    · subst c; rw [toNat_is hr0]; exact .inr hr
    · simp only [mk, if_neg c] at hj; exact .inl hj
  unfold lets
  split
  · exact fun j hj => .inl hj
  · split
    · exact hm
    · rename_i o ho
      intro j hj
      rcases h o _ (hP.2 r o hr ho) j hj with h' | h'
      · exact hm j h'
      · exact .inr h'
theorem first_in {P : Int → Prop} {m : List Int} {g : Int → St → Bool × St} (hk : ∀ r s, Keep s (g r s)) (h : ∀ r A, 0 ≤ r → P r → ∀ j : Nat, (g r (m, A)).2.2 j = true → A j = true ∨ P j) (left : Nat) : ∀ (rs : List Int) (A : Nat → Bool), (∀ r ∈ rs, 0 ≤ r ∧ P r) → ∀ j : Nat, (first g left rs (m, A)).2.2 j = true → A j = true ∨ P j
  | [], A, _ => fun j hj => .inl hj
  | r :: rs, A, hrs => by
    have h1 := h r A (hrs r (by simp)).1 (hrs r (by simp)).2
    have k := hk r (m, A)
    rw [first]
    generalize g r (m, A) = q at *
    obtain ⟨b, m1, A1⟩ := q
    cases b
    · have em := k.m rfl
      simp only at em
      subst em
      simp only [Bool.false_eq_true, if_false]
      intro j hj
      rcases first_in hk h left rs A1 (fun x hx => hrs x (by simp [hx])) j hj with h' | h'
      · exact h1 j h'
      · exact .inr h'
    · simpa using h1
theorem tr_in {P : Int → Prop} {ws : List (List Int)} (G : Gd ws) {m : List Int} (hP : Shut ws m P) : ∀ (f left : Nat) (A : Nat → Bool), (∀ x ∈ rw_ ws left, P x) → ∀ j : Nat, (tr ws f left (m, A)).2.2 j = true → A j = true ∨ P j
  | 0, _, _, _ => fun _ hj => .inl hj
  | f + 1, left, A, h => first_in (fun r s => lets_keep (tr_keep ws f) r s) (fun r A hr0 hr => lets_in hP (tr_in G hP f) r hr0 hr A) left (rw_ ws left) A (fun r hr => ⟨(G left r hr).1, h r hr⟩)
theorem fnd_in {P : Int → Prop} {ws : List (List Int)} (G : Gd ws) {m : List Int} (hP : Shut ws m P) : ∀ (n : Nat) (A : Nat → Bool), n ≤ m.length → (fnd ws n (m, A)).1 = false → ∀ j : Nat, (fnd ws n (m, A)).2.2 j = true → A j = true ∨ P j
  | 0, A, _, _ => fun j hj => .inl hj
  | n + 1, A, hn, e => by
    rw [fnd] at e ⊢
    simp only at e ⊢
    by_cases c : m.getD (m.length - (n + 1)) 0 = -1
    · rw [if_pos c] at e ⊢
      have h1 := tr_in G hP 9 (m.length - (n + 1)) A (hP.1 _ (by omega) c)
      have k := tr_keep ws 9 (m.length - (n + 1)) (m, A)
      generalize tr ws 9 (m.length - (n + 1)) (m, A) = q at *
      obtain ⟨b, m1, A1⟩ := q
      cases b
      · have em := k.m rfl
        simp only at em
        subst em
        simp only [Bool.false_eq_true, if_false] at e ⊢
        intro j hj
        rcases fnd_in G hP n A1 (by omega) e j hj with h' | h'
        · exact h1 j h'
        · exact .inr h'
      · simp at e
    · rw [if_neg c] at e ⊢
      exact fnd_in G hP n A (by omega) e
/-- The last search asked whom can be reached, and nobody else. -/
theorem ask_is {ws : List (List Int)} (G : Gd ws) {m : List Int} (h : imp ws m m.length = none) {P : Int → Prop} (hP : Shut ws m P) (hm : ∀ r, P r → ∀ Q, Shut ws m Q → Q r) (j : Nat) : ask ws m j = true ↔ P j := by
  obtain ⟨h1, h2, h3⟩ := (fnd_imp G m m.length No (Nat.le_refl _) (cl_no ws m)).2 h
  constructor
  · intro hj
    rcases fnd_in G hP m.length No (Nat.le_refl _) h1 j hj with h' | h'
    · cases h'
    · exact h'
  · intro hj
    have := hm j hj (fun r => 0 ≤ r ∧ ask ws m r.toNat = true) ⟨fun i hi e x hx => ⟨(G i x hx).1, h3.all i (by omega) hi e x hx⟩, fun r o hr ho x hx => by
      obtain ⟨o', ho', hx'⟩ := h3.cl _ hr.2
      rw [toNat_is hr.1, ho] at ho'
      simp only [Option.some.injEq] at ho'
      subst ho'
      exact ⟨(G o x hx).1, hx' x hx⟩⟩
    simpa using this.2
/-- What is reached, place by place, as the specification finds it: lefts and rights. -/
abbrev Rs := List Int × List Int
def rin1 (m : List Int) (r : Int) (s : Rs) : Rs :=
  if r ∈ s.2 then s else
  match own m r with
  | none => (s.1, s.2 ++ [r])
  | some o => if (o : Int) ∈ s.1 then (s.1, s.2 ++ [r]) else (s.1 ++ [(o : Int)], s.2 ++ [r])
def rin (m : List Int) : List Int → Rs → Rs
  | [], s => s
  | r :: rs, s => rin m rs (rin1 m r s)
def rout (ws : List (List Int)) (m : List Int) : Nat → Nat → Rs → Rs
  | 0, _, s => s
  | f + 1, k, s => if k < s.1.length then rout ws m f (k + 1) (rin m (rw_ ws (s.1.getD k 0).toNat) s) else s
/-- The lefts without one. -/
def fre (m : List Int) (k : Nat) : List Int := ((List.range k).filter fun i => decide (m.getD i 0 = -1)).map fun (i : Nat) => (i : Int)
theorem fre_succ (m : List Int) (k : Nat) : fre m (k + 1) = if m.getD k 0 = -1 then fre m k ++ [(k : Int)] else fre m k := by
  unfold fre
  rw [List.range_succ, List.filter_append, List.map_append]
  by_cases c : m.getD k 0 = -1
  · rw [if_pos c, List.filter_cons, if_pos (by simpa only [decide_eq_true_eq] using c)]; rfl
  · rw [if_neg c, List.filter_cons, if_neg (by simpa only [decide_eq_true_eq] using c)]; exact List.append_nil _
theorem fre_mem (m : List Int) (k : Nat) (x : Int) : x ∈ fre m k ↔ ∃ i : Nat, i < k ∧ m.getD i 0 = -1 ∧ x = i := by
  simp only [fre, List.mem_map, List.mem_filter, List.mem_range, decide_eq_true_eq]
  constructor
  · rintro ⟨i, ⟨h1, h2⟩, rfl⟩; exact ⟨i, h1, h2, rfl⟩
  · rintro ⟨i, h1, h2, rfl⟩; exact ⟨i, ⟨h1, h2⟩, rfl⟩
theorem fre_nodup (m : List Int) (k : Nat) : (fre m k).Nodup := by
  unfold fre
  refine List.Pairwise.map _ (R := (· ≠ ·)) (fun a b h e => h (by omega)) (List.Pairwise.filter _ List.nodup_range)
theorem fre_len (m : List Int) (k : Nat) : (fre m k).length ≤ k := by
  unfold fre
  have := List.length_filter_le (fun i => decide (m.getD i 0 = -1)) (List.range k)
  simpa using this
def reach (ws : List (List Int)) (m : List Int) : Rs := rout ws m 9 0 (fre m m.length, [])
/-- What holds all along. -/
structure Rch (ws : List (List Int)) (m : List Int) (s : Rs) : Prop where
  nd : s.1.Nodup
  lt : ∀ x ∈ s.1, 0 ≤ x ∧ x < m.length
  nd2 : s.2.Nodup
  lt2 : ∀ x ∈ s.2, 0 ≤ x ∧ x < 8
  free : ∀ i : Nat, i < m.length → m.getD i 0 = -1 → (i : Int) ∈ s.1
  back : ∀ r ∈ s.2, ∀ o, own m r = some o → (o : Int) ∈ s.1
  only : ∀ Q, Shut ws m Q → ∀ r ∈ s.2, Q r
  came : ∀ i : Nat, (i : Int) ∈ s.1 → m.getD i 0 = -1 ∨ ∃ r ∈ s.2, own m r = some i
/-- Whom the first k want is there. -/
def Wnt (ws : List (List Int)) (s : Rs) (k : Nat) : Prop := ∀ j, j < k → j < s.1.length → ∀ x ∈ rw_ ws (s.1.getD j 0).toNat, x ∈ s.2
theorem rin1_grow (m : List Int) (r : Int) (s : Rs) : (∃ l, (rin1 m r s).1 = s.1 ++ l) ∧ (∃ q, (rin1 m r s).2 = s.2 ++ q) ∧ r ∈ (rin1 m r s).2 := by
  unfold rin1
  split
  · rename_i h; exact ⟨⟨[], by simp⟩, ⟨[], by simp⟩, h⟩
  · split
    · exact ⟨⟨[], by simp⟩, ⟨[r], rfl⟩, by simp⟩
    · split
      · exact ⟨⟨[], by simp⟩, ⟨[r], rfl⟩, by simp⟩
      · exact ⟨⟨_, rfl⟩, ⟨[r], rfl⟩, by simp⟩
theorem rin_grow (m : List Int) : ∀ (rs : List Int) (s : Rs), (∃ l, (rin m rs s).1 = s.1 ++ l) ∧ (∃ q, (rin m rs s).2 = s.2 ++ q) ∧ ∀ r ∈ rs, r ∈ (rin m rs s).2
  | [], s => ⟨⟨[], by simp [rin]⟩, ⟨[], by simp [rin]⟩, fun r h => by simp at h⟩
  | r :: rs, s => by
    obtain ⟨⟨l1, e1⟩, ⟨q1, f1⟩, g1⟩ := rin1_grow m r s
    obtain ⟨⟨l2, e2⟩, ⟨q2, f2⟩, g2⟩ := rin_grow m rs (rin1 m r s)
    rw [rin]
    refine ⟨⟨l1 ++ l2, by rw [e2, e1, List.append_assoc]⟩, ⟨q1 ++ q2, by rw [f2, f1, List.append_assoc]⟩, fun x hx => ?_⟩
    rcases List.mem_cons.1 hx with rfl | hx
    · rw [f2]; exact List.mem_append_left _ g1
    · exact g2 x hx
theorem nodup_snoc {l : List Int} {x : Int} (h : l.Nodup) (hx : x ∉ l) : (l ++ [x]).Nodup := by
  rw [List.nodup_append]
  refine ⟨h, by simp, fun a ha b hb => ?_⟩
  rw [List.mem_singleton] at hb; subst hb
  exact fun e => hx (e ▸ ha)
theorem rin1_rch {ws : List (List Int)} {m : List Int} {r : Int} {s : Rs} (h : Rch ws m s) (h0 : 0 ≤ r ∧ r < 8) (hr : ∀ Q, Shut ws m Q → Q r) : Rch ws m (rin1 m r s) := by
  unfold rin1
  split
  · exact h
  · rename_i hn
    have on2 : ∀ Q, Shut ws m Q → ∀ x ∈ s.2 ++ [r], Q x := fun Q hQ x hx => by
      rcases List.mem_append.1 hx with hx | hx
      · exact h.only Q hQ x hx
      · rw [List.mem_singleton.1 hx]; exact hr Q hQ
    have lt2 : ∀ x ∈ s.2 ++ [r], 0 ≤ x ∧ x < 8 := fun x hx => by
      rcases List.mem_append.1 hx with hx | hx
      · exact h.lt2 x hx
      · rw [List.mem_singleton.1 hx]; exact h0
    split
    · rename_i ho
      refine ⟨h.nd, h.lt, nodup_snoc h.nd2 hn, lt2, h.free, fun x hx o e => ?_, on2, fun i hi => ?_⟩
      · rcases List.mem_append.1 hx with hx | hx
        · exact h.back x hx o e
        · rw [List.mem_singleton.1 hx, ho] at e; cases e
      · rcases h.came i hi with h' | ⟨x, hx, e⟩
        · exact .inl h'
        · exact .inr ⟨x, List.mem_append_left _ hx, e⟩
    · rename_i o ho
      have ho' := own_some.1 ho
      split
      · rename_i hin
        refine ⟨h.nd, h.lt, nodup_snoc h.nd2 hn, lt2, h.free, fun x hx o' e => ?_, on2, fun i hi => ?_⟩
        · rcases List.mem_append.1 hx with hx | hx
          · exact h.back x hx o' e
          · rw [List.mem_singleton.1 hx, ho] at e
            simp only [Option.some.injEq] at e
            subst e; exact hin
        · rcases h.came i hi with h' | ⟨x, hx, e⟩
          · exact .inl h'
          · exact .inr ⟨x, List.mem_append_left _ hx, e⟩
      · rename_i hin
        refine ⟨nodup_snoc h.nd hin, fun x hx => ?_, nodup_snoc h.nd2 hn, lt2, fun i h1 h2 => List.mem_append_left _ (h.free i h1 h2), fun x hx o' e => ?_, on2, fun i hi => ?_⟩
        · rcases List.mem_append.1 hx with hx | hx
          · exact h.lt x hx
          · rw [List.mem_singleton.1 hx]; omega
        · rcases List.mem_append.1 hx with hx | hx
          · exact List.mem_append_left _ (h.back x hx o' e)
          · rw [List.mem_singleton.1 hx, ho] at e
            simp only [Option.some.injEq] at e
            subst e; simp
        · rcases List.mem_append.1 hi with hi | hi
          · rcases h.came i hi with h' | ⟨x, hx, e⟩
            · exact .inl h'
            · exact .inr ⟨x, List.mem_append_left _ hx, e⟩
          · have : i = o := by have := List.mem_singleton.1 hi; omega
            subst this
            exact .inr ⟨r, by simp, ho⟩
theorem rin_rch {ws : List (List Int)} {m : List Int} : ∀ (rs : List Int) {s : Rs}, Rch ws m s → (∀ r ∈ rs, 0 ≤ r ∧ r < 8) → (∀ r ∈ rs, ∀ Q, Shut ws m Q → Q r) → Rch ws m (rin m rs s)
  | [], _, h, _, _ => h
  | r :: rs, _, h, h0, hr => rin_rch rs (rin1_rch h (h0 r (by simp)) (hr r (by simp))) (fun x hx => h0 x (by simp [hx])) (fun x hx => hr x (by simp [hx]))
theorem sub_len : ∀ (l k : List Int), l.Nodup → l ⊆ k → l.length ≤ k.length
  | [], _, _, _ => by simp
  | x :: l, k, hn, hs => by
    rw [List.nodup_cons] at hn
    have hx : x ∈ k := hs (by simp)
    have := sub_len l (k.erase x) hn.2 (fun y hy => (List.mem_erase_of_ne (by rintro rfl; exact hn.1 hy)).2 (hs (List.mem_cons_of_mem _ hy)))
    rw [List.length_erase_of_mem hx] at this
    have : 0 < k.length := List.length_pos_of_mem hx
    simp only [List.length_cons]; omega
theorem nodup_len {l : List Int} (hn : l.Nodup) {n : Nat} (h : ∀ x ∈ l, 0 ≤ x ∧ x < n) : l.length ≤ n := by
  have hs : l ⊆ (List.range n).map (fun (i : Nat) => (i : Int)) := fun x hx => by
    have := h x hx
    exact List.mem_map.2 ⟨x.toNat, List.mem_range.2 (by omega), by omega⟩
  have := sub_len _ _ hn hs
  simpa using this
theorem Rch.want {ws : List (List Int)} {m : List Int} {s : Rs} (h : Rch ws m s) {k : Nat} (hk : k < s.1.length) : ∀ x ∈ rw_ ws (s.1.getD k 0).toNat, ∀ Q, Shut ws m Q → Q x := fun x hx Q hQ => by
  have hmem : s.1.getD k 0 ∈ s.1 := by rw [List.getD_eq_getElem?_getD, List.getElem?_eq_getElem hk]; exact List.getElem_mem _
  have hl := h.lt _ hmem
  have hc := h.came (s.1.getD k 0).toNat (by rw [toNat_is hl.1]; exact hmem)
  rcases hc with hc | ⟨r, hr, ho⟩
  · exact hQ.1 _ (by omega) hc x hx
  · exact hQ.2 r _ (h.only Q hQ r hr) ho x hx
theorem Wnt.step {ws : List (List Int)} {m : List Int} {s : Rs} {k : Nat} (h : Wnt ws s k) (hk : k < s.1.length) : Wnt ws (rin m (rw_ ws (s.1.getD k 0).toNat) s) (k + 1) := fun j hj hj2 x hx => by
  obtain ⟨⟨l1, e1⟩, ⟨q1, f1⟩, g1⟩ := rin_grow m (rw_ ws (s.1.getD k 0).toNat) s
  rw [e1, List.getD_eq_getElem?_getD, List.getElem?_append_left (by omega), ← List.getD_eq_getElem?_getD] at hx
  by_cases c : j = k
  · subst c; exact g1 x hx
  · rw [f1]; exact List.mem_append_left _ (h j (by omega) (by omega) x hx)
theorem rout_end {ws : List (List Int)} (G : Gd ws) {m : List Int} : ∀ (f k : Nat) (s : Rs), Rch ws m s → Wnt ws s k → k ≤ s.1.length → m.length < f + k → Rch ws m (rout ws m f k s) ∧ Wnt ws (rout ws m f k s) (rout ws m f k s).1.length
  | 0, k, s, h, _, h1, h2 => by have := nodup_len h.nd h.lt; omega
  | f + 1, k, s, h, hw, h1, h2 => by
    rw [rout]
    by_cases c : k < s.1.length
    · rw [if_pos c]
      obtain ⟨⟨l1, e1⟩, _, _⟩ := rin_grow m (rw_ ws (s.1.getD k 0).toNat) s
      exact rout_end G f (k + 1) _ (rin_rch _ h (fun r hr => G _ r hr) (h.want c)) (hw.step c) (by rw [e1, List.length_append]; omega) (by omega)
    · rw [if_neg c]
      have : k = s.1.length := by omega
      subst this
      exact ⟨h, hw⟩
theorem fre_rch (ws : List (List Int)) (m : List Int) : Rch ws m (fre m m.length, []) :=
  ⟨fre_nodup _ _, fun x hx => by obtain ⟨i, h1, _, rfl⟩ := (fre_mem _ _ _).1 hx; omega, by simp, by simp, fun i h1 h2 => (fre_mem _ _ _).2 ⟨i, h1, h2, rfl⟩, by simp, by simp, fun i hi => by
    obtain ⟨j, h1, h2, h3⟩ := (fre_mem _ _ _).1 hi
    have : i = j := by omega
    subst this; exact .inl h2⟩
theorem reach_is {ws : List (List Int)} (G : Gd ws) {m : List Int} (hm : m.length ≤ 8) (h : imp ws m m.length = none) (hi : Inj m) (hmg : ∀ i, i < m.length → m.getD i 0 ≠ -1 → 0 ≤ m.getD i 0) :
    Rch ws m (reach ws m) ∧ (∀ j : Nat, ask ws m j = true ↔ (j : Int) ∈ (reach ws m).2) ∧ (∀ i : Nat, i < m.length → ((i : Int) ∈ (reach ws m).1 ↔ (m.getD i 0 = -1 ∨ ask ws m (m.getD i 0).toNat = true))) := by
  obtain ⟨R, W⟩ := rout_end G (m := m) 9 0 (fre m m.length, []) (fre_rch ws m) (fun j hj => by omega) (by omega) (by omega)
  rw [← reach] at R W
  have hP : Shut ws m (fun r => r ∈ (reach ws m).2) := by
    have key : ∀ i : Nat, (i : Int) ∈ (reach ws m).1 → ∀ x ∈ rw_ ws i, x ∈ (reach ws m).2 := fun i hi x hx => by
      obtain ⟨j, hj, e⟩ := List.getElem_of_mem hi
      refine W j hj hj x ?_
      rw [List.getD_eq_getElem?_getD, List.getElem?_eq_getElem hj, e]
      exact hx
    exact ⟨fun i h1 h2 x hx => key i (R.free i h1 h2) x hx, fun r o hr ho x hx => key o (R.back r hr o ho) x hx⟩
  have ha : ∀ j : Nat, ask ws m j = true ↔ (j : Int) ∈ (reach ws m).2 := fun j => ask_is G h hP (fun r hr Q hQ => R.only Q hQ r hr) j
  refine ⟨R, ha, fun i hil => ⟨fun hi' => ?_, fun hi' => ?_⟩⟩
  · rcases R.came i hi' with h' | ⟨r, hr, ho⟩
    · exact .inl h'
    · have := own_some.1 ho
      rw [this.2.1]
      refine .inr ((ha _).2 ?_)
      rw [toNat_is (R.lt2 r hr).1]; exact hr
  · by_cases c : m.getD i 0 = -1
    · exact R.free i hil c
    · rcases hi' with h' | h'
      · exact absurd h' c
      · have h2 := (ha _).1 h'
        rw [toNat_is (hmg i hil c)] at h2
        refine R.back _ h2 i (own_some.2 ⟨hil, rfl, fun j hj e => ?_⟩)
        have := hi j i (by omega) hil e (by rw [e]; exact c)
        omega
theorem all_pos {ws : List (List Int)} (G : Gd ws) : ∀ (f : Nat) (m : List Int), Inj m → (∀ i, i < m.length → m.getD i 0 ≠ -1 → 0 ≤ m.getD i 0) → ∀ i, i < m.length → (all ws f m).getD i 0 ≠ -1 → 0 ≤ (all ws f m).getD i 0
  | 0, m, _, h => h
  | f + 1, m, hi, h => by
    cases c : imp ws m m.length with
    | none => rw [all_none f c]; exact h
    | some m' =>
      rw [all_some f c]
      obtain ⟨h1, h2, _, h4⟩ := imp_some G hi _ m' (Nat.le_refl _) c
      have := all_pos G f m' h1 (fun i hi' hn => by
        rcases h4 i (by omega) with e | e
        · rw [e] at hn ⊢; exact h i (by omega) hn
        · exact e)
      rw [h2] at this; exact this
theorem mAll_pos {ws : List (List Int)} (G : Gd ws) (n : Nat) : ∀ i, i < n → (mAll ws n).getD i 0 ≠ -1 → 0 ≤ (mAll ws n).getD i 0 := by
  have := all_pos G 9 (none_ n) (none_inj n) (fun i hi hn => absurd (none_at n i (by simpa [none_] using hi)) hn)
  rw [none_, List.length_replicate] at this
  exact this
end PG
end Go.Proofs.Ytjfnmhkhjaafkaa
