import Derived.Test.YtgenmljnhlcpcaaMJM
/- No order is less late than that by due times (Jackson); none has fewer late ones than are left out (Moore and Hodgson): plain facts. -/
namespace Go.Proofs.Ytgenmljnhlcpcaa
namespace JD
open Go.RowKit
/-- How long some take together. -/
def sm (f : Int → Nat) (l : List Int) : Nat := (l.map f).sum
theorem sm_nil (f : Int → Nat) : sm f [] = 0 := rfl
theorem sm_cons (f : Int → Nat) (x : Int) (l : List Int) : sm f (x :: l) = f x + sm f l := by simp [sm]
theorem sm_app (f : Int → Nat) (l m : List Int) : sm f (l ++ m) = sm f l + sm f m := by simp [sm]
theorem sm_int (f : Int → Nat) : ∀ l : List Int, (l.map fun z => (f z : Int)).sum = (sm f l : Int)
  | [] => rfl
  | x :: l => by rw [List.map_cons, List.sum_cons, sm_int f l, sm_cons]; omega
theorem sm_perm {f : Int → Nat} {l l' : List Int} (h : l.Perm l') : sm f l = sm f l' := by
  induction h with
  | nil => rfl
  | cons x _ ih => rw [sm_cons, sm_cons, ih]
  | swap x y l => simp only [sm_cons]; omega
  | trans _ _ h1 h2 => exact h1.trans h2
theorem sub_sm (f : Int → Nat) : ∀ {S T : List Int}, S.Nodup → (∀ x, x ∈ S → x ∈ T) → sm f S ≤ sm f T
  | [], T, _, _ => Nat.zero_le _
  | x :: S, T, hn, hs => by
    rw [List.nodup_cons] at hn
    have hx := hs x List.mem_cons_self
    rw [sm_perm (List.perm_cons_erase hx), sm_cons, sm_cons]
    have := sub_sm f (S := S) (T := T.erase x) hn.2 (fun y hy => (List.mem_erase_of_ne (show y ≠ x from fun e => hn.1 (e ▸ hy))).2 (hs y (List.mem_cons_of_mem _ hy)))
    omega
theorem sm_one (l : List Int) : sm (fun _ => 1) l = l.length := by
  induction l with
  | nil => rfl
  | cons x l ih => rw [sm_cons, ih, List.length_cons]; omega
theorem sub_len {S T : List Int} (hn : S.Nodup) (hs : ∀ x, x ∈ S → x ∈ T) : S.length ≤ T.length := by
  have := sub_sm (fun _ => 1) hn hs
  rwa [sm_one, sm_one] at this
theorem sub_full {S T : List Int} (hn : S.Nodup) (hs : ∀ x, x ∈ S → x ∈ T) (hl : T.length ≤ S.length) : ∀ x, x ∈ T → x ∈ S := by
  intro x hx
  apply Classical.byContradiction
  intro hxs
  have h1 := sub_len (T := T.erase x) hn (fun y hy => (List.mem_erase_of_ne (show y ≠ x from fun e => hxs (e ▸ hy))).2 (hs y hy))
  rw [List.length_erase_of_mem hx] at h1
  have := List.length_pos_of_mem hx
  omega
/-- The last of some in an order: all of them are done by then. -/
theorem last_of {os S : List Int} {x0 : Int} (h0 : x0 ∈ S) : ∀ n, n ≤ os.length → (∀ x, x ∈ S → x ∈ os.take n) → ∃ j, j < n ∧ os.getD j 0 ∈ S ∧ ∀ x, x ∈ S → x ∈ os.take (j + 1)
  | 0, _, h => by have := h x0 h0; simp at this
  | n + 1, hn, h => by
    by_cases hm : os.getD n 0 ∈ S
    · exact ⟨n, by omega, hm, h⟩
    · obtain ⟨j, hj, a, b⟩ := last_of (os := os) h0 n (by omega) (fun x hx => by
        have := h x hx
        rw [M4.take_snoc os n (by omega)] at this
        rcases List.mem_append.1 this with h1 | h1
        · exact h1
        · rw [List.mem_singleton.1 h1] at hx; exact absurd hx hm)
      exact ⟨j, by omega, a, b⟩
theorem srt_le (r : Int → Nat) (zs : List Int) : ∀ m, (srt r zs m).Pairwise (fun a b => r a ≤ r b)
  | 0 => List.Pairwise.nil
  | m + 1 => by
    rw [srt, List.pairwise_append]
    refine ⟨srt_le r zs m, ?_, ?_⟩
    · refine List.pairwise_of_forall_mem_list (fun a ha b hb => ?_)
      have h1 := (List.mem_filter.1 ha).2
      have h2 := (List.mem_filter.1 hb).2
      simp only [decide_eq_true_eq] at h1 h2
      omega
    · intro a ha b hb
      have h1 := ((srt_mem r zs m a).1 ha).2
      have h2 := (List.mem_filter.1 hb).2
      simp only [decide_eq_true_eq] at h2
      omega
theorem byD_le (xs : List I2) : (byD xs).Pairwise (fun a b => dueN xs a ≤ dueN xs b) := srt_le _ _ _
theorem pair_le {r : Int → Nat} {l : List Int} (h : l.Pairwise (fun a b => r a ≤ r b)) {k : Nat} (hk : k < l.length) : ∀ x, x ∈ l.take (k + 1) → r x ≤ r (l.getD k 0) := by
  intro x hx
  obtain ⟨i, hi, e⟩ := List.mem_take_iff_getElem.1 hx
  rw [← e, getD_at hk]
  by_cases h1 : i = k
  · subst h1; exact Nat.le_refl _
  · exact List.pairwise_iff_getElem.1 h i k (by omega) hk (by omega)
/-- An order: each job once. -/
structure Od (xs : List I2) (os : List Int) : Prop where
  ok : okP xs = true
  len : os.length = xs.length
  rng : ∀ z, z ∈ os → 0 ≤ z ∧ z < xs.length
  nd : os.Nodup
theorem Od.of {xs : List I2} {os : List Int} (h : isO xs os = true) : Od xs os := by
  unfold isO at h
  simp only [Bool.and_eq_true, decide_eq_true_eq, onceB] at h
  exact ⟨h.1.1, h.1.2, h.2.1, h.2.2⟩
theorem Od.is {xs : List I2} {os : List Int} (h : Od xs os) : isO xs os = true := by
  unfold isO
  simp only [Bool.and_eq_true, decide_eq_true_eq, onceB]
  exact ⟨⟨h.ok, h.len⟩, h.rng, h.nd⟩
theorem Od.full {xs : List I2} {os : List Int} (h : Od xs os) : ∀ z : Int, 0 ≤ z → z < xs.length → z ∈ os := fun z h0 h1 =>
  sub_full (T := nums xs.length) h.nd (fun x hx => (nums_mem _ _).2 (h.rng x hx)) (by rw [nums_len, h.len]; exact Nat.le_refl _) z ((nums_mem _ _).2 ⟨h0, h1⟩)
theorem Od.end_ {xs : List I2} {os : List Int} (h : Od xs os) {k : Nat} (hk : k ≤ os.length) : endK xs os k = (sm (lngN xs) (os.take k) : Int) := by
  rw [endK_sum' h.ok h.rng k hk, sm_int]
theorem Od.lt_ {xs : List I2} {os : List Int} (h : Od xs os) {k : Nat} (hk : k < os.length) : ltK xs os k = (sm (lngN xs) (os.take (k + 1)) : Int) - (dueN xs (os.getD k 0) : Int) := by
  have h1 := h.rng _ (getD_mem hk)
  have e1 := h.end_ (k := k + 1) (by omega)
  rw [endK] at e1
  rw [ltK, e1, jd, due_is h.ok h1.1 h1.2]
theorem Od.due {xs : List I2} (h : okP xs = true) : Od xs (byD xs) := ⟨h, byD_len h, fun z hz => (byD_mem h z).1 hz, byD_nodup xs⟩
theorem mxK_le {xs : List I2} {os : List Int} {X : Int} (h0 : 0 ≤ X) : ∀ n, (∀ k, k < n → ltK xs os k ≤ X) → mxK xs os n ≤ X
  | 0, _ => h0
  | n + 1, h => by
    have := mxK_le h0 n (fun k hk => h k (by omega))
    have := h n (by omega)
    rw [mxK]; split <;> omega
theorem lt_mxK {xs : List I2} {os : List Int} : ∀ n k, k < n → ltK xs os k ≤ mxK xs os n
  | 0, k, h => by omega
  | n + 1, k, h => by
    rw [mxK]
    by_cases e : k = n
    · subst e; split <;> omega
    · have := lt_mxK (xs := xs) (os := os) n k (by omega)
      split <;> omega
/-- Jackson. -/
theorem jackson {xs : List I2} {os : List Int} (h : Od xs os) : mxK xs (byD xs) xs.length ≤ mxK xs os os.length := by
  have D := Od.due h.ok
  refine mxK_le (mxK_pos _ _ _) _ (fun k hk => ?_)
  have hkd : k < (byD xs).length := by rw [D.len]; exact hk
  have hnd : ((byD xs).take (k + 1)).Nodup := D.nd.sublist (List.take_sublist _ _)
  have hmem : (byD xs).getD k 0 ∈ (byD xs).take (k + 1) := by rw [M4.take_snoc _ _ hkd]; simp
  obtain ⟨j, hj, a, b⟩ := last_of (os := os) hmem os.length (Nat.le_refl _) (fun x hx => by
    rw [List.take_length]
    have := D.rng x (List.mem_of_mem_take hx)
    exact h.full x this.1 this.2)
  have h1 := sub_sm (lngN xs) hnd b
  have h2 := pair_le (byD_le xs) hkd _ a
  have h3 := lt_mxK (xs := xs) (os := os) os.length j hj
  rw [h.lt_ hj] at h3
  rw [D.lt_ hkd]
  omega
/-- All are in time, as they stand. -/
def Feas (xs : List I2) (S : List Int) : Prop := ∀ i, i < S.length → sm (lngN xs) (S.take (i + 1)) ≤ dueN xs (S.getD i 0)
theorem feas_nil (xs : List I2) : Feas xs [] := fun i hi => by simp at hi
theorem feas_snoc {xs : List I2} {S : List Int} {z : Int} : Feas xs (S ++ [z]) ↔ Feas xs S ∧ sm (lngN xs) S + lngN xs z ≤ dueN xs z := by
  have e1 : (S ++ [z]).take (S.length + 1) = S ++ [z] := List.take_of_length_le (by simp)
  have e2 : (S ++ [z]).getD S.length 0 = z := by simp [List.getD_eq_getElem?_getD]
  have e3 : ∀ i, i < S.length → (S ++ [z]).take (i + 1) = S.take (i + 1) := fun i hi => List.take_append_of_le_length (by omega)
  have e4 : ∀ i, i < S.length → (S ++ [z]).getD i 0 = S.getD i 0 := fun i hi => by simp only [List.getD_eq_getElem?_getD]; rw [List.getElem?_append_left hi]
  constructor
  · intro h
    refine ⟨fun i hi => ?_, ?_⟩
    · have := h i (by simp; omega)
      rwa [e3 i hi, e4 i hi] at this
    · have := h S.length (by simp)
      rw [e1, e2, sm_app, sm_cons, sm_nil] at this
      omega
  · rintro ⟨h1, h2⟩ i hi
    by_cases e : i = S.length
    · subst e; rw [e1, e2, sm_app, sm_cons, sm_nil]; omega
    · have hi2 : i < S.length := by simp at hi; omega
      rw [e3 i hi2, e4 i hi2]; exact h1 i hi2
theorem sub_sub_sm (f : Int → Nat) {S T : List Int} (h : S.Sublist T) : sm f S ≤ sm f T := by
  induction h with
  | slnil => exact Nat.le_refl _
  | cons x _ ih => rw [sm_cons]; omega
  | cons_cons x _ ih => rw [sm_cons, sm_cons]; omega
theorem snoc_ind {P : List Int → Prop} (h0 : P []) (h1 : ∀ l x, P l → P (l ++ [x])) : ∀ l, P l := fun l => by
  have : ∀ n (l : List Int), l.length = n → P l := fun n => by
    induction n with
    | zero => intro l hl; rw [List.eq_nil_of_length_eq_zero hl]; exact h0
    | succ n ih =>
      intro l hl
      have e : l = l.take n ++ [l.getD n 0] := by
        rw [← M4.take_snoc _ _ (by omega), List.take_of_length_le (by omega)]
      rw [e]
      exact h1 _ _ (ih _ (by rw [List.length_take]; omega))
  exact this l.length l rfl
theorem sub_snoc {S T : List Int} {z : Int} (h : S.Sublist (T ++ [z])) : S.Sublist T ∨ ∃ S', S = S' ++ [z] ∧ S'.Sublist T := by
  obtain ⟨a, b, e, ha, hb⟩ := List.sublist_append_iff.1 h
  rcases b with _ | ⟨y, b⟩
  · left; rw [e, List.append_nil]; exact ha
  · right
    have hl := hb.length_le
    have hb0 : b = [] := List.eq_nil_of_length_eq_zero (by simp only [List.length_cons, List.length_nil] at hl; omega)
    subst hb0
    have : y = z := by have := hb.subset (List.mem_cons_self); simpa using this
    subst this
    exact ⟨a, e, ha⟩
theorem feas_sub {xs : List I2} : ∀ T : List Int, ∀ S, S.Sublist T → Feas xs T → Feas xs S := fun T => snoc_ind (P := fun T => ∀ S, S.Sublist T → Feas xs T → Feas xs S) (fun S h _ => by rw [List.sublist_nil.1 h]; exact feas_nil xs) (fun T z ih S h hf => by
  obtain ⟨f1, f2⟩ := feas_snoc.1 hf
  rcases sub_snoc h with h1 | ⟨S', rfl, h1⟩
  · exact ih S h1 f1
  · refine feas_snoc.2 ⟨ih S' h1 f1, ?_⟩
    have := sub_sub_sm (lngN xs) h1
    omega) T
theorem mem_erase {l : List Int} {p : Nat} (hp : p < l.length) {x : Int} (hx : x ∈ l) (hne : x ≠ l.getD p 0) : x ∈ l.eraseIdx p := by
  rw [erase_is]
  have e : l = l.take p ++ l.getD p 0 :: l.drop (p + 1) := by rw [getD_at hp, ← List.drop_eq_getElem_cons hp, List.take_append_drop]
  rw [e] at hx
  rcases List.mem_append.1 hx with h | h
  · exact List.mem_append.2 (.inl h)
  · rcases List.mem_cons.1 h with h | h
    · exact absurd h hne
    · exact List.mem_append.2 (.inr h)
theorem erase_sm (f : Int → Nat) {l : List Int} {p : Nat} (hp : p < l.length) : sm f (l.eraseIdx p) + f (l.getD p 0) = sm f l := by
  have e : l = l.take p ++ l.getD p 0 :: l.drop (p + 1) := by rw [getD_at hp, ← List.drop_eq_getElem_cons hp, List.take_append_drop]
  rw [erase_is]
  conv => rhs; rw [e]
  rw [sm_app, sm_app, sm_cons]; omega
/-- Moore and Hodgson: what is taken is in time, and as short as any that are as many. -/
theorem moore {xs : List I2} (hg : okP xs = true) : ∀ k, k ≤ xs.length → Feas xs (tak xs k) ∧ ∀ S, S.Sublist ((byD xs).take k) → Feas xs S → ∃ U : List Int, U.Nodup ∧ (∀ x, x ∈ U → x ∈ tak xs k) ∧ U.length = S.length ∧ sm (lngN xs) U ≤ sm (lngN xs) S
  | 0, _ => by
    rw [tak_zero]
    refine ⟨feas_nil xs, fun S hS _ => ?_⟩
    rw [List.take_zero] at hS
    rw [List.sublist_nil.1 hS]
    exact ⟨[], List.nodup_nil, fun x hx => hx, rfl, Nat.le_refl _⟩
  | k + 1, hk => by
    obtain ⟨hF, hU⟩ := moore hg k (by omega)
    have hlk : k < (byD xs).length := by rw [byD_len hg]; omega
    have hnd := tak_more hlk
    have hsub := tak_sub xs (Nat.le_of_lt hlk)
    have hsuc := tak_succ hlk
    have hdue : ∀ x, x ∈ (byD xs).take k → dueN xs x ≤ dueN xs ((byD xs).getD k 0) := fun x hx => pair_le (byD_le xs) hlk x (by rw [M4.take_snoc _ _ hlk]; exact List.mem_append.2 (.inl hx))
    rw [M4.take_snoc _ _ hlk]
    generalize (byD xs).getD k 0 = z at *
    generalize (byD xs).take k = D at *
    generalize tak xs k = T at *
    have hT : T.Nodup := (List.nodup_append.1 hnd).1
    have hz : z ∉ T := fun h => (List.nodup_append.1 hnd).2.2 z h z (by simp) rfl
    have more : ∀ S, S.Sublist (D ++ [z]) → Feas xs S → ∃ U : List Int, U.Nodup ∧ (∀ x, x ∈ U → x ∈ T ++ [z]) ∧ U.length = S.length ∧ sm (lngN xs) U ≤ sm (lngN xs) S := fun S hS hf => by
      rcases sub_snoc hS with h1 | ⟨S', rfl, h1⟩
      · obtain ⟨U, a, b, c, d⟩ := hU S h1 hf
        exact ⟨U, a, fun x hx => List.mem_append.2 (.inl (b x hx)), c, d⟩
      · obtain ⟨U, a, b, c, d⟩ := hU S' h1 (feas_snoc.1 hf).1
        refine ⟨U ++ [z], ?_, fun x hx => ?_, by simp [c], by rw [sm_app, sm_app]; omega⟩
        · rw [List.nodup_append]
          refine ⟨a, by simp, fun x hx y hy e => ?_⟩
          rw [List.mem_singleton.1 hy] at e
          exact hz (e ▸ b x hx)
        · rcases List.mem_append.1 hx with h | h
          · exact List.mem_append.2 (.inl (b x h))
          · exact List.mem_append.2 (.inr h)
    by_cases hc : sm (lngN xs) T + lngN xs z ≤ dueN xs z
    · have e : tak xs (k + 1) = T ++ [z] := by
        rw [hsuc]
        refine mst_in ?_
        rw [sm_int, sm_app, sm_cons, sm_nil, duI]; omega
      rw [e]
      exact ⟨feas_snoc.2 ⟨hF, hc⟩, more⟩
    · obtain ⟨p, hp⟩ : ∃ p, lmx (lngN xs) (T ++ [z]) (T ++ [z]).length = p := ⟨_, rfl⟩
      obtain ⟨l1, l2, _⟩ := lmx_is (lngN xs) (T ++ [z]) (T ++ [z]).length (by simp)
      rw [hp] at l1 l2
      have e : tak xs (k + 1) = (T ++ [z]).eraseIdx p := by
        rw [hsuc, mst_out, hp]
        rw [sm_int, sm_app, sm_cons, sm_nil, duI]; omega
      have lng_le : ∀ y, y ∈ T ++ [z] → lngN xs y ≤ lngN xs ((T ++ [z]).getD p 0) := fun y hy => by
        obtain ⟨i, hi, rfl⟩ := List.mem_iff_getElem.1 hy
        have := l2 i hi
        rwa [getD_at hi] at this
      have hml : (T ++ [z]).getD p 0 ∈ T ++ [z] := getD_mem l1
      rw [e]
      refine ⟨?_, fun S hS hf => ?_⟩
      · by_cases hpl : p = T.length
        · have e2 : (T ++ [z]).eraseIdx p = T := by rw [erase_is, hpl, List.take_left, List.drop_of_length_le (by simp), List.append_nil]
          rw [e2]; exact hF
        · have hpT : p < T.length := by simp at l1; omega
          have e2 : (T ++ [z]).eraseIdx p = T.eraseIdx p ++ [z] := List.eraseIdx_append_of_lt_length hpT _
          have e3 : (T ++ [z]).getD p 0 = T.getD p 0 := by simp only [List.getD_eq_getElem?_getD]; rw [List.getElem?_append_left hpT]
          rw [e2]
          refine feas_snoc.2 ⟨feas_sub T _ (List.eraseIdx_sublist _ _) hF, ?_⟩
          have h1 := erase_sm (lngN xs) hpT
          have h2 := lng_le z (by simp)
          rw [e3] at h2
          have hl : T.length - 1 < T.length := by omega
          have h3 := hF (T.length - 1) hl
          rw [show T.length - 1 + 1 = T.length by omega, List.take_length] at h3
          have h4 := hdue _ (hsub.subset (getD_mem hl))
          omega
      · obtain ⟨U, a, b, c, d⟩ := more S hS hf
        have hlen : S.length ≤ T.length := by
          rcases sub_snoc hS with h1 | ⟨S', rfl, h1⟩
          · obtain ⟨U', a', b', c', _⟩ := hU S h1 hf
            rw [← c']; exact sub_len a' b'
          · obtain ⟨U', a', b', c', d'⟩ := hU S' h1 (feas_snoc.1 hf).1
            have h2 := sub_len a' b'
            have h3 := (feas_snoc.1 hf).2
            by_cases h4 : U'.length = T.length
            · have h5 := sub_sm (lngN xs) hT (sub_full a' b' (by omega))
              omega
            · simp; omega
        by_cases hm : (T ++ [z]).getD p 0 ∈ U
        · obtain ⟨y, hy, hyU⟩ : ∃ y, y ∈ T ++ [z] ∧ y ∉ U := by
            apply Classical.byContradiction
            intro hno
            have h2 : ∀ x, x ∈ T ++ [z] → x ∈ U := fun x hx => by
              apply Classical.byContradiction
              intro h3
              exact hno ⟨x, hx, h3⟩
            have := sub_len hnd h2
            simp at this; omega
          have hne : y ≠ (T ++ [z]).getD p 0 := fun h3 => hyU (h3 ▸ hm)
          refine ⟨y :: U.erase ((T ++ [z]).getD p 0), ?_, fun x hx => ?_, ?_, ?_⟩
          · rw [List.nodup_cons]
            exact ⟨fun h => hyU (List.mem_of_mem_erase h), a.erase _⟩
          · rcases List.mem_cons.1 hx with h | h
            · rw [h]; exact mem_erase l1 hy hne
            · have := (a.mem_erase_iff).1 h
              exact mem_erase l1 (b x this.2) this.1
          · rw [List.length_cons, List.length_erase_of_mem hm, ← c]
            have := List.length_pos_of_mem hm
            omega
          · have h1 := sm_perm (f := lngN xs) (List.perm_cons_erase hm)
            rw [sm_cons] at h1 ⊢
            have := lng_le y hy
            omega
        · exact ⟨U, a, fun x hx => mem_erase l1 (b x hx) (fun h => hm (h ▸ hx)), c, d⟩
/-- The jobs that are in time among the first k of an order. -/
def onK (xs : List I2) (os : List Int) : Nat → List Int
  | 0 => []
  | k + 1 => if 0 < ltK xs os k then onK xs os k else onK xs os k ++ [os.getD k 0]
theorem onK_len (xs : List I2) (os : List Int) : ∀ k, mnK xs os k + (onK xs os k).length = k
  | 0 => rfl
  | k + 1 => by
    have := onK_len xs os k
    rw [mnK, onK]
    split
    · omega
    · simp; omega
theorem onK_mem {xs : List I2} {os : List Int} {z : Int} : ∀ k, z ∈ onK xs os k → ∃ i, i < k ∧ z = os.getD i 0 ∧ ltK xs os i ≤ 0
  | 0, h => by simp [onK] at h
  | k + 1, h => by
    rw [onK] at h
    split at h
    · obtain ⟨i, a, b⟩ := onK_mem k h; exact ⟨i, by omega, b⟩
    · rename_i hl
      rcases List.mem_append.1 h with h | h
      · obtain ⟨i, a, b⟩ := onK_mem k h; exact ⟨i, by omega, b⟩
      · exact ⟨k, by omega, List.mem_singleton.1 h, by omega⟩
theorem onK_sub (xs : List I2) (os : List Int) : ∀ k, k ≤ os.length → (onK xs os k).Sublist (os.take k)
  | 0, _ => by simp [onK]
  | k + 1, h => by
    rw [onK, M4.take_snoc _ _ (by omega)]
    have ih := onK_sub xs os k (by omega)
    split
    · exact ih.trans (List.sublist_append_left _ _)
    · exact List.Sublist.append ih (List.Sublist.refl _)
/-- No order has fewer late ones than are left out. -/
theorem late_ge {xs : List I2} {os : List Int} (h : Od xs os) : xs.length ≤ mnK xs os os.length + (tak xs xs.length).length := by
  have hE := onK_len xs os os.length
  have hEs := onK_sub xs os os.length (Nat.le_refl _)
  rw [List.take_length] at hEs
  have hEn := h.nd.sublist hEs
  obtain ⟨S, hS⟩ : ∃ S, (byD xs).filter (fun z => decide (z ∈ onK xs os os.length)) = S := ⟨_, rfl⟩
  have hSs : S.Sublist (byD xs) := by rw [← hS]; exact List.filter_sublist
  have hSm : ∀ z, z ∈ S ↔ z ∈ onK xs os os.length := fun z => by
    rw [← hS, List.mem_filter, decide_eq_true_eq]
    exact ⟨fun k => k.2, fun k => ⟨(byD_mem h.ok z).2 (h.rng z (hEs.subset k)), k⟩⟩
  have hSn := (byD_nodup xs).sublist hSs
  have hSl : S.length = (onK xs os os.length).length := ((List.perm_ext_iff_of_nodup hSn hEn).2 hSm).length_eq
  have hSp : S.Pairwise (fun a b => dueN xs a ≤ dueN xs b) := (byD_le xs).sublist hSs
  have hF : Feas xs S := fun i hi => by
    have hmem : S.getD i 0 ∈ S.take (i + 1) := by rw [M4.take_snoc _ _ hi]; simp
    obtain ⟨j, hj, a, b⟩ := last_of (os := os) hmem os.length (Nat.le_refl _) (fun x hx => by
      rw [List.take_length]
      exact hEs.subset ((hSm x).1 (List.mem_of_mem_take hx)))
    have h1 := sub_sm (lngN xs) (hSn.sublist (List.take_sublist _ _)) b
    have h2 := pair_le hSp hi _ a
    obtain ⟨j2, hj2, e, hl⟩ := onK_mem os.length ((hSm _).1 (List.mem_of_mem_take a))
    have e2 : j2 = j := by
      rw [getD_at hj, getD_at hj2] at e
      rcases Nat.lt_trichotomy j2 j with q | q | q
      · exact absurd e.symm (List.pairwise_iff_getElem.1 (List.nodup_iff_pairwise_ne.1 h.nd) j2 j hj2 hj q)
      · exact q
      · exact absurd e (List.pairwise_iff_getElem.1 (List.nodup_iff_pairwise_ne.1 h.nd) j j2 hj hj2 q)
    rw [e2, h.lt_ hj] at hl
    omega
  obtain ⟨U, a, b, c, _⟩ := (moore h.ok xs.length (Nat.le_refl _)).2 S (by rw [List.take_of_length_le (by rw [byD_len h.ok]; exact Nat.le_refl _)]; exact hSs) hF
  have := sub_len a b
  have := h.len
  omega
theorem filter_sub {T D : List Int} (h : T.Sublist D) (hn : D.Nodup) : D.filter (fun z => decide (z ∈ T)) = T := by
  induction h with
  | slnil => rfl
  | cons x hs ih =>
    rw [List.nodup_cons] at hn
    rw [List.filter_cons, if_neg (by simp; exact fun h => hn.1 (hs.subset h))]
    exact ih hn.2
  | cons_cons x hs ih =>
    rename_i l1 l2
    rw [List.nodup_cons] at hn
    rw [List.filter_cons, if_pos (by simp)]
    congr 1
    rw [← ih hn.2]
    apply List.filter_congr
    intro z hz
    rw [ih hn.2]
    have : z ≠ x := fun e => hn.1 (e ▸ hz)
    simp [this]
theorem mn_first {xs : List I2} {os : List Int} {t : Nat} (h : ∀ i, i < t → ltK xs os i ≤ 0) : ∀ d, mnK xs os (t + d) ≤ d
  | 0 => by
    have : ∀ k, k ≤ t → mnK xs os k = 0 := fun k => by
      induction k with
      | zero => intro _; rfl
      | succ k ih => intro hk; rw [mnK, if_neg (by have := h k (by omega); omega)]; exact ih (by omega)
    rw [Nat.add_zero, this t (Nat.le_refl _)]; exact Nat.le_refl _
  | d + 1 => by
    have := mn_first h d
    rw [← Nat.add_assoc, mnK]; split <;> omega
theorem ord_od {xs : List I2} {os : List Int} (h : ordOk xs os = true) : Od xs (ordL xs os) := by
  have hg := (ordOk_is h).1
  refine ⟨hg, ordL_len1 h, fun z hz => ?_, ?_⟩
  · rw [ordL_yes h, srt_mem] at hz
    exact (byD_mem hg z).1 hz.1
  · rw [ordL_yes h]; exact srt_nodup _ (byD_nodup xs) _
theorem few_ok {xs : List I2} (h : okP xs = true) : ordOk xs (fewL xs) = true := by
  unfold ordOk
  rw [h, fewL_yes h, rises_sort, Bool.true_and, onceB, decide_eq_true_eq]
  have hl : xs.length ≤ (byD xs).length := by rw [byD_len h]; exact Nat.le_refl _
  exact ⟨tak_rng h hl, tak_nodup xs hl⟩
/-- In the order for those that are taken just the others are late. -/
theorem few_late {xs : List I2} (h : okP xs = true) : mnK xs (ordL xs (fewL xs)) (ordL xs (fewL xs)).length + (fewL xs).length = xs.length := by
  have hok := few_ok h
  have O := ord_od hok
  have h1 := late_ge O
  have hl : xs.length ≤ (byD xs).length := by rw [byD_len h]; exact Nat.le_refl _
  have hfl : (fewL xs).length = (tak xs xs.length).length := by rw [fewL_yes h, List.length_mergeSort]
  have hsub : (tak xs xs.length).Sublist (byD xs) := (tak_sub xs hl).trans (List.take_sublist _ _)
  have hord : ordL xs (fewL xs) = tak xs xs.length ++ (byD xs).filter (fun z => !EG.hasB (fewL xs) z) := by
    have hfil : (byD xs).filter (EG.hasB (fewL xs)) = tak xs xs.length := by
      refine Eq.trans (List.filter_congr (fun z _ => ?_)) (filter_sub hsub (byD_nodup xs))
      rw [EG.hasB, fewL_yes h]
      have : z ∈ (tak xs xs.length).mergeSort (fun x y => decide (x ≤ y)) ↔ z ∈ tak xs xs.length := (List.mergeSort_perm _ _).mem_iff
      simp only [this]
    rw [ordL_yes hok, srt_two (chN (fewL xs)) (EG.hasB (fewL xs)) (byD xs) (fun z => rfl), hfil]
  have hF := (moore h xs.length (Nat.le_refl _)).1
  have htl := tak_len xs hl
  have hon : ∀ i, i < (tak xs xs.length).length → ltK xs (ordL xs (fewL xs)) i ≤ 0 := fun i hi => by
    have hi2 : i < (ordL xs (fewL xs)).length := by rw [O.len]; omega
    rw [O.lt_ hi2, hord]
    have e1 : (tak xs xs.length ++ (byD xs).filter (fun z => !EG.hasB (fewL xs) z)).take (i + 1) = (tak xs xs.length).take (i + 1) := List.take_append_of_le_length (by omega)
    have e2 : (tak xs xs.length ++ (byD xs).filter (fun z => !EG.hasB (fewL xs) z)).getD i 0 = (tak xs xs.length).getD i 0 := by simp only [List.getD_eq_getElem?_getD]; rw [List.getElem?_append_left hi]
    rw [e1, e2]
    have := hF i hi
    omega
  have h2 := mn_first hon (xs.length - (tak xs xs.length).length)
  rw [show (tak xs xs.length).length + (xs.length - (tak xs xs.length).length) = xs.length by omega] at h2
  have hol := O.len
  generalize ordL xs (fewL xs) = o at *
  rw [hol] at h1 ⊢
  omega
end JD
end Go.Proofs.Ytgenmljnhlcpcaa

/- What Moore's law asks: plain facts. -/
namespace Go.Proofs.Ytgenmljnhlcpcaa
namespace JD
open Go.RowKit
/-- Whether a byte chooses. -/
def evB (ys : List Int) (k : Nat) : Bool := decide (k < ys.length ∧ ys.getD k 0 % 2 = 0)
def chsK (ys : List Int) (n : Nat) : List Int := (nums n).filter (fun z => evB ys z.toNat)
theorem chs_succ (ys : List Int) (n : Nat) : chsK ys (n + 1) = chsK ys n ++ (if evB ys n = true then [(n : Int)] else []) := by
  unfold chsK
  rw [nums_succ, List.filter_append]
  cases h : evB ys n <;> simp [h]
theorem chs_len (ys : List Int) (n : Nat) : (chsK ys n).length ≤ n := by
  have := List.length_filter_le (fun z : Int => evB ys z.toNat) (nums n)
  rw [nums_len] at this; exact this
theorem chs_rise (ys : List Int) (n : Nat) : EG.rises n (chsK ys n) = true := by
  rw [rises_iff]
  refine ⟨fun z hz => (nums_mem n z).1 (List.mem_filter.1 hz).1, (nums_up n).filter _⟩
theorem chs_ok {xs : List I2} (h : okP xs = true) (ys : List Int) : ordOk xs (chsK ys xs.length) = true := by
  unfold ordOk; rw [h, chs_rise]; rfl
theorem mnA_yes {xs : List I2} {os : List Int} (h : Od xs os) : mnA xs os = (mnK xs os os.length : Int) := by simp [mnA, h.is]
/-- Moore's law in numbers. -/
structure Mo (xs : List I2) (F O : List Int) : Prop where
  od : Od xs O
  is : mnA xs O = (xs.length : Int) - (F.length : Int)
  le : ∀ X, Od xs X → mnA xs O ≤ mnA xs X
theorem mo_of {xs : List I2} (h : okP xs = true) : Mo xs (fewL xs) (ordL xs (fewL xs)) := by
  have O := ord_od (few_ok h)
  have e := few_late h
  have hfl : (fewL xs).length = (tak xs xs.length).length := by rw [fewL_yes h, List.length_mergeSort]
  have e2 := mnA_yes O
  generalize ordL xs (fewL xs) = o at *
  generalize fewL xs = f at *
  refine ⟨O, by rw [e2]; omega, fun X hX => ?_⟩
  have := late_ge hX
  rw [e2, mnA_yes hX]; omega
end JD
end Go.Proofs.Ytgenmljnhlcpcaa
