import Derived.Test.YtdglialjcibbbaaMKr
import Derived.Test.YtdglialjcibbbaaCPathK
/- Of a cut the first cheapest edge is taken: plain facts for FnCuts. -/
namespace Go.Proofs.Ytdglialjcibbbaa
open Go.RowKit
namespace EG
theorem kr_more (xs : List I3) (ks : List Nat) : ∀ js : List Nat, ∀ k, k ∈ krT xs ks → k ∈ krT xs (ks ++ js) := fun js => rev_ind (P := fun js => ∀ k, k ∈ krT xs ks → k ∈ krT xs (ks ++ js)) (fun k h => by rw [List.append_nil]; exact h) (fun js j ih k h => by
  rw [← List.append_assoc, kr_snoc]
  unfold krS
  split
  · exact ih k h
  · exact List.mem_append.2 (.inl (ih k h))) js
/-- An edge across two sides, all that are ahead of it not across: it is taken. -/
theorem kr_cut {xs : List I3} (hok : okP xs = true) (sd : Nat → Nat) {k : Nat} (hk : k < xs.length) (hx : sd (en xs k).1 ≠ sd (en xs k).2) (hmin : ∀ j, j < xs.length → MSym.Lex (cst xs) j k → sd (en xs j).1 = sd (en xs j).2) : k ∈ krT xs (krO xs) := by
  have hm : k ∈ krO xs := (MSym.byCost_mem _ _ _ _).2 ⟨hk, cst_lt hok k⟩
  obtain ⟨A, B, e⟩ := List.append_of_mem hm
  have hp := MSym.byCost_up (cst xs) xs.length 1001
  have hA : ∀ j, j ∈ A → j < xs.length ∧ MSym.Lex (cst xs) j k := fun j hj => by
    have h1 : j ∈ krO xs := by rw [e]; exact List.mem_append.2 (.inl hj)
    refine ⟨((MSym.byCost_mem _ _ _ _).1 h1).1, ?_⟩
    have h2 : (A ++ k :: B).Pairwise (MSym.Lex (cst xs)) := by rw [← e]; exact hp
    exact (List.pairwise_append.1 h2).2.2 j hj k List.mem_cons_self
  have ht : k ∈ krT xs (A ++ [k]) := by
    rw [kr_snoc]
    unfold krS
    split
    · rename_i hl
      exact absurd ((pt_iff _ _ _ _).1 hl sd (fun j hj => hmin j (hA j (kr_sub xs A j hj)).1 (hA j (kr_sub xs A j hj)).2)) hx
    · simp
  have e2 : krO xs = A ++ [k] ++ B := by rw [e]; simp
  rw [e2]
  exact kr_more xs (A ++ [k]) B k ht
end EG
end Go.Proofs.Ytdglialjcibbbaa

/- Both trees are one: plain facts for FnTrees. -/
namespace Go.Proofs.Ytdglialjcibbbaa
open Go.RowKit
namespace EG
theorem mrg_ex {p : Nat → Nat} {a b c d : Nat} (hne : p a ≠ p b) (h : mrg p c d a = mrg p c d b) : mrg p a b c = mrg p a b d := by
  unfold mrg at h ⊢
  split at h <;> split at h <;> split <;> split <;> omega
/-- No edge of T is linked by the others. -/
def Fr (en : Nat → Nat × Nat) (T : List Nat) : Prop := ∀ k, k ∈ T → ¬ Cn en (fun j => j ∈ T ∧ j ≠ k) (en k).1 (en k).2
theorem fr_snoc {en : Nat → Nat × Nat} {T : List Nat} (h : Fr en T) {j : Nat} (hj : ¬ Cn en (· ∈ T) (en j).1 (en j).2) : Fr en (T ++ [j]) := by
  have hjt : j ∉ T := fun hm => hj (Cn.edge hm)
  intro k hk hc
  rcases List.mem_append.1 hk with hk | hk
  · have hkj : k ≠ j := fun e => hjt (e ▸ hk)
    let S := T.filter (fun i => decide (i ≠ k))
    have hS : ∀ i, i ∈ S ↔ i ∈ T ∧ i ≠ k := fun i => by simp [S]
    have h1 : Cn en (· ∈ S ++ [j]) (en k).1 (en k).2 := hc.mono (fun i hi => by
      rcases List.mem_append.1 hi.1 with h' | h'
      · exact List.mem_append_left _ ((hS i).2 ⟨h', hi.2⟩)
      · exact List.mem_append_right _ h')
    have h2 := (pt_iff en (S ++ [j]) _ _).2 h1
    rw [pt_app] at h2
    have h3 : pt en S (en k).1 ≠ pt en S (en k).2 := fun e => h k hk (((pt_iff en S _ _).1 e).mono (fun i hi => (hS i).1 hi))
    have h4 := mrg_ex h3 h2
    rw [← pt_app] at h4
    refine hj (((pt_iff en (S ++ [k]) _ _).1 h4).mono (fun i hi => ?_))
    rcases List.mem_append.1 hi with h' | h'
    · exact ((hS i).1 h').1
    · rw [List.mem_singleton.1 h']; exact hk
  · rw [List.mem_singleton.1 hk] at hc
    refine hj (hc.mono (fun i hi => ?_))
    rcases List.mem_append.1 hi.1 with h' | h'
    · exact h'
    · exact absurd (List.mem_singleton.1 h') hi.2
/-- What Kruskal takes is a forest. -/
theorem kr_forest (xs : List I3) (ks : List Nat) : Fr (en xs) (krT xs ks) := rev_ind (P := fun ks => Fr (en xs) (krT xs ks)) (fun k hk => by simp [krT] at hk) (fun ks j ih => by
  rw [kr_snoc]; unfold krS; split
  · exact ih
  · rename_i h
    exact fr_snoc ih (fun hc => h ((pt_iff _ _ _ _).2 hc))) ks
/-- And it links what it goes over. -/
theorem kr_all (xs : List I3) (ks : List Nat) : ∀ k, k ∈ ks → Cn (en xs) (· ∈ krT xs ks) (en xs k).1 (en xs k).2 := rev_ind (P := fun ks => ∀ k, k ∈ ks → Cn (en xs) (· ∈ krT xs ks) (en xs k).1 (en xs k).2) (fun k hk => by cases hk) (fun ks j ih k hk => by
  rcases List.mem_append.1 hk with hk | hk
  · exact (ih k hk).mono (fun i hi => kr_more xs ks [j] i hi)
  · rw [List.mem_singleton.1 hk, kr_snoc]
    unfold krS; split
    · rename_i h; exact (pt_iff _ _ _ _).1 h
    · exact Cn.edge (S := fun i => i ∈ krT xs ks ++ [j]) (List.mem_append_right _ (by simp))) ks
/-- The edge that is grown by is the first of all that lead out. -/
theorem best_min {xs : List I3} (hok : okP xs = true) {M : Nat → Bool} : ∀ n k, bestUp xs M n = some k → ∀ j, j < n → crs xs M j = true → ¬ MSym.Lex (cst xs) j k
  | 0, k, h, j, hj, _ => by omega
  | n + 1, k, h, j, hj, hc => by
    have ci : ∀ i, cost xs i = (cst xs i : Int) := fun i => cst_is hok i
    rw [bestUp] at h
    split at h
    · rename_i hx
      simp at h; subst h
      by_cases e : j = n
      · subst e; exact MSym.Lex.irr _ _
      · cases hb : bestUp xs M n with
        | none => have := best_none _ hb j (by omega); rw [this] at hc; cases hc
        | some b =>
          have h1 := best_min hok n b hb j (by omega) hc
          have h2 := hx.2
          rw [hb] at h2
          have h3 : cost xs n < cost xs b := of_decide_eq_true h2
          rw [ci, ci] at h3
          simp only [MSym.Lex] at h1 ⊢
          omega
    · rename_i hx
      by_cases e : j = n
      · subst e
        obtain ⟨hk, -⟩ := best_is _ _ h
        have h2 : ¬ betr xs j (bestUp xs M j) = true := fun hb => hx ⟨hc, hb⟩
        rw [h] at h2
        have h3 : ¬ cost xs j < cost xs k := fun hl => h2 (decide_eq_true hl)
        rw [ci, ci] at h3
        simp only [MSym.Lex]
        omega
      · exact best_min hok n k h j (by omega) hc
theorem best_taken {xs : List I3} (hok : okP xs = true) {M : Nat → Bool} {k : Nat} (h : bestUp xs M xs.length = some k) : k ∈ krT xs (krO xs) := by
  obtain ⟨hk, hc⟩ := best_is _ _ h
  let sd : Nat → Nat := fun n => if M n = true then 1 else 0
  have hsd : ∀ a b, sd a = sd b ↔ M a = M b := fun a b => by
    show (if M a = true then 1 else 0) = (if M b = true then 1 else 0) ↔ _
    cases M a <;> cases M b <;> simp
  refine kr_cut hok sd hk (fun e => ?_) (fun j hj hl => ?_)
  · have := (hsd _ _).1 e
    rw [crs, this] at hc; simp at hc
  · refine (hsd _ _).2 (Classical.byContradiction fun hne => ?_)
    exact best_min hok _ k h j hj (by unfold crs; exact bne_iff_ne.2 hne) hl
theorem run_taken {xs : List I3} (hok : okP xs = true) : ∀ (f : Nat) (M : Nat → Bool) (T : List Nat), (∀ k, k ∈ T → k ∈ krT xs (krO xs)) → ∀ k, k ∈ (run xs f M T).2 → k ∈ krT xs (krO xs)
  | 0, M, T, h => h
  | f + 1, M, T, h => by
    cases hb : bestUp xs M xs.length with
    | none => rw [run_none hb]; exact h
    | some k =>
      rw [run_some hb]
      refine run_taken hok f _ _ (fun i hi => ?_)
      rcases List.mem_append.1 hi with h' | h'
      · exact h i h'
      · rw [List.mem_singleton.1 h']; exact best_taken hok hb
theorem outer_taken {xs : List I3} (hok : okP xs = true) : ∀ s, ∀ k, k ∈ (outer xs s).2 → k ∈ krT xs (krO xs)
  | 0 => fun k hk => by cases hk
  | s + 1 => by
    rw [outer]; split
    · exact outer_taken hok s
    · exact run_taken hok 8 _ _ (outer_taken hok s)
theorem cnt_full {M : Nat → Bool} : ∀ n, n ≤ cnt M n → ∀ i, i < n → M i = true
  | 0, _, i, hi => by omega
  | n + 1, h, i, hi => by
    have h1 := cnt_le M n
    rw [cnt] at h
    split at h
    · rename_i hm
      by_cases e : i = n
      · subst e; exact hm
      · exact cnt_full n (by omega) i (by omega)
    · omega
theorem ends_lt {xs : List I3} (hok : okP xs = true) {k : Nat} (hk : k < xs.length) : (en xs k).1 < 8 ∧ (en xs k).2 < 8 := by
  have g := okP_good hok hk
  have h1 := g.f0
  have h2 := g.f1
  have h3 := g.t0
  have h4 := g.t1
  show (MI3.at_ xs k).a0.toNat < 8 ∧ (MI3.at_ xs k).a1.toNat < 8
  omega
theorem run_end {xs : List I3} (hok : okP xs = true) : ∀ (f : Nat) (M : Nat → Bool) (T : List Nat), 8 ≤ f + cnt M 8 → bestUp xs (run xs f M T).1 xs.length = none
  | 0, M, T, h => by
    cases hb : bestUp xs M xs.length with
    | none => exact hb
    | some k =>
      obtain ⟨hk, hc⟩ := best_is _ _ hb
      obtain ⟨e1, e2⟩ := ends_lt hok hk
      have hf := cnt_full (M := M) 8 (by omega)
      rw [crs, hf _ e1, hf _ e2] at hc
      cases hc
  | f + 1, M, T, h => by
    cases hb : bestUp xs M xs.length with
    | none => rw [run_none hb]; exact hb
    | some k =>
      rw [run_some hb]
      obtain ⟨hk, hc⟩ := best_is _ _ hb
      obtain ⟨e1, e2⟩ := ends_lt hok hk
      refine run_end hok f _ _ ?_
      have hm : ∀ i, M i = true → add xs M k i = true := fun i hi => by simp [add, hi]
      have : cnt M 8 < cnt (add xs M k) 8 := by
        cases h1 : M (en xs k).1 with
        | false => exact cnt_lt hm h1 (by simp [add]) 8 e1
        | true =>
          cases h2 : M (en xs k).2 with
          | false => exact cnt_lt hm h2 (by simp [add]) 8 e2
          | true => rw [crs, h1, h2] at hc; cases hc
      omega
theorem run_more (xs : List I3) : ∀ (f : Nat) (M : Nat → Bool) (T : List Nat), (∀ k, k ∈ T → k ∈ (run xs f M T).2) ∧ ∀ n, M n = true → (run xs f M T).1 n = true
  | 0, M, T => ⟨fun _ h => h, fun _ h => h⟩
  | f + 1, M, T => by
    cases hb : bestUp xs M xs.length with
    | none => rw [run_none hb]; exact ⟨fun _ h => h, fun _ h => h⟩
    | some k =>
      rw [run_some hb]
      have ih := run_more xs f (add xs M k) (T ++ [k])
      exact ⟨fun i hi => ih.1 i (List.mem_append_left _ hi), fun n hn => ih.2 n (by simp [add, hn])⟩
theorem run_link {xs : List I3} {s : Nat} : ∀ (f : Nat) (M : Nat → Bool) (T : List Nat), (∀ n, M n = true → Cn (en xs) (· ∈ T) s n) → ∀ n, (run xs f M T).1 n = true → Cn (en xs) (· ∈ (run xs f M T).2) s n
  | 0, M, T, h => h
  | f + 1, M, T, h => by
    cases hb : bestUp xs M xs.length with
    | none => rw [run_none hb]; exact h
    | some k =>
      rw [run_some hb]
      refine run_link f _ _ (fun n hn => ?_)
      obtain ⟨-, hc⟩ := best_is _ _ hb
      have up : ∀ {a b}, Cn (en xs) (· ∈ T) a b → Cn (en xs) (· ∈ T ++ [k]) a b := fun h => h.mono (fun i hi => List.mem_append_left _ hi)
      have ed : Cn (en xs) (· ∈ T ++ [k]) (en xs k).1 (en xs k).2 := Cn.edge (S := fun i => i ∈ T ++ [k]) (by simp)
      have both : Cn (en xs) (· ∈ T ++ [k]) s (en xs k).1 ∧ Cn (en xs) (· ∈ T ++ [k]) s (en xs k).2 := by
        cases h1 : M (en xs k).1 with
        | true => exact ⟨up (h _ h1), (up (h _ h1)).trans ed⟩
        | false =>
          cases h2 : M (en xs k).2 with
          | true => exact ⟨(up (h _ h2)).trans ed.symm, up (h _ h2)⟩
          | false => rw [crs, h1, h2] at hc; cases hc
      simp only [add, Bool.or_eq_true, decide_eq_true_eq] at hn
      rcases hn with (e | e) | e
      · rw [e]; exact both.1
      · rw [e]; exact both.2
      · exact up (h n e)
theorem cnt_single {s : Nat} (hs : s < 8) : 1 ≤ cnt (single s) 8 := by
  have := cnt_lt (M := fun _ => false) (M' := single s) (fun _ h => by cases h) (v := s) rfl (by simp [single]) 8 hs
  omega
theorem outer_link {xs : List I3} (hok : okP xs = true) : ∀ s, s ≤ 8 → ∀ k, k < xs.length → (outer xs s).1 (en xs k).1 = true → Cn (en xs) (· ∈ (outer xs s).2) (en xs k).1 (en xs k).2
  | 0, _, k, _, h => by cases h
  | s + 1, hs, k, hk, h => by
    rw [outer] at h ⊢
    split
    · rename_i hd
      rw [if_pos hd] at h
      exact outer_link hok s (by omega) k hk h
    · rename_i hd
      rw [if_neg hd] at h
      show Cn (en xs) (· ∈ (run xs 8 (single s) (outer xs s).2).2) _ _
      have h' : ((outer xs s).1 (en xs k).1 || (run xs 8 (single s) (outer xs s).2).1 (en xs k).1) = true := h
      rw [Bool.or_eq_true] at h'
      have hlink := run_link (xs := xs) (s := s) 8 (single s) (outer xs s).2 (fun n hn => by
        have : n = s := of_decide_eq_true hn
        rw [this]; exact Cn.rfl' _)
      rcases h' with h' | h'
      · exact (outer_link hok s (by omega) k hk h').mono (fun i hi => (run_more xs 8 (single s) (outer xs s).2).1 i hi)
      · have hend := run_end hok 8 (single s) (outer xs s).2 (by have := cnt_single (show s < 8 by omega); omega)
        have hc := best_none _ hend k hk
        have h2 : (run xs 8 (single s) (outer xs s).2).1 (en xs k).2 = true := by
          rw [crs, bne_eq_false_iff_eq] at hc; rw [← hc]; exact h'
        exact (hlink _ h').symm.trans (hlink _ h2)
theorem outer_all {xs : List I3} : ∀ s n, n < s → (outer xs s).1 n = true
  | 0, n, h => by omega
  | s + 1, n, h => by
    rw [outer]
    split
    · rename_i hd
      by_cases e : n = s
      · subst e; exact hd
      · exact outer_all s n (by omega)
    · show ((outer xs s).1 n || (run xs 8 (single s) (outer xs s).2).1 n) = true
      rw [Bool.or_eq_true]
      by_cases e : n = s
      · subst e; exact .inr ((run_more xs 8 (single n) (outer xs n).2).2 n (by simp [single]))
      · exact .inl (outer_all s n (by omega))
/-- Both take the same edges. -/
theorem same_edges {xs : List I3} (hok : okP xs = true) (k : Nat) : k ∈ (outer xs 8).2 ↔ k ∈ krT xs (krO xs) := by
  refine ⟨outer_taken hok 8 k, fun hk => Classical.byContradiction fun hn => ?_⟩
  have hlt : k < xs.length := (krO_kt xs).lt k hk
  refine kr_forest xs (krO xs) k hk ((outer_link hok 8 (Nat.le_refl _) k hlt (outer_all 8 _ (ends_lt hok hlt).1)).mono (fun i hi => ⟨outer_taken hok 8 i hi, fun e => hn (e ▸ hi)⟩))
theorem outer_nodup (xs : List I3) : ∀ s, s ≤ 8 → okP xs = true → OInv xs (outer xs s).1 (outer xs s).2
  | 0, _, _ => OInv.start xs
  | s + 1, hs, hok => by
    have ih := outer_nodup xs s (by omega) hok
    rw [outer]
    split
    · exact ih
    · rename_i hd
      have hd' : (outer xs s).1 s = false := by simpa using hd
      exact (run_inv 8 _ _ (ih.begin hd')).finish (run_end hok 8 _ _ (by have := cnt_single (show s < 8 by omega); omega))
end EG
end Go.Proofs.Ytdglialjcibbbaa

/- Both trees are one, and its ways: plain facts for FnTrees. -/
namespace Go.Proofs.Ytdglialjcibbbaa
open Go.RowKit
namespace EG
theorem kru_srt {xs : List I3} (h : okP xs = true) : Srt (kruL xs) (krT xs (krO xs)) := by
  unfold kruL
  rw [if_pos h]
  refine ⟨List.mergeSort_perm _ _, ?_⟩
  have := List.pairwise_mergeSort (le := fun x y : Int => decide (x ≤ y)) (by intro a b c; simp; omega) (by intro a b; simp; omega) (tks (krT xs (krO xs)))
  exact this.imp (fun h => by simpa using h)
theorem kru_mem {xs : List I3} (h : okP xs = true) (k : Nat) : (k : Int) ∈ kruL xs ↔ k ∈ krT xs (krO xs) := by
  rw [(kru_srt h).pm.mem_iff]
  constructor
  · intro hx
    obtain ⟨j, hj, e⟩ := List.mem_map.1 hx
    have : j = k := by exact Int.ofNat.inj e
    exact this ▸ hj
  · exact fun hk => List.mem_map.2 ⟨k, hk, rfl⟩
theorem srt_lt {os : List Int} {T : List Nat} (h : Srt os T) (hn : T.Nodup) : os.Pairwise (· < ·) := by
  have hd : os.Nodup := h.pm.nodup_iff.2 (by
    show (T.map fun k : Nat => (k : Int)).Nodup
    exact List.pairwise_map.2 (List.Pairwise.imp (fun {a b} h e => h (by exact Int.ofNat.inj e)) hn))
  exact (h.so.and hd).imp (fun {a b} h => by have h1 := h.1; have h2 := h.2; omega)
theorem get_lt {os : List Int} (h : os.Pairwise (· < ·)) {i j : Nat} (hij : i < j) (hj : j < os.length) : os.getD i 0 < os.getD j 0 := by
  rw [List.getD_eq_getElem?_getD, List.getD_eq_getElem?_getD, List.getElem?_eq_getElem hj, List.getElem?_eq_getElem (by omega)]
  exact (List.pairwise_iff_getElem.1 h) i j (by omega) hj hij
theorem srt_at {os : List Int} {T : List Nat} (h : Srt os T) {i : Nat} (hi : i < os.length) : ∃ k : Nat, os.getD i 0 = k ∧ k ∈ T := by
  have hm : os.getD i 0 ∈ os := by rw [List.getD_eq_getElem?_getD, List.getElem?_eq_getElem hi]; exact List.getElem_mem hi
  obtain ⟨k, hk, e⟩ := List.mem_map.1 (h.pm.mem_iff.1 hm)
  exact ⟨k, e.symm, hk⟩
theorem kru_rise {xs : List I3} (h : okP xs = true) : riseUp xs.length (kruL xs) (kruL xs).length := fun i hi => by
  have s := kru_srt h
  obtain ⟨k, hk, ht⟩ := srt_at s hi
  have hl := (krO_kt xs).lt k ht
  refine ⟨by omega, by omega, fun h0 => ?_⟩
  exact get_lt (srt_lt s (krO_kt xs).nd) (by omega) hi
theorem kru_sok {xs : List I3} (h : okP xs = true) : sok xs (kruL xs) = true := by
  unfold sok; rw [h, rises_yes (kru_rise h)]; rfl
theorem fst_of {xs : List I3} {os : List Int} : ∀ n, (∀ k, k < n → news xs os k = true) → fst xs os n = true
  | 0, _ => rfl
  | n + 1, h => by rw [fst, h n (by omega), fst_of n (fun k hk => h k (by omega))]; rfl
theorem kru_fst {xs : List I3} (h : okP xs = true) : fst xs (kruL xs) (kruL xs).length = true := fst_of _ fun i hi => by
  have s := kru_srt h
  obtain ⟨k, hk, ht⟩ := srt_at s hi
  have e1 : ofN xs ((kruL xs).getD i 0) = MI3.at_ xs k := by rw [hk]; rfl
  unfold news
  rw [e1]
  have hne : prt xs (kruL xs) i (MI3.at_ xs k).a0.toNat ≠ prt xs (kruL xs) i (MI3.at_ xs k).a1.toNat := fun e => by
    rw [prt_is xs _ i (by omega)] at e
    refine kr_forest xs (krO xs) k ht (((pt_iff (en xs) _ (en xs k).1 (en xs k).2).1 e).mono (fun j hj => ?_))
    obtain ⟨z, hz, hzj⟩ := List.mem_map.1 hj
    obtain ⟨m, hm, hmz⟩ := List.mem_take_iff_getElem.1 hz
    have hml : m < (kruL xs).length := by omega
    obtain ⟨k', hk', ht'⟩ := srt_at s hml
    have hg : (kruL xs).getD m 0 = z := by rw [List.getD_eq_getElem?_getD, List.getElem?_eq_getElem hml]; exact hmz
    have hkj : k' = j := by rw [← hzj, ← hg, hk']; simp
    have := get_lt (srt_lt s (krO_kt xs).nd) (show m < i by omega) hi
    rw [hk, hk'] at this
    exact ⟨hkj ▸ ht', by omega⟩
  rw [show (prt xs (kruL xs) i (MI3.at_ xs k).a0.toNat == prt xs (kruL xs) i (MI3.at_ xs k).a1.toNat) = false from by rw [beq_eq_false_iff_ne]; exact hne]; rfl
theorem kru_for {xs : List I3} (h : okP xs = true) : forB xs (kruL xs) = true := by
  unfold forB; rw [kru_sok h, kru_fst h]; rfl
theorem pt_ext (en : Nat → Nat × Nat) {ks js : List Nat} (h1 : ∀ k, k ∈ ks → Cn en (· ∈ js) (en k).1 (en k).2) (h2 : ∀ k, k ∈ js → Cn en (· ∈ ks) (en k).1 (en k).2) : pt en ks = pt en js := by
  funext a
  have c1 : Cn en (· ∈ ks) a (pt en js a) := fun f hf => pt_cn en js a f (fun k hk => h2 k hk f hf)
  have c2 : Cn en (· ∈ js) a (pt en ks a) := fun f hf => pt_cn en ks a f (fun k hk => h1 k hk f hf)
  have e1 := (pt_iff en ks _ _).2 c1
  have e2 := (pt_iff en js _ _).2 c2
  have := pt_le en ks (pt en js a)
  have := pt_le en js (pt en ks a)
  omega
/-- All numbers. -/
def allL (n : Nat) : List Int := (List.range n).map fun (i : Nat) => (i : Int)
theorem all_nat (n : Nat) : nat (allL n) = List.range n := by
  unfold nat allL; rw [List.map_map]; exact (List.map_congr_left (fun a _ => by simp)).trans (List.map_id _)
theorem all_rise (n : Nat) : riseUp n (allL n) (allL n).length := fun i hi => by
  have hl : (allL n).length = n := by simp [allL]
  have hg : ∀ j, j < n → (allL n).getD j 0 = j := fun j hj => by simp [allL, List.getD_eq_getElem?_getD, hj]
  rw [hl] at hi
  refine ⟨by rw [hg i hi]; omega, by rw [hg i hi]; omega, fun h0 => by rw [hg i hi, hg (i - 1) (by omega)]; omega⟩
theorem all_sok {xs : List I3} (h : okP xs = true) : sok xs (allL xs.length) = true := by
  unfold sok; rw [h, rises_yes (all_rise _)]; rfl
theorem par_kru {xs : List I3} (h : okP xs = true) : parL xs (kruL xs) = parL xs (allL xs.length) := by
  unfold parL
  rw [if_pos (kru_sok h), if_pos (all_sok h), (kru_srt h).parts, prt_is xs (allL xs.length) _ (Nat.le_refl _), List.take_length, all_nat]
  rw [pt_ext (en xs) (ks := krT xs (krO xs)) (js := List.range xs.length) (fun k hk => Cn.edge (List.mem_range.2 ((krO_kt xs).lt k hk))) (fun k hk => kr_all xs (krO xs) k ((MSym.byCost_mem _ _ _ _).2 ⟨List.mem_range.1 hk, cst_lt h k⟩))]
end EG
end Go.Proofs.Ytdglialjcibbbaa
