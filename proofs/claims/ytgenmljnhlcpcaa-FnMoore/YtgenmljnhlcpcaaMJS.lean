/- Jobs by rank, stable; the fewest late: plain facts, over whatever program. -/
import Derived.Test.YtgenmljnhlcpcaaMJD
import Derived.Test.YtgenmljnhlcpcaaMSym
import Derived.Test.YtgenmljnhlcpcaaMPS
namespace Go.Proofs.Ytgenmljnhlcpcaa
namespace JD
open Go.RowKit
/-- Rank by rank, each rank's as they stood. -/
def srt (r : Int → Nat) (zs : List Int) : Nat → List Int
  | 0 => []
  | k + 1 => srt r zs k ++ zs.filter (fun z => decide (r z = k))
theorem range_get (zs : List Int) : (List.range zs.length).map (fun k => zs.getD k 0) = zs := by
  apply List.ext_getElem?
  intro k
  by_cases hk : k < zs.length
  · simp [hk]
  · simp [hk]
theorem srt_is (r : Int → Nat) (zs : List Int) : ∀ m, (MSym.byCost (fun k => r (zs.getD k 0)) zs.length m).map (fun k => zs.getD k 0) = srt r zs m
  | 0 => rfl
  | m + 1 => by
    rw [MSym.byCost, srt, List.map_append, srt_is r zs m]
    congr 1
    have := List.filter_map (f := fun k => zs.getD k 0) (p := fun z => decide (r z = m)) (l := List.range zs.length)
    rw [range_get] at this
    rw [this]
    rfl
theorem srt_mem (r : Int → Nat) (zs : List Int) : ∀ m z, z ∈ srt r zs m ↔ z ∈ zs ∧ r z < m
  | 0, z => by simp [srt]
  | m + 1, z => by
    simp only [srt, List.mem_append, srt_mem r zs m, List.mem_filter, decide_eq_true_eq]
    constructor
    · rintro (⟨a, b⟩ | ⟨a, b⟩)
      · exact ⟨a, by omega⟩
      · exact ⟨a, by omega⟩
    · rintro ⟨a, b⟩
      by_cases h : r z = m
      · exact .inr ⟨a, h⟩
      · exact .inl ⟨a, by omega⟩
theorem srt_nodup (r : Int → Nat) {zs : List Int} (h : zs.Nodup) : ∀ m, (srt r zs m).Nodup
  | 0 => List.nodup_nil
  | m + 1 => by
    rw [srt, List.nodup_append]
    refine ⟨srt_nodup r h m, h.filter _, fun a ha b hb e => ?_⟩
    subst e
    have h1 := ((srt_mem r zs m a).1 ha).2
    have h2 := (List.mem_filter.1 hb).2
    simp only [decide_eq_true_eq] at h2
    omega
theorem srt_nil (r : Int → Nat) : ∀ m, srt r [] m = []
  | 0 => rfl
  | m + 1 => by rw [srt, srt_nil r m]; rfl
theorem filter_len (r : Int → Nat) (m : Nat) : ∀ zs : List Int, (zs.filter (fun z => decide (r z < m))).length + (zs.filter (fun z => decide (r z = m))).length = (zs.filter (fun z => decide (r z < m + 1))).length
  | [] => rfl
  | z :: zs => by
    have := filter_len r m zs
    by_cases h : r z < m
    · simp only [List.filter_cons, decide_eq_true h, decide_eq_false (show ¬ r z = m by omega), decide_eq_true (show r z < m + 1 by omega), if_true, List.length_cons]
      simp; omega
    · by_cases h2 : r z = m
      · simp only [List.filter_cons, decide_eq_false h, decide_eq_true h2, decide_eq_true (show r z < m + 1 by omega), if_true, List.length_cons]
        simp; omega
      · simp only [List.filter_cons, decide_eq_false h, decide_eq_false h2, decide_eq_false (show ¬ r z < m + 1 by omega)]
        simp; omega
theorem srt_len (r : Int → Nat) (zs : List Int) : ∀ m, (srt r zs m).length = (zs.filter (fun z => decide (r z < m))).length
  | 0 => by rw [List.filter_eq_nil_iff.2 (fun z _ => by simp)]; rfl
  | m + 1 => by rw [srt, List.length_append, srt_len r zs m, filter_len]
theorem srt_all (r : Int → Nat) {zs : List Int} {m : Nat} (h : ∀ z, z ∈ zs → r z < m) : (srt r zs m).length = zs.length := by
  rw [srt_len, List.filter_eq_self.2 (fun z hz => decide_eq_true (h z hz))]
theorem srt_snoc (r : Int → Nat) (zs : List Int) (k : Int) : ∀ m, srt r (zs ++ [k]) m = srt r zs (min m (r k + 1)) ++ (if r k < m then [k] else []) ++ (srt r zs m).drop (srt r zs (min m (r k + 1))).length
  | 0 => by simp [srt]
  | m + 1 => by
    rw [srt, srt_snoc r zs k m, List.filter_append]
    by_cases h : r k < m
    · rw [Nat.min_eq_right (by omega), Nat.min_eq_right (by omega), if_pos h, if_pos (by omega)]
      have e : decide (r k = m) = false := decide_eq_false (by omega)
      have hp : (srt r zs (r k + 1)).length ≤ (srt r zs m).length := by
        obtain ⟨d, hd⟩ : ∃ d, m = r k + 1 + d := ⟨m - (r k + 1), by omega⟩
        rw [hd]; clear hd e
        induction d with
        | zero => exact Nat.le_refl _
        | succ d ih => rw [← Nat.add_assoc, show srt r zs (r k + 1 + d + 1) = srt r zs (r k + 1 + d) ++ zs.filter (fun z => decide (r z = r k + 1 + d)) from rfl, List.length_append]; omega
      rw [show srt r zs (m + 1) = srt r zs m ++ zs.filter (fun z => decide (r z = m)) from rfl, List.drop_append_of_le_length hp]
      simp [e]
    · rw [Nat.min_eq_left (by omega), Nat.min_eq_left (by omega), if_neg h, List.drop_of_length_le (Nat.le_refl _), List.drop_of_length_le (Nat.le_refl _)]
      by_cases h2 : r k = m
      · rw [if_pos (by omega)]
        simp [srt, h2]
      · rw [if_neg (by omega)]
        simp [srt, h2]
theorem srt_up (r : Int → Nat) (zs : List Int) {k m : Nat} (h : k ≤ m) : srt r zs m = srt r zs k ++ (srt r zs m).drop (srt r zs k).length ∧ ∀ z, z ∈ (srt r zs m).drop (srt r zs k).length → k ≤ r z := by
  obtain ⟨d, rfl⟩ : ∃ d, m = k + d := ⟨m - k, by omega⟩
  clear h
  induction d with
  | zero => simp
  | succ d ih =>
    obtain ⟨e, hh⟩ := ih
    have hl : (srt r zs k).length ≤ (srt r zs (k + d)).length := by rw [e, List.length_append]; omega
    rw [← Nat.add_assoc, srt, List.drop_append_of_le_length hl]
    refine ⟨?_, fun z hz => ?_⟩
    · rw [← List.append_assoc, ← e]
    · rcases List.mem_append.1 hz with hz | hz
      · exact hh z hz
      · have := (List.mem_filter.1 hz).2
        simp only [decide_eq_true_eq] at this
        omega
/-- One more, behind all that are not above it. -/
theorem srt_put (r : Int → Nat) (zs : List Int) (k : Int) {m : Nat} (hk : r k < m) (i : Nat) (hi : i ≤ (srt r zs m).length) (h1 : ∀ j, j < i → r ((srt r zs m).getD j 0) ≤ r k) (h2 : i < (srt r zs m).length → ¬ r ((srt r zs m).getD i 0) ≤ r k) :
    srt r (zs ++ [k]) m = (srt r zs m).take i ++ k :: (srt r zs m).drop i := by
  rw [srt_snoc, if_pos hk, Nat.min_eq_right (by omega)]
  obtain ⟨e, hh⟩ := srt_up r zs (k := r k + 1) (m := m) (by omega)
  have hL : (srt r zs (r k + 1)).length = i := by
    rcases Nat.lt_trichotomy (srt r zs (r k + 1)).length i with h | h | h
    · exfalso
      have a := h1 _ h
      have hlt : (srt r zs (r k + 1)).length < (srt r zs m).length := by omega
      have hm : (srt r zs m).getD (srt r zs (r k + 1)).length 0 ∈ (srt r zs m).drop (srt r zs (r k + 1)).length := by
        rw [List.getD_eq_getElem?_getD, List.getElem?_eq_getElem hlt, List.drop_eq_getElem_cons hlt]
        exact List.mem_cons_self
      have := hh _ hm
      omega
    · exact h
    · exfalso
      have hlt : i < (srt r zs m).length := by rw [e, List.length_append]; omega
      refine h2 hlt ?_
      have hm : (srt r zs m).getD i 0 ∈ srt r zs (r k + 1) := by
        rw [e, List.getD_eq_getElem?_getD, List.getElem?_append_left h, List.getElem?_eq_getElem h]
        exact List.getElem_mem h
      have := ((srt_mem r zs _ _).1 hm).2
      omega
  have hT : (srt r zs m).take i = srt r zs (r k + 1) := by
    rw [e, List.take_append_of_le_length (by omega), ← hL, List.take_length]
  rw [hT, hL]
  simp
theorem srt_filter (r : Int → Nat) (p : Int → Bool) (zs : List Int) : ∀ m, (srt r zs m).filter p = srt r (zs.filter p) m
  | 0 => rfl
  | m + 1 => by
    rw [srt, srt, List.filter_append, srt_filter r p zs m, List.filter_filter, List.filter_filter]
    congr 1
    apply List.filter_congr
    intro z _
    exact Bool.and_comm _ _
/-- Two ranks. -/
theorem srt_two (r : Int → Nat) (p : Int → Bool) (zs : List Int) (h : ∀ z, r z = if p z = true then 0 else 1) : srt r zs 2 = zs.filter p ++ zs.filter (fun z => !p z) := by
  simp only [srt, List.nil_append]
  congr 1
  · apply List.filter_congr
    intro z _
    rw [h z]; cases p z <;> simp
  · apply List.filter_congr
    intro z _
    rw [h z]; cases p z <;> simp
/-- The last of those that are greatest among the first k. -/
def lmx (r : Int → Nat) (t : List Int) : Nat → Nat
  | 0 => 0
  | k + 1 => if r (t.getD (lmx r t k) 0) ≤ r (t.getD k 0) then k else lmx r t k
theorem lmx_is (r : Int → Nat) (t : List Int) : ∀ n, 0 < n → lmx r t n < n ∧ (∀ j, j < n → r (t.getD j 0) ≤ r (t.getD (lmx r t n) 0)) ∧ ∀ j, lmx r t n < j → j < n → r (t.getD j 0) < r (t.getD (lmx r t n) 0)
  | 0, h => by omega
  | n + 1, _ => by
    by_cases hn : n = 0
    · subst hn
      have e : lmx r t 1 = 0 := by simp [lmx]
      rw [show (0 + 1 : Nat) = 1 from rfl, e]
      refine ⟨by omega, fun j hj => ?_, fun j h1 h2 => by omega⟩
      obtain rfl : j = 0 := by omega
      exact Nat.le_refl _
    · obtain ⟨a, b, c⟩ := lmx_is r t n (by omega)
      rw [lmx]
      split
      · rename_i h
        refine ⟨by omega, fun j hj => ?_, fun j h1 h2 => by omega⟩
        by_cases e : j = n
        · subst e; exact Nat.le_refl _
        · have := b j (by omega); omega
      · rename_i h
        refine ⟨by omega, fun j hj => ?_, fun j h1 h2 => ?_⟩
        · by_cases e : j = n
          · subst e; omega
          · exact b j (by omega)
        · by_cases e : j = n
          · subst e; omega
          · exact c j h1 (by omega)
theorem lmx_lt (r : Int → Nat) (t : List Int) {n : Nat} (h : 0 < n) : lmx r t n < n := (lmx_is r t n h).1
theorem srt_none (r : Int → Nat) {zs : List Int} {k : Nat} (h : ∀ z, z ∈ zs → r z < k) : ∀ d, srt r zs (k + d) = srt r zs k
  | 0 => rfl
  | d + 1 => by
    rw [← Nat.add_assoc, srt, srt_none r h d]
    rw [List.filter_eq_nil_iff.2 (fun z hz => by have := h z hz; simp; omega), List.append_nil]
/-- The last by rank is the last of the greatest. -/
theorem srt_last (r : Int → Nat) (t : List Int) {m : Nat} (hm : ∀ z, z ∈ t → r z < m) (ht : 0 < t.length) : (srt r t m).getD ((srt r t m).length - 1) 0 = t.getD (lmx r t t.length) 0 := by
  obtain ⟨a, b, c⟩ := lmx_is r t t.length ht
  generalize lmx r t t.length = p at *
  have hp : t.getD p 0 = t[p] := by rw [List.getD_eq_getElem?_getD, List.getElem?_eq_getElem a]; rfl
  have hpm : t.getD p 0 ∈ t := by rw [hp]; exact List.getElem_mem a
  have hrm := hm _ hpm
  obtain ⟨d, hd⟩ : ∃ d, m = r (t.getD p 0) + 1 + d := ⟨m - (r (t.getD p 0) + 1), by omega⟩
  have hall : ∀ z, z ∈ t → r z < r (t.getD p 0) + 1 := fun z hz => by
    obtain ⟨j, hj, rfl⟩ := List.mem_iff_getElem.1 hz
    have := b j hj
    rw [List.getD_eq_getElem?_getD, List.getElem?_eq_getElem hj] at this
    simp only [Option.getD_some] at this
    omega
  have es : t = t.take p ++ t.getD p 0 :: t.drop (p + 1) := by
    rw [hp, ← List.drop_eq_getElem_cons a, List.take_append_drop]
  have e1 : (t.drop (p + 1)).filter (fun z => decide (r z = r (t.getD p 0))) = [] := by
    rw [List.filter_eq_nil_iff]
    intro z hz
    obtain ⟨j, hj, rfl⟩ := List.mem_iff_getElem.1 hz
    rw [List.length_drop] at hj
    have := c (p + 1 + j) (by omega) (by omega)
    have e9 : t.getD (p + 1 + j) 0 = t[p + 1 + j]'(by omega) := by rw [List.getD_eq_getElem?_getD, List.getElem?_eq_getElem (show p + 1 + j < t.length by omega)]; rfl
    rw [e9] at this
    rw [List.getElem_drop, decide_eq_true_eq]
    omega
  have e2 : t.filter (fun z => decide (r z = r (t.getD p 0))) = (t.take p).filter (fun z => decide (r z = r (t.getD p 0))) ++ [t.getD p 0] := by
    generalize t.getD p 0 = x at *
    conv => lhs; rw [es]
    rw [List.filter_append, List.filter_cons, e1]; simp
  rw [hd, srt_none r hall d, srt, e2, ← List.append_assoc, List.getD_eq_getElem?_getD, List.length_append]
  simp
/-- One job more by due time; what is too much is dropped. -/
def mst (lg : Int → Nat) (du : Int → Int) (t : List Int) (k : Int) : List Int :=
  if (((t ++ [k]).map fun z => (lg z : Int)).sum) ≤ du k then t ++ [k] else (t ++ [k]).eraseIdx (lmx lg (t ++ [k]) (t ++ [k]).length)
def mos (lg : Int → Nat) (du : Int → Int) (ks : List Int) : List Int := ks.foldl (mst lg du) []
theorem mos_snoc (lg : Int → Nat) (du : Int → Int) (ks : List Int) (k : Int) : mos lg du (ks ++ [k]) = mst lg du (mos lg du ks) k := by simp [mos, List.foldl_append]
theorem mos_sub (lg : Int → Nat) (du : Int → Int) (ks : List Int) : ∀ n, n ≤ ks.length → (mos lg du (ks.take n)).Sublist (ks.take n)
  | 0, _ => by simp [mos]
  | n + 1, h => by
    rw [List.take_succ_eq_append_getElem (by omega), mos_snoc]
    have ih := mos_sub lg du ks n (by omega)
    unfold mst
    split
    · exact List.Sublist.append ih (List.Sublist.refl _)
    · exact (List.eraseIdx_sublist _ _).trans (List.Sublist.append ih (List.Sublist.refl _))
theorem erase_is (t : List Int) (p : Nat) : t.eraseIdx p = t.take p ++ t.drop (p + 1) := List.eraseIdx_eq_take_drop_succ t p
end JD
end Go.Proofs.Ytgenmljnhlcpcaa
