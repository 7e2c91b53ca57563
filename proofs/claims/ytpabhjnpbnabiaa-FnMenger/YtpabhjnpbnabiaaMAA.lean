/- Lists that have no number twice: plain facts. -/
import Derived.Test.YtpabhjnpbnabiaaMNR
import Derived.Lib.SlicesCompact
namespace Go.Proofs.Ytpabhjnpbnabiaa
namespace NR
open Go.RowKit
def rowsOk (ws : List (List Int)) : Bool := ws.all fun r => decide (r.length ≤ 20)
def apOk (ws : List (List Int)) : Bool := decide (ws.length ≤ 20) && rowsOk ws
def nodB (ws : List (List Int)) : Bool := decide ws.flatten.Nodup
def apB (ws : List (List Int)) : Bool := apOk ws && nodB ws
def okUp (ws : List (List Int)) (k : Nat) : Prop := ∀ j, j < k → (rw_ ws j).length ≤ 20
theorem rows_no {ws : List (List Int)} {k : Nat} (hk : k < ws.length) (h : 20 < (rw_ ws k).length) : rowsOk ws = false := by
  rw [Bool.eq_false_iff]; intro e
  unfold rowsOk at e
  rw [List.all_eq_true] at e
  have := e (ws[k]) (List.getElem_mem hk)
  rw [decide_eq_true_eq, ← rw_eq ws k hk] at this
  omega
theorem rows_yes {ws : List (List Int)} (h : okUp ws ws.length) : rowsOk ws = true := by
  unfold rowsOk
  rw [List.all_eq_true]
  intro x hx
  obtain ⟨j, hj, rfl⟩ := List.mem_iff_getElem.1 hx
  rw [decide_eq_true_eq, ← rw_eq ws j hj]; exact h j hj
theorem okUp_succ {ws : List (List Int)} {k : Nat} (h : okUp ws k) (h1 : (rw_ ws k).length ≤ 20) : okUp ws (k + 1) := by
  intro j hj
  by_cases e : j = k
  · subst e; exact h1
  · exact h j (by omega)
theorem tot_small {ws : List (List Int)} (h : okUp ws ws.length) : ∀ i, i ≤ ws.length → tot (ws.take i) ≤ 20 * i
  | 0, _ => by simp [tot]
  | i + 1, hi => by
    have := tot_small h i (by omega)
    have := h i (by omega)
    rw [tot_take ws (by omega)]
    omega
/-- What was seen of the lists: the first j of them, and k of the next. -/
def seen (ws : List (List Int)) (j k : Nat) : List Int := (ws.take j).flatten ++ (rw_ ws j).take k
theorem flat_succ (ws : List (List Int)) {i : Nat} (h : i < ws.length) : (ws.take (i + 1)).flatten = (ws.take i).flatten ++ rw_ ws i := by
  rw [List.take_succ_eq_append_getElem h, List.flatten_append, rw_eq ws i h]; simp
theorem seen_end (ws : List (List Int)) {j : Nat} (h : j < ws.length) : seen ws j (rw_ ws j).length = seen ws (j + 1) 0 := by
  unfold seen
  rw [List.take_length, flat_succ ws h]; simp
theorem seen_snoc (ws : List (List Int)) {j k : Nat} (hk : k < (rw_ ws j).length) : seen ws j (k + 1) = seen ws j k ++ [(rw_ ws j).getD k 0] := by
  unfold seen
  rw [List.take_succ_eq_append_getElem hk, List.append_assoc, List.getD_eq_getElem?_getD, List.getElem?_eq_getElem hk]; rfl
theorem seen_all (ws : List (List Int)) : seen ws ws.length 0 = ws.flatten := by unfold seen; simp
theorem seen_pre (ws : List (List Int)) {j : Nat} (k : Nat) (h : j < ws.length) : ∃ r, ws.flatten = seen ws j k ++ r := by
  refine ⟨(rw_ ws j).drop k ++ (ws.drop (j + 1)).flatten, ?_⟩
  unfold seen
  rw [List.append_assoc, ← List.append_assoc ((rw_ ws j).take k), List.take_append_drop, ← List.append_assoc, ← flat_succ ws h]
  conv => lhs; rw [← List.take_append_drop (j + 1) ws]
  rw [List.flatten_append]
theorem seen_len (ws : List (List Int)) (j k : Nat) (hk : k ≤ (rw_ ws j).length) : (seen ws j k).length = tot (ws.take j) + k := by
  unfold seen
  rw [List.length_append, List.length_take, List.length_flatten]
  unfold tot
  omega
theorem dup_no {ws : List (List Int)} {j k : Nat} (hj : j < ws.length) (hk : k < (rw_ ws j).length) (h : (rw_ ws j).getD k 0 ∈ seen ws j k) : nodB ws = false := by
  unfold nodB
  rw [decide_eq_false_iff_not]
  intro hn
  obtain ⟨r, e⟩ := seen_pre ws (k + 1) hj
  rw [e, seen_snoc ws hk] at hn
  have := (List.nodup_append.1 hn).1
  have := (List.nodup_append.1 this).2.2 _ h _ (List.mem_singleton.2 rfl)
  exact this rfl
theorem nod_yes {ws : List (List Int)} (h : (seen ws ws.length 0).Nodup) : nodB ws = true := by
  unfold nodB; rw [decide_eq_true_eq, ← seen_all ws]; exact h
/-- A rising row has as many behind slices.Compact if none is there twice. -/
theorem compact_len {zs : List Int} (hs : zs.Pairwise (· ≤ ·)) : (Lib.compact zs).length = zs.length ↔ zs.Nodup := by
  unfold Lib.compact Lib.compactUpTo
  rw [List.length_map]
  have h1 : ((List.range zs.length).filter (Lib.keeps zs.toArray)).length = zs.length ↔ ∀ j, j < zs.length → Lib.keeps zs.toArray j = true := by
    have := List.length_filter_eq_length_iff (p := Lib.keeps zs.toArray) (l := List.range zs.length)
    rw [List.length_range] at this
    rw [this]
    exact ⟨fun h j hj => h j (List.mem_range.2 hj), fun h a ha => h a (List.mem_range.1 ha)⟩
  rw [h1]
  have hk : ∀ j (hj : j < zs.length), 0 < j → (Lib.keeps zs.toArray j = true ↔ zs[j] ≠ zs[j - 1]) := fun j hj h0 => by
    unfold Lib.keeps
    rw [decide_eq_true_eq]
    have e1 : zs.toArray[j]! = zs[j] := by simp [hj]
    have e2 : zs.toArray[j - 1]! = zs[j - 1] := by
      have : j - 1 < zs.length := by omega
      simp [this]
    rw [e1, e2]
    constructor
    · rintro (h | h)
      · omega
      · exact h
    · exact fun h => .inr h
  constructor
  · intro h
    have hp : zs.Pairwise (· < ·) := by
      rw [List.pairwise_iff_getElem]
      intro i j hi hj hij
      have a := (hk (i + 1) (by omega) (by omega)).1 (h (i + 1) (by omega))
      simp only [Nat.add_sub_cancel] at a
      have b := (List.pairwise_iff_getElem.1 hs) i (i + 1) hi (by omega) (by omega)
      by_cases e : i + 1 = j
      · subst e; omega
      · have c := (List.pairwise_iff_getElem.1 hs) (i + 1) j (by omega) hj (by omega)
        omega
    exact hp.imp fun h => by omega
  · intro h j hj
    by_cases h0 : j = 0
    · unfold Lib.keeps; rw [decide_eq_true_eq]; exact .inl h0
    · rw [hk j hj (by omega)]
      exact fun e => (List.pairwise_iff_getElem.1 h) (j - 1) j (by omega) hj (by omega) e.symm
theorem sort_compact (zs : List Int) : decide ((Lib.compact (zs.mergeSort fun x y => decide (x ≤ y))).length = zs.length) = decide zs.Nodup := by
  have tr : ∀ a b c : Int, decide (a ≤ b) = true → decide (b ≤ c) = true → decide (a ≤ c) = true := fun a b c h1 h2 => by simp only [decide_eq_true_eq] at *; omega
  have to : ∀ a b : Int, (decide (a ≤ b) || decide (b ≤ a)) = true := fun a b => by simp only [Bool.or_eq_true, decide_eq_true_eq]; omega
  have hp := (List.pairwise_mergeSort tr to zs).imp fun {a b} (h : decide (a ≤ b) = true) => of_decide_eq_true h
  have := compact_len hp
  rw [List.length_mergeSort] at this
  rw [Bool.eq_iff_iff, decide_eq_true_eq, decide_eq_true_eq, this]
  exact (List.mergeSort_perm zs _).nodup_iff
structure ApC (ws : List (List Int)) (ok b nb : Bool) : Prop where
  many : 20 < ws.length → ok = false ∧ b = false
  long : ws.length ≤ 20 → rowsOk ws = false → ok = false ∧ b = false
  yes : ws.length ≤ 20 → rowsOk ws = true → ok = true ∧ b = nb
theorem apC (ws : List (List Int)) : ApC ws (apOk ws) (apB ws) (nodB ws) := by
  refine ⟨fun h => ?_, fun h h2 => ?_, fun h h2 => ?_⟩
  · have : decide (ws.length ≤ 20) = false := by simp; omega
    simp [apB, apOk, this]
  · simp [apB, apOk, h2]
  · simp [apB, apOk, h, h2]
end NR
end Go.Proofs.Ytpabhjnpbnabiaa
