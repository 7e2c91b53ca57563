/- The contacts by which a group is reached: plain facts. -/
import Derived.Test.YtjplabldiheggaaMReL
namespace Go.Proofs.Ytjplabldiheggaa
open Go.RowKit
namespace PN
theorem way_mem {xs : List I5} {f : Nat} {s : St} {rk : Nat → Nat} (hV : Via xs f s rk) : ∀ (m v : Nat) (u : Int), s.wh v = .fin u → ∀ z, z ∈ way xs s.la f m v → 0 ≤ z ∧ z < xs.length := by
  intro m
  induction m with
  | zero => intro v u _ z hz; simp [way] at hz
  | succ m ih =>
    intro v u hu z hz
    by_cases hv : v = f
    · subst hv; rw [way_end] at hz; simp at hz
    · obtain ⟨k, h1, h2, ⟨p, h3⟩, _⟩ := hV.via v hv u hu
      rw [way_step hv h1, List.mem_append, List.mem_singleton] at hz
      rcases hz with hz | rfl
      · exact ih _ p h3 z hz
      · omega
/-- A route's contacts are of the plan. -/
theorem routeL_in {xs : List I5} {f n t : Int} : ∀ z, z ∈ routeL xs f n t → 0 ≤ z ∧ z < xs.length := by
  intro z hz
  cases h : tellB (routeM xs f n t) with
  | false => rw [routeL_no h] at hz; simp at hz
  | true =>
    have ha : askOk xs f n t = true := by
      cases c : askOk xs f n t with
      | true => rfl
      | false => rw [route_no c] at h; cases h
    obtain ⟨hst, t0, t1⟩ := ask_is ha
    obtain ⟨hok, f0, f1, n0, n1⟩ := start_is hst
    have hs0 := st0_ok (f := f) n0 n1
    have hO := ord_st0 hok (f := f) (n := n)
    obtain ⟨rk, hV⟩ := via_fin hok hs0 hO (via_st0 xs f0 f1 (n := n))
    rw [routeL_yes h] at hz
    rw [route_yes ha] at h
    cases c : (fin xs (st0 f n)).wh t.toNat with
    | fin u => exact way_mem hV 8 _ u c z hz
    | inf => rw [c] at h; cases h
    | ago => rw [c] at h; cases h
end PN
namespace RQ
def anyOf (L : List (Int × Int × List Int)) (k : Nat) : Bool := L.any fun r => EG.hasB r.2.2 (k : Int)
def treL (xs : List I5) (b : Bd) (ms : List Int) : List Int := TR.those xs.length (anyOf (reaL xs b ms))
noncomputable def treA (xs : List I5) (b : Bd) (ms : List Int) : List Int := if reaOk xs b ms = true then treL xs b ms else []
theorem tre_no {xs : List I5} {b : Bd} {ms : List Int} (h : reaOk xs b ms = false) : treA xs b ms = [] := by unfold treA; rw [h]; rfl
theorem tre_yes {xs : List I5} {b : Bd} {ms : List Int} (h : reaOk xs b ms = true) : treA xs b ms = TR.those xs.length (anyOf (reaL xs b ms)) := by unfold treA; rw [if_pos h]; rfl
theorem rea_plan {xs : List I5} {b : Bd} {ms : List Int} (h : reaOk xs b ms = true) : xs.length ≤ 20 := by
  unfold reaOk at h
  rw [Bool.and_eq_true] at h
  exact ((PN.okP_iff xs).1 (GP.fits_is h.1).1).1
theorem treA_len (xs : List I5) (b : Bd) (ms : List Int) : (treA xs b ms).length ≤ 1048576 := by
  cases h : reaOk xs b ms with
  | false => rw [tre_no h]; simp
  | true =>
    rw [tre_yes h]
    have := TR.those_len xs.length (anyOf (reaL xs b ms))
    have := rea_plan h
    omega
theorem rea_in {xs : List I5} {b : Bd} {ms : List Int} : ∀ r, r ∈ reaL xs b ms → ∀ z, z ∈ r.2.2 → 0 ≤ z ∧ z < xs.length := by
  intro r hr z hz
  have h1 := (List.mem_filter.1 (List.mem_filter.1 hr).1).1
  obtain ⟨m, _, rfl⟩ := List.mem_map.1 h1
  exact PN.routeL_in z hz
/-- What is in the tree behind the first k. -/
structure TrUp (m : Nat) (ps : List Rq) (k : Nat) (T : List Int) : Prop where
  up : T.Pairwise (· < ·)
  bd : ∀ z, z ∈ T → 0 ≤ z ∧ z < m
  mem : ∀ z, z ∈ T ↔ ∃ j, j < k ∧ z ∈ (at_ ps j).os
theorem TrUp.start (m : Nat) (ps : List Rq) : TrUp m ps 0 [] := ⟨List.Pairwise.nil, fun z h => by simp at h, fun z => by simp⟩
theorem TrUp.next {m : Nat} {ps : List Rq} {k : Nat} {T T' : List Int} (h : TrUp m ps k T) (hp : GP.PutUp m T (at_ ps k).os T' (at_ ps k).os.length) : TrUp m ps (k + 1) T' := by
  refine ⟨hp.up, hp.bd, fun z => ?_⟩
  rw [hp.end_, GP.putAll_mem, h.mem]
  constructor
  · rintro (⟨j, h1, h2⟩ | h1)
    · exact ⟨j, by omega, h2⟩
    · exact ⟨k, by omega, h1⟩
  · rintro ⟨j, h1, h2⟩
    by_cases e : j = k
    · subst e; exact .inr h2
    · exact .inl ⟨j, by omega, h2⟩
theorem TrUp.end_ {xs : List I5} {b : Bd} {ms : List Int} {ps : List Rq} {T : List Int} (h : TrUp xs.length ps ps.length T) (hs : ps.map Rq.said = reaL xs b ms) : T = treL xs b ms := by
  refine GP.up_only h.up (TR.those_lt _ _) (fun z => ?_)
  unfold treL
  rw [h.mem, TR.those_mem]
  constructor
  · rintro ⟨j, h1, h2⟩
    have hz := h.bd z ((h.mem z).2 ⟨j, h1, h2⟩)
    refine ⟨z.toNat, by omega, ?_, by omega⟩
    unfold anyOf
    rw [List.any_eq_true]
    refine ⟨(at_ ps j).said, ?_, ?_⟩
    · rw [← hs]; exact List.mem_map_of_mem (at_mem h1)
    · rw [show ((z.toNat : Nat) : Int) = z by omega]; show EG.hasB (at_ ps j).os z = true; unfold EG.hasB; exact decide_eq_true h2
  · rintro ⟨i, h1, h2, rfl⟩
    unfold anyOf at h2
    rw [List.any_eq_true] at h2
    obtain ⟨r, h3, h4⟩ := h2
    rw [← hs] at h3
    obtain ⟨p, h5, rfl⟩ := List.mem_map.1 h3
    obtain ⟨j, hj, rfl⟩ := List.mem_iff_getElem.1 h5
    exact ⟨j, hj, by rw [at_eq hj]; exact of_decide_eq_true h4⟩
theorem os_in {xs : List I5} {b : Bd} {ms : List Int} {ps : List Rq} (hs : ps.map Rq.said = reaL xs b ms) {k : Nat} (hk : k < ps.length) : ∀ j, j < (at_ ps k).os.length → 0 ≤ (at_ ps k).os.getD j 0 ∧ (at_ ps k).os.getD j 0 < xs.length := by
  intro j hj
  refine rea_in (at_ ps k).said ?_ _ ?_ (b := b) (ms := ms)
  · rw [← hs]; exact List.mem_map_of_mem (at_mem hk)
  · show (at_ ps k).os.getD j 0 ∈ (at_ ps k).os
    rw [GP.getD_at hj]; exact List.getElem_mem hj
/-- Whether one of the first i is gone by. -/
def anyUp (ps : List Rq) (k : Nat) (i : Nat) : Prop := ∀ j, j < i → EG.hasB (at_ ps j).os (k : Int) = false
theorem any_yes {ps : List Rq} {L : List (Int × Int × List Int)} (hs : ps.map Rq.said = L) {k i : Nat} (hi : i < ps.length) (h : EG.hasB (at_ ps i).os (k : Int) = true) : anyOf L k = true := by
  unfold anyOf
  rw [List.any_eq_true]
  exact ⟨(at_ ps i).said, by rw [← hs]; exact List.mem_map_of_mem (at_mem hi), h⟩
theorem any_no {ps : List Rq} {L : List (Int × Int × List Int)} (hs : ps.map Rq.said = L) {k : Nat} (h : anyUp ps k ps.length) : anyOf L k = false := by
  cases c : anyOf L k with
  | false => rfl
  | true =>
    unfold anyOf at c
    rw [List.any_eq_true] at c
    obtain ⟨r, h3, h4⟩ := c
    rw [← hs] at h3
    obtain ⟨p, h5, rfl⟩ := List.mem_map.1 h3
    obtain ⟨j, hj, rfl⟩ := List.mem_iff_getElem.1 h5
    have := h j hj
    rw [at_eq hj] at this
    simp only [Rq.said] at h4
    rw [this] at h4; cases h4
theorem anyUp_succ {ps : List Rq} {k i : Nat} (h : anyUp ps k i) (h1 : EG.hasB (at_ ps i).os (k : Int) = false) : anyUp ps k (i + 1) := by
  intro j hj
  by_cases e : j = i
  · subst e; exact h1
  · exact h j (by omega)
end RQ
end Go.Proofs.Ytjplabldiheggaa
