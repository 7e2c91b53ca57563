/- Rising rows: what is put into them, and how they are told by who is in them. Plain facts. -/
import Derived.Test.YtjplabldiheggaaRows
import Derived.Test.YtjplabldiheggaaMTr
import Derived.Test.YtjplabldiheggaaMEG
import Derived.Test.YtjplabldiheggaaMPS
import Derived.Test.YtjplabldiheggaaMHasB
namespace Go.Proofs.Ytjplabldiheggaa
open Go.RowKit
namespace GP
theorem getD_at {zs : List Int} {k : Nat} (h : k < zs.length) : zs.getD k 0 = zs[k] := by rw [List.getD_eq_getElem?_getD, List.getElem?_eq_getElem h]; rfl
theorem rise_lt {n : Nat} {s : List Int} (h : EG.riseUp n s s.length) : ∀ d i, i + d + 1 < s.length → s.getD i 0 < s.getD (i + d + 1) 0
  | 0, i, hi => (h (i + 1) hi).2.2 (by omega)
  | d + 1, i, hi => by
    have h1 := rise_lt h d i (by omega)
    have h2 := (h (i + (d + 1) + 1) hi).2.2 (by omega)
    have e : i + (d + 1) + 1 - 1 = i + d + 1 := by omega
    rw [e] at h2
    omega
theorem rises_iff (n : Nat) (s : List Int) : EG.rises n s = true ↔ (∀ z, z ∈ s → 0 ≤ z ∧ z < n) ∧ s.Pairwise (· < ·) := by
  constructor
  · intro h
    have hr := EG.rises_is h
    refine ⟨fun z hz => ?_, ?_⟩
    · obtain ⟨j, hj, rfl⟩ := List.mem_iff_getElem.1 hz
      have := hr j hj
      rw [getD_at hj] at this
      exact ⟨this.1, this.2.1⟩
    · rw [List.pairwise_iff_getElem]
      intro i j hi hj hij
      obtain ⟨d, rfl⟩ : ∃ d, j = i + d + 1 := ⟨j - i - 1, by omega⟩
      have := rise_lt hr d i hj
      rw [getD_at hi, getD_at hj] at this
      exact this
  · rintro ⟨h1, h2⟩
    refine EG.rises_yes (fun i hi => ?_)
    have := h1 _ (List.getElem_mem hi)
    rw [getD_at hi]
    refine ⟨this.1, this.2, fun h0 => ?_⟩
    rw [getD_at (by omega)]
    exact List.pairwise_iff_getElem.1 h2 (i - 1) i (by omega) hi (by omega)
theorem up_only {l l' : List Int} (h : l.Pairwise (· < ·)) (h' : l'.Pairwise (· < ·)) (hm : ∀ z, z ∈ l ↔ z ∈ l') : l = l' := by
  have n1 : l.Nodup := h.imp (fun k => by omega)
  have n2 : l'.Nodup := h'.imp (fun k => by omega)
  refine List.Perm.eq_of_pairwise (le := fun a b => a < b) (fun a b _ _ h1 h2 => by omega) h h' ((List.perm_ext_iff_of_nodup n1 n2).2 hm)
/-- No more than n rise below n. -/
theorem up_len : ∀ (n : Nat) (l : List Int), l.Pairwise (· < ·) → (∀ z, z ∈ l → 0 ≤ z ∧ z < n) → l.length ≤ n := by
  intro n l h hb
  have hs : l = TR.those n (fun i => decide ((i : Int) ∈ l)) := up_only h (TR.those_lt _ _) (fun z => by
    rw [TR.those_mem]
    constructor
    · intro hz; have := hb z hz; exact ⟨z.toNat, by omega, by rw [decide_eq_true_eq, show ((z.toNat : Nat) : Int) = z by omega]; exact hz, by omega⟩
    · rintro ⟨i, _, h2, rfl⟩; simpa using h2)
  rw [hs]; exact TR.those_len _ _
/-- A number put to its place, where it is not there yet. -/
def putT (os : List Int) (n : Int) : List Int := if n ∈ os then os else EG.putS os n
theorem putT_mem (os : List Int) (n x : Int) : x ∈ putT os n ↔ x ∈ os ∨ x = n := by
  unfold putT
  split
  · next h => exact ⟨.inl, fun k => k.elim id (fun e => e ▸ h)⟩
  · rw [(EG.putS_perm os n).mem_iff]; simp
theorem putT_lt {os : List Int} {n : Int} (h : os.Pairwise (· < ·)) : (putT os n).Pairwise (· < ·) := by
  unfold putT
  split
  · exact h
  · next hn =>
    have h1 := EG.putS_sorted os n (h.imp (fun k => by omega))
    have h2 : (EG.putS os n).Nodup := by
      rw [(EG.putS_perm os n).nodup_iff, List.nodup_append]
      refine ⟨h.imp (fun k => by omega), by simp, ?_⟩
      intro a ha b hb e
      rw [List.mem_singleton] at hb
      subst hb; subst e; exact hn ha
    have h3 := List.Pairwise.and h1 (List.nodup_iff_pairwise_ne.1 h2)
    exact h3.imp (fun k => by omega)
theorem putT_bd {os : List Int} {n : Int} {m : Nat} (h : ∀ z, z ∈ os → 0 ≤ z ∧ z < m) (hn : 0 ≤ n ∧ n < m) : ∀ z, z ∈ putT os n → 0 ≤ z ∧ z < m := fun z hz => by
  rcases (putT_mem os n z).1 hz with h1 | rfl
  · exact h z h1
  · exact hn
def putAll (os ns : List Int) : List Int := ns.foldl putT os
theorem putAll_mem : ∀ (ns os : List Int) (x : Int), x ∈ putAll os ns ↔ x ∈ os ∨ x ∈ ns
  | [], os, x => by simp [putAll]
  | n :: ns, os, x => by
    show x ∈ putAll (putT os n) ns ↔ _
    rw [putAll_mem ns, putT_mem]
    simp only [List.mem_cons, or_assoc]
theorem putAll_lt : ∀ (ns : List Int) {os : List Int}, os.Pairwise (· < ·) → (putAll os ns).Pairwise (· < ·)
  | [], _, h => h
  | n :: ns, _, h => putAll_lt ns (putT_lt (n := n) h)
theorem putAll_step (os ns : List Int) {k : Nat} (hk : k < ns.length) : putAll os (ns.take (k + 1)) = putT (putAll os (ns.take k)) (ns.getD k 0) := by
  unfold putAll
  rw [M4.take_snoc _ _ hk, List.foldl_append]; rfl
/-- Up to k. -/
structure PutUp (m : Nat) (os ns T : List Int) (k : Nat) : Prop where
  is_ : T = putAll os (ns.take k)
  up : T.Pairwise (· < ·)
  bd : ∀ z, z ∈ T → 0 ≤ z ∧ z < m
theorem PutUp.start {m : Nat} {os : List Int} (ns : List Int) (h : os.Pairwise (· < ·)) (hb : ∀ z, z ∈ os → 0 ≤ z ∧ z < m) : PutUp m os ns os 0 := ⟨rfl, h, hb⟩
theorem PutUp.len {m : Nat} {os ns T : List Int} {k : Nat} (h : PutUp m os ns T k) : T.length ≤ m := up_len m T h.up h.bd
theorem PutUp.next {m : Nat} {os ns T : List Int} {k : Nat} (h : PutUp m os ns T k) (hk : k < ns.length) (hn : 0 ≤ ns.getD k 0 ∧ ns.getD k 0 < m) : PutUp m os ns (putT T (ns.getD k 0)) (k + 1) :=
  ⟨by rw [putAll_step _ _ hk, ← h.is_], putT_lt h.up, putT_bd h.bd hn⟩
theorem PutUp.end_ {m : Nat} {os ns T : List Int} (h : PutUp m os ns T ns.length) : T = putAll os ns := by rw [h.is_, List.take_length]
/-- Both lists together. -/
noncomputable def joinOk (a b : List Int) : Bool := EG.rises 8 a && EG.rises 8 b
noncomputable def joinL (a b : List Int) : List Int := if joinOk a b = true then TR.those 8 (fun i => EG.hasB a i || EG.hasB b i) else []
theorem joinL_len (a b : List Int) : (joinL a b).length ≤ 1048576 := by
  unfold joinL
  split
  · have := TR.those_len 8 (fun i => EG.hasB a i || EG.hasB b i); omega
  · simp
theorem join_no {a b : List Int} (h : joinOk a b = false) : joinL a b = [] := by unfold joinL; rw [h]; rfl
theorem join_yes {a b : List Int} (h : joinOk a b = true) : joinL a b = TR.those 8 (fun i => EG.hasB a i || EG.hasB b i) := by unfold joinL; rw [if_pos h]
theorem join_put {a b : List Int} (ha : EG.rises 8 a = true) (hb : EG.rises 8 b = true) : putAll a b = TR.those 8 (fun i => EG.hasB a i || EG.hasB b i) := by
  obtain ⟨a1, a2⟩ := (rises_iff 8 a).1 ha
  obtain ⟨b1, b2⟩ := (rises_iff 8 b).1 hb
  refine up_only (putAll_lt b a2) (TR.those_lt _ _) (fun z => ?_)
  rw [putAll_mem, TR.those_mem]
  constructor
  · intro h
    have hz : 0 ≤ z ∧ z < (8 : Nat) := h.elim (a1 z) (b1 z)
    refine ⟨z.toNat, by omega, ?_, by omega⟩
    rw [show ((z.toNat : Nat) : Int) = z by omega]
    simpa [EG.hasB] using h
  · rintro ⟨i, _, h2, rfl⟩; simpa [EG.hasB] using h2
theorem rises_len {n : Nat} {a : List Int} (h : EG.rises n a = true) : a.length ≤ n := up_len n a ((rises_iff n a).1 h).2 ((rises_iff n a).1 h).1
theorem rises_long {n : Nat} {a : List Int} (h : n < a.length) : EG.rises n a = false := by
  cases c : EG.rises n a with
  | false => rfl
  | true => have := rises_len c; omega
end GP
end Go.Proofs.Ytjplabldiheggaa
