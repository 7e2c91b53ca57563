import Derived.Test.YtpdmbobcbehilaaM4
import Derived.Test.YtpdmbobcbehilaaRows
import Derived.Test.YtpdmbobcbehilaaM5
import Derived.Test.YtpdmbobcbehilaaMRetB
import Derived.Test.YtpdmbobcbehilaaMEG
/- A number put to its place in a rising row: plain facts. -/
namespace Go.Proofs.Ytpdmbobcbehilaa
namespace EG
/-- Put to its place. -/
def putS : List Int → Int → List Int
  | [], n => [n]
  | x :: l, n => if x < n then x :: putS l n else n :: x :: l
theorem putS_perm : ∀ (l : List Int) (n : Int), (putS l n).Perm (l ++ [n])
  | [], n => List.Perm.refl _
  | x :: l, n => by
    rw [putS]; split
    · exact (putS_perm l n).cons x
    · exact (List.perm_append_comm (l₁ := [n]) (l₂ := x :: l))
theorem putS_sorted : ∀ (l : List Int) (n : Int), l.Pairwise (· ≤ ·) → (putS l n).Pairwise (· ≤ ·)
  | [], n, _ => by simp [putS]
  | x :: l, n, h => by
    rw [List.pairwise_cons] at h
    rw [putS]; split
    · rename_i hx
      rw [List.pairwise_cons]
      refine ⟨fun y hy => ?_, putS_sorted l n h.2⟩
      have := (putS_perm l n).mem_iff.1 hy
      rcases List.mem_append.1 this with hy | hy
      · exact h.1 y hy
      · rw [List.mem_singleton.1 hy]; omega
    · rename_i hx
      rw [List.pairwise_cons, List.pairwise_cons]
      refine ⟨fun y hy => ?_, h.1, h.2⟩
      rcases List.mem_cons.1 hy with rfl | hy
      · omega
      · have := h.1 y hy; omega
theorem putS_at : ∀ (l : List Int) (n : Int) (k : Nat), k ≤ l.length → (∀ j, j < k → l.getD j 0 < n) → (k < l.length → n ≤ l.getD k 0) → putS l n = l.take k ++ n :: l.drop k
  | [], n, k, hk, h1, h2 => by simp [putS]
  | x :: l, n, 0, hk, h1, h2 => by
    have := h2 (by simp)
    rw [putS, if_neg (by simpa using this)]; rfl
  | x :: l, n, k + 1, hk, h1, h2 => by
    have h0 : x < n := by simpa using h1 0 (by omega)
    rw [putS, if_pos h0, putS_at l n k (by simpa using hk) (fun j hj => by simpa using h1 (j + 1) (by omega)) (fun hj => by simpa using h2 (by simpa using hj))]
    rfl
end EG
end Go.Proofs.Ytpdmbobcbehilaa

/- Trees told by who is above each node: which rows are trees; the numbers of those for whom something is so. -/
namespace Go.Proofs.Ytpdmbobcbehilaa
open Go.RowKit
namespace TR
/-- Those numbers, rising, for whom it is so. -/
def those (n : Nat) (P : Nat → Bool) : List Int := ((List.range n).filter P).map fun (i : Nat) => (i : Int)
theorem those_succ (n : Nat) (P : Nat → Bool) : those (n + 1) P = if P n = true then those n P ++ [(n : Int)] else those n P := by
  unfold those
  rw [List.range_succ, List.filter_append, List.map_append]
  by_cases c : P n = true
  · rw [if_pos c, List.filter_cons, if_pos c]; rfl
  · rw [if_neg c, List.filter_cons, if_neg c]; exact List.append_nil _
theorem those_yes {n : Nat} {P : Nat → Bool} (h : P n = true) : those (n + 1) P = those n P ++ [(n : Int)] := by rw [those_succ, if_pos h]
theorem those_no {n : Nat} {P : Nat → Bool} (h : P n = false) : those (n + 1) P = those n P := by rw [those_succ, h]; rfl
theorem those_len (n : Nat) (P : Nat → Bool) : (those n P).length ≤ n := by
  unfold those
  have := List.length_filter_le P (List.range n)
  simpa using this
theorem those_congr {n : Nat} {P Q : Nat → Bool} (h : ∀ i, i < n → P i = Q i) : those n P = those n Q := by
  unfold those
  rw [List.filter_congr (fun i hi => h i (List.mem_range.1 hi))]
theorem those_mem (n : Nat) (P : Nat → Bool) (x : Int) : x ∈ those n P ↔ ∃ i : Nat, i < n ∧ P i = true ∧ x = i := by
  simp only [those, List.mem_map, List.mem_filter, List.mem_range]
  constructor
  · rintro ⟨i, ⟨h1, h2⟩, rfl⟩; exact ⟨i, h1, h2, rfl⟩
  · rintro ⟨i, h1, h2, rfl⟩; exact ⟨i, ⟨h1, h2⟩, rfl⟩
theorem those_lt (n : Nat) (P : Nat → Bool) : (those n P).Pairwise (· < ·) := by
  unfold those
  refine List.Pairwise.map _ (R := (· < ·)) (fun a b h => by omega) (List.Pairwise.filter _ List.pairwise_lt_range)
theorem own_snoc {w : World} {B n : Nat} {v : Value} {l : List Int} {z : Int} (h : w.ownsRow B 3 1 v (l.length + 1) (M4.iv l ++ [.int .i64 z])) (hn : (l ++ [z]).length = n) : w.ownsRow B 3 1 v n (M4.iv (l ++ [z])) := by
  subst hn
  simpa [M4.iv] using h
theorem own_mono {w : World} {B B' e sz n : Nat} {v : Value} {xs : List Value} (h : w.ownsRow B e sz v n xs) (hb : B' ≤ B) : w.ownsRow B' e sz v n xs := by
  refine ⟨h.1, ?_⟩
  rcases h.2 with h' | ⟨g', cap, cur, hv, hB, rest⟩
  · exact .inl h'
  · exact .inr ⟨g', cap, cur, hv, by omega, rest⟩
/-- Who is above the node i is as it must be. -/
def At (xs : List Int) (i : Nat) : Prop := if i = 0 then xs.getD i 0 = -1 else 0 ≤ xs.getD i 0 ∧ xs.getD i 0 < i
instance (xs : List Int) (i : Nat) : Decidable (At xs i) := by unfold At; exact inferInstance
def Up (xs : List Int) (k : Nat) : Prop := ∀ i, i < k → At xs i
instance (xs : List Int) (k : Nat) : Decidable (Up xs k) := by unfold Up; exact inferInstance
theorem Up.succ {xs : List Int} {k : Nat} (h : Up xs k) (ha : At xs k) : Up xs (k + 1) := fun i hi => by
  by_cases e : i = k
  · rw [e]; exact ha
  · exact h i (by omega)
def tree (xs : List Int) : Bool := decide ((1 ≤ xs.length ∧ xs.length ≤ 8) ∧ Up xs xs.length)
theorem tree_iff (xs : List Int) : tree xs = true ↔ (1 ≤ xs.length ∧ xs.length ≤ 8) ∧ Up xs xs.length := by simp [tree]
theorem tree_len {xs : List Int} (h : ¬ (1 ≤ xs.length ∧ xs.length ≤ 8)) : tree xs = false := by
  simp only [tree, decide_eq_false_iff_not]; exact fun c => h c.1
theorem tree_no {xs : List Int} {i : Nat} (hi : i < xs.length) (h : ¬ At xs i) : tree xs = false := by
  simp only [tree, decide_eq_false_iff_not]; exact fun c => h (c.2 i hi)
theorem tree_yes {xs : List Int} (hl : 1 ≤ xs.length ∧ xs.length ≤ 8) (h : Up xs xs.length) : tree xs = true := (tree_iff xs).2 ⟨hl, h⟩
theorem at_zero (xs : List Int) : At xs 0 ↔ xs.getD 0 0 = -1 := by simp [At]
theorem at_pos (xs : List Int) {i : Nat} (h : 0 < i) : At xs i ↔ 0 ≤ xs.getD i 0 ∧ xs.getD i 0 < i := by unfold At; rw [if_neg (by omega)]
theorem up_one {xs : List Int} (h : xs.getD 0 0 = -1) : Up xs 1 := fun i hi => by
  obtain rfl : i = 0 := by omega
  exact (at_zero xs).2 h
/-- The numbers of a node's children. -/
def kids (xs : List Int) (node : Int) : List Int := those xs.length fun i => decide (0 < i) && decide (xs.getD i 0 = node)
theorem kids_is {xs : List Int} {node : Int} (h : tree xs = true) (hn : 0 ≤ node) : those xs.length (fun i => decide (xs.getD i 0 = node)) = kids xs node := by
  obtain ⟨hl, hu⟩ := (tree_iff xs).1 h
  refine those_congr fun i hi => ?_
  cases i with
  | zero =>
    have := (at_zero xs).1 (hu 0 hi)
    simp only [this, Nat.lt_irrefl, decide_false, Bool.false_and, decide_eq_false_iff_not]
    omega
  | succ i => simp
end TR
end Go.Proofs.Ytpdmbobcbehilaa

/- Whether a number is in a row: plain facts. -/
namespace Go.Proofs.Ytpdmbobcbehilaa
open Go.RowKit
namespace EG
def noUp (zs : List Int) (x : Int) (k : Nat) : Prop := ∀ j, j < k → zs.getD j 0 ≠ x
def hasB (zs : List Int) (x : Int) : Bool := decide (x ∈ zs)
theorem hasB_yes {zs : List Int} {x : Int} {k : Nat} (hk : k < zs.length) (h : zs.getD k 0 = x) : hasB zs x = true := by
  rw [hasB, decide_eq_true_eq, ← h, List.getD_eq_getElem?_getD, List.getElem?_eq_getElem hk]; exact List.getElem_mem hk
theorem hasB_no {zs : List Int} {x : Int} (h : noUp zs x zs.length) : hasB zs x = false := by
  rw [hasB, decide_eq_false_iff_not]; intro hx
  obtain ⟨i, hi, rfl⟩ := List.mem_iff_getElem.1 hx
  exact h i hi (by rw [List.getD_eq_getElem?_getD, List.getElem?_eq_getElem hi]; rfl)
theorem noUp_succ {zs : List Int} {x : Int} {k : Nat} (h : noUp zs x k) (h1 : zs.getD k 0 ≠ x) : noUp zs x (k + 1) := by
  intro j hj
  by_cases e : j = k
  · subst e; exact h1
  · exact h j (by omega)
end EG
end Go.Proofs.Ytpdmbobcbehilaa

/- Rising rows: what is put into them, and how they are told by who is in them. Plain facts. -/
namespace Go.Proofs.Ytpdmbobcbehilaa
open Go.RowKit
namespace GP
theorem getD_at {zs : List Int} {k : Nat} (h : k < zs.length) : zs.getD k 0 = zs[k] := by rw [List.getD_eq_getElem?_getD, List.getElem?_eq_getElem h]; rfl
theorem rise_lt {n : Nat} {s : List Int} (h : EG.riseUp n s s.length) : ∀ d i, i + d + 1 < s.length → s.getD i 0 < s.getD (i + d + 1) 0
  | 0, i, hi => (h (i + 1) hi).2.2 (by omega)
  | d + 1, i, hi => by
    have h1 := rise_lt h d i (by omega)
    have h2 := (h (i + (d + 1) + 1) hi).2.2 (by omega)
    have e : i + (d + 1) + 1 - 1 = i + d + 1 := by omega
    rw [e] at h2
    omega
theorem rises_iff (n : Nat) (s : List Int) : EG.rises n s = true ↔ (∀ z, z ∈ s → 0 ≤ z ∧ z < n) ∧ s.Pairwise (· < ·) := by
  constructor
  · intro h
    have hr := EG.rises_is h
    refine ⟨fun z hz => ?_, ?_⟩
    · obtain ⟨j, hj, rfl⟩ := List.mem_iff_getElem.1 hz
      have := hr j hj
      rw [getD_at hj] at this
      exact ⟨this.1, this.2.1⟩
    · rw [List.pairwise_iff_getElem]
      intro i j hi hj hij
      obtain ⟨d, rfl⟩ : ∃ d, j = i + d + 1 := ⟨j - i - 1, by omega⟩
      have := rise_lt hr d i hj
      rw [getD_at hi, getD_at hj] at this
      exact this
  · rintro ⟨h1, h2⟩
    refine EG.rises_yes (fun i hi => ?_)
    have := h1 _ (List.getElem_mem hi)
    rw [getD_at hi]
    refine ⟨this.1, this.2, fun h0 => ?_⟩
    rw [getD_at (by omega)]
    exact List.pairwise_iff_getElem.1 h2 (i - 1) i (by omega) hi (by omega)
theorem up_only {l l' : List Int} (h : l.Pairwise (· < ·)) (h' : l'.Pairwise (· < ·)) (hm : ∀ z, z ∈ l ↔ z ∈ l') : l = l' := by
  have n1 : l.Nodup := h.imp (fun k => by omega)
  have n2 : l'.Nodup := h'.imp (fun k => by omega)
  refine List.Perm.eq_of_pairwise (le := fun a b => a < b) (fun a b _ _ h1 h2 => by omega) h h' ((List.perm_ext_iff_of_nodup n1 n2).2 hm)
/-- No more than n rise below n. -/
theorem up_len : ∀ (n : Nat) (l : List Int), l.Pairwise (· < ·) → (∀ z, z ∈ l → 0 ≤ z ∧ z < n) → l.length ≤ n := by
  intro n l h hb
  have hs : l = TR.those n (fun i => decide ((i : Int) ∈ l)) := up_only h (TR.those_lt _ _) (fun z => by
    rw [TR.those_mem]
    constructor
    · intro hz; have := hb z hz; exact ⟨z.toNat, by omega, by rw [decide_eq_true_eq, show ((z.toNat : Nat) : Int) = z by omega]; exact hz, by omega⟩
    · rintro ⟨i, _, h2, rfl⟩; simpa using h2)
  rw [hs]; exact TR.those_len _ _
/-- A number put to its place, where it is not there yet. -/
def putT (os : List Int) (n : Int) : List Int := if n ∈ os then os else EG.putS os n
theorem putT_mem (os : List Int) (n x : Int) : x ∈ putT os n ↔ x ∈ os ∨ x = n := by
  unfold putT
  split
  · next h => exact ⟨.inl, fun k => k.elim id (fun e => e ▸ h)⟩
  · rw [(EG.putS_perm os n).mem_iff]; simp
theorem putT_lt {os : List Int} {n : Int} (h : os.Pairwise (· < ·)) : (putT os n).Pairwise (· < ·) := by
  unfold putT
  split
  · exact h
  · next hn =>
    have h1 := EG.putS_sorted os n (h.imp (fun k => by omega))
    have h2 : (EG.putS os n).Nodup := by
      rw [(EG.putS_perm os n).nodup_iff, List.nodup_append]
      refine ⟨h.imp (fun k => by omega), by simp, ?_⟩
      intro a ha b hb e
      rw [List.mem_singleton] at hb
      subst hb; subst e; exact hn ha
    have h3 := List.Pairwise.and h1 (List.nodup_iff_pairwise_ne.1 h2)
    exact h3.imp (fun k => by omega)
theorem putT_bd {os : List Int} {n : Int} {m : Nat} (h : ∀ z, z ∈ os → 0 ≤ z ∧ z < m) (hn : 0 ≤ n ∧ n < m) : ∀ z, z ∈ putT os n → 0 ≤ z ∧ z < m := fun z hz => by
  rcases (putT_mem os n z).1 hz with h1 | rfl
  · exact h z h1
  · exact hn
def putAll (os ns : List Int) : List Int := ns.foldl putT os
theorem putAll_mem : ∀ (ns os : List Int) (x : Int), x ∈ putAll os ns ↔ x ∈ os ∨ x ∈ ns
  | [], os, x => by simp [putAll]
  | n :: ns, os, x => by
    show x ∈ putAll (putT os n) ns ↔ _
    rw [putAll_mem ns, putT_mem]
    simp only [List.mem_cons, or_assoc]
theorem putAll_lt : ∀ (ns : List Int) {os : List Int}, os.Pairwise (· < ·) → (putAll os ns).Pairwise (· < ·)
  | [], _, h => h
  | n :: ns, _, h => putAll_lt ns (putT_lt (n := n) h)
theorem putAll_step (os ns : List Int) {k : Nat} (hk : k < ns.length) : putAll os (ns.take (k + 1)) = putT (putAll os (ns.take k)) (ns.getD k 0) := by
  unfold putAll
  rw [M4.take_snoc _ _ hk, List.foldl_append]; rfl
/-- Up to k. -/
structure PutUp (m : Nat) (os ns T : List Int) (k : Nat) : Prop where
  is_ : T = putAll os (ns.take k)
  up : T.Pairwise (· < ·)
  bd : ∀ z, z ∈ T → 0 ≤ z ∧ z < m
theorem PutUp.start {m : Nat} {os : List Int} (ns : List Int) (h : os.Pairwise (· < ·)) (hb : ∀ z, z ∈ os → 0 ≤ z ∧ z < m) : PutUp m os ns os 0 := ⟨rfl, h, hb⟩
theorem PutUp.len {m : Nat} {os ns T : List Int} {k : Nat} (h : PutUp m os ns T k) : T.length ≤ m := up_len m T h.up h.bd
theorem PutUp.next {m : Nat} {os ns T : List Int} {k : Nat} (h : PutUp m os ns T k) (hk : k < ns.length) (hn : 0 ≤ ns.getD k 0 ∧ ns.getD k 0 < m) : PutUp m os ns (putT T (ns.getD k 0)) (k + 1) :=
  ⟨by rw [putAll_step _ _ hk, ← h.is_], putT_lt h.up, putT_bd h.bd hn⟩
theorem PutUp.end_ {m : Nat} {os ns T : List Int} (h : PutUp m os ns T ns.length) : T = putAll os ns := by rw [h.is_, List.take_length]
/-- Both lists together. -/
noncomputable def joinOk (a b : List Int) : Bool := EG.rises 8 a && EG.rises 8 b
noncomputable def joinL (a b : List Int) : List Int := if joinOk a b = true then TR.those 8 (fun i => EG.hasB a i || EG.hasB b i) else []
theorem joinL_len (a b : List Int) : (joinL a b).length ≤ 1048576 := by
  unfold joinL
  split
  · have := TR.those_len 8 (fun i => EG.hasB a i || EG.hasB b i); omega
  · simp
theorem join_no {a b : List Int} (h : joinOk a b = false) : joinL a b = [] := by unfold joinL; rw [h]; rfl
theorem join_yes {a b : List Int} (h : joinOk a b = true) : joinL a b = TR.those 8 (fun i => EG.hasB a i || EG.hasB b i) := by unfold joinL; rw [if_pos h]
theorem join_put {a b : List Int} (ha : EG.rises 8 a = true) (hb : EG.rises 8 b = true) : putAll a b = TR.those 8 (fun i => EG.hasB a i || EG.hasB b i) := by
  obtain ⟨a1, a2⟩ := (rises_iff 8 a).1 ha
  obtain ⟨b1, b2⟩ := (rises_iff 8 b).1 hb
  refine up_only (putAll_lt b a2) (TR.those_lt _ _) (fun z => ?_)
  rw [putAll_mem, TR.those_mem]
  constructor
  · intro h
    have hz : 0 ≤ z ∧ z < (8 : Nat) := h.elim (a1 z) (b1 z)
    refine ⟨z.toNat, by omega, ?_, by omega⟩
    rw [show ((z.toNat : Nat) : Int) = z by omega]
    simpa [EG.hasB] using h
  · rintro ⟨i, _, h2, rfl⟩; simpa [EG.hasB] using h2
theorem rises_len {n : Nat} {a : List Int} (h : EG.rises n a = true) : a.length ≤ n := up_len n a ((rises_iff n a).1 h).2 ((rises_iff n a).1 h).1
theorem rises_long {n : Nat} {a : List Int} (h : n < a.length) : EG.rises n a = false := by
  cases c : EG.rises n a with
  | false => rfl
  | true => have := rises_len c; omega
end GP
end Go.Proofs.Ytpdmbobcbehilaa
