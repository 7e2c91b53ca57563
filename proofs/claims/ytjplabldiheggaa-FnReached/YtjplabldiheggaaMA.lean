import Derived.Test.YtjplabldiheggaaMP1
import Derived.Test.YtjplabldiheggaaM3
import Derived.Deep.MidRow
import Derived.Deep.WholeRow
import Derived.ChangeKeysEq
import Derived.Below
import Derived.WalkKit
import Derived.Laws.ResultCell
/- Piles of pieces (chapter 4): the program's sheet and the specification's pairs come to the same. Plain facts, no program is named here. -/
namespace Go.Proofs.Ytjplabldiheggaa
namespace PL
open MP
/-- All of the first n. -/
def upto (f : Nat → Bool) (n : Nat) : Bool := (List.range n).all f
theorem upto_iff {f : Nat → Bool} {n : Nat} : upto f n = true ↔ ∀ i, i < n → f i = true := by simp [upto, List.all_eq_true]
theorem upto_no {f : Nat → Bool} {n i : Nat} (hi : i < n) (h : f i = false) : upto f n = false := by
  cases e : upto f n with
  | false => rfl
  | true => rw [upto_iff.1 e i hi] at h; cases h
theorem upto_succ {f : Nat → Bool} {n : Nat} (h : upto f n = true) (h' : f n = true) : upto f (n + 1) = true :=
  upto_iff.2 fun i hi => if e : i = n then e ▸ h' else upto_iff.1 h i (by omega)
theorem upto_zero (f : Nat → Bool) : upto f 0 = true := by simp [upto]
/-- A good piece. -/
def pg (b : Bd) : Bool := B1.good b && decide (b.tl ≠ 0)
/-- Of one bundle. -/
def one (a b : Bd) : Bool := decide (a.fr = b.fr) && decide (a.to = b.to) && decide (a.gr = b.gr) && decide (a.md = b.md) && decide (a.no = b.no) && decide (a.lf = b.lf) && decide (a.tl = b.tl)
theorem one_iff {a b : Bd} : one a b = true ↔ a.fr = b.fr ∧ a.to = b.to ∧ a.gr = b.gr ∧ a.md = b.md ∧ a.no = b.no ∧ a.lf = b.lf ∧ a.tl = b.tl := by
  simp [one, and_assoc]
theorem one_refl (a : Bd) : one a a = true := one_iff.2 ⟨rfl, rfl, rfl, rfl, rfl, rfl, rfl⟩
theorem one_trans {a b c : Bd} (h : one a b = true) (h' : one b c = true) : one a c = true := by
  rw [one_iff] at *
  obtain ⟨h1, h2, h3, h4, h5, h6, h7⟩ := h
  obtain ⟨g1, g2, g3, g4, g5, g6, g7⟩ := h'
  exact ⟨h1.trans g1, h2.trans g2, h3.trans g3, h4.trans g4, h5.trans g5, h6.trans g6, h7.trans g7⟩
theorem one_symm {a b : Bd} (h : one a b = true) : one b a = true := by
  rw [one_iff] at *
  obtain ⟨h1, h2, h3, h4, h5, h6, h7⟩ := h
  exact ⟨h1.symm, h2.symm, h3.symm, h4.symm, h5.symm, h6.symm, h7.symm⟩
/-- By offset, then by length. -/
def ahead (a b : Bd) : Bool := decide (a.of < b.of) || (decide (a.of = b.of) && decide (a.py.size < b.py.size))
/-- The place p is of the piece b. -/
def inn (b : Bd) (p : Nat) : Bool := decide (b.of ≤ (p : Int)) && decide ((p : Int) < b.of + b.py.size)
theorem inn_iff {b : Bd} {p : Nat} : inn b p = true ↔ b.of ≤ (p : Int) ∧ (p : Int) < b.of + b.py.size := by simp [inn]
/-- Its byte there. -/
def val (b : Bd) (p : Nat) : Nat := M3.gb b.py ((p : Int) - b.of).toNat
theorem val_lt (b : Bd) (p : Nat) : val b p < 256 := M3.gb_lt _ _
theorem pg_is {b : Bd} (h : pg b = true) : B1.good b = true ∧ 1 ≤ b.tl ∧ b.tl ≤ 60 ∧ 0 ≤ b.of ∧ 1 ≤ b.py.size ∧ b.of + b.py.size ≤ b.tl := by
  simp only [pg, Bool.and_eq_true, decide_eq_true_eq] at h
  obtain ⟨h1, h2⟩ := h
  refine ⟨h1, ?_⟩
  have h3 := h1
  unfold B1.good at h3
  rw [B1.placed_spec] at h3
  simp [inB] at h3
  omega
theorem inn_lt {b : Bd} {p : Nat} (h : pg b = true) (h' : inn b p = true) : (p : Int) < b.tl ∧ p < 60 := by
  have := pg_is h
  have := inn_iff.1 h'
  omega
/-- The i-th byte of a is that of b, where b has one there. -/
def agrAt (a b : Bd) (i : Nat) : Bool := !(decide (0 ≤ a.of + (i : Int) - b.of) && decide (a.of + (i : Int) - b.of < b.py.size)) || decide (M3.gb a.py i = M3.gb b.py (a.of + (i : Int) - b.of).toNat)
def agr (a b : Bd) : Bool := upto (agrAt a b) a.py.size
theorem agr_iff {a b : Bd} (ha : 0 ≤ a.of) : agr a b = true ↔ ∀ p, inn a p = true → inn b p = true → val a p = val b p := by
  unfold agr
  rw [upto_iff]
  constructor
  · intro h p h1 h2
    rw [inn_iff] at h1 h2
    have := h (p - a.of.toNat) (by omega)
    simp only [agrAt, Bool.or_eq_true, Bool.not_eq_true', Bool.and_eq_false_iff, decide_eq_false_iff_not, decide_eq_true_eq] at this
    have e : a.of + ((p - a.of.toNat : Nat) : Int) - b.of = (p : Int) - b.of := by omega
    have e2 : p - a.of.toNat = ((p : Int) - a.of).toNat := by omega
    rw [e, e2] at this
    rcases this with this | this
    · omega
    · exact this
  · intro h i hi
    simp only [agrAt, Bool.or_eq_true, Bool.not_eq_true', Bool.and_eq_false_iff, decide_eq_false_iff_not, decide_eq_true_eq]
    by_cases hc : 0 ≤ a.of + (i : Int) - b.of ∧ a.of + (i : Int) - b.of < b.py.size
    · right
      have := h (a.of.toNat + i) (inn_iff.2 (by omega)) (inn_iff.2 (by omega))
      unfold val at this
      have e1 : (((a.of.toNat + i : Nat) : Int) - a.of).toNat = i := by omega
      have e2 : (((a.of.toNat + i : Nat) : Int) - b.of) = a.of + (i : Int) - b.of := by omega
      rwa [e1, e2] at this
    · left; omega
/-- What the specification asks of the i-th piece. -/
def stepS (xs : List Bd) (i : Nat) : Bool := pg (at_ xs i) && one (at_ xs i) (at_ xs 0) && (decide (i = 0) || ahead (at_ xs (i - 1)) (at_ xs i)) && upto (fun j => agr (at_ xs i) (at_ xs j)) i
/-- A good pile. -/
def good (xs : List Bd) : Bool := upto (stepS xs) xs.length && decide (xs.length ≤ 60)
/-- As much of a payload as pieces tell. -/
structure Sh where
  th : Nat → Bool
  by_ : Nat → Nat
def blank : Sh := ⟨fun _ => false, fun _ => 0⟩
def lay (s : Sh) (b : Bd) : Sh := ⟨fun p => s.th p || inn b p, fun p => if inn b p = true then val b p else s.by_ p⟩
def fitAt (s : Sh) (b : Bd) (p : Nat) : Bool := !(s.th p) || decide ((lay s b).by_ p = s.by_ p)
def fits (s : Sh) (b : Bd) : Bool := upto (fitAt s b) 60
/-- The sheet of the first k pieces. -/
def sh (xs : List Bd) (k : Nat) : Sh := (xs.take k).foldl lay blank
theorem sh_zero (xs : List Bd) : sh xs 0 = blank := rfl
theorem sh_succ (xs : List Bd) (k : Nat) (h : k < xs.length) : sh xs (k + 1) = lay (sh xs k) (at_ xs k) := by
  unfold sh
  rw [List.take_succ_eq_append_getElem h, List.foldl_append, at_eq xs k h]
  rfl
/-- What the program asks of the i-th piece. -/
def stepI (xs : List Bd) (i : Nat) : Bool := pg (at_ xs i) && (decide (i = 0) || (one (at_ xs (i - 1)) (at_ xs i) && ahead (at_ xs (i - 1)) (at_ xs i))) && fits (sh xs i) (at_ xs i)
def Inv (xs : List Bd) (n : Nat) : Prop := (∀ p, (sh xs n).th p = true ↔ ∃ j, j < n ∧ inn (at_ xs j) p = true) ∧ (∀ j, j < n → ∀ p, inn (at_ xs j) p = true → (sh xs n).by_ p = val (at_ xs j) p) ∧ (∀ j, j < n → one (at_ xs j) (at_ xs 0) = true) ∧ (∀ j, j < n → pg (at_ xs j) = true)
theorem fits_iff {xs : List Bd} {n : Nat} (hI : Inv xs n) (hp : pg (at_ xs n) = true) : fits (sh xs n) (at_ xs n) = true ↔ upto (fun j => agr (at_ xs n) (at_ xs j)) n = true := by
  obtain ⟨h1, h2, _, h4⟩ := hI
  unfold fits
  rw [upto_iff, upto_iff]
  constructor
  · intro h j hj
    rw [agr_iff (pg_is hp).2.2.2.1]
    intro p hp1 hp2
    have := h p (inn_lt hp hp1).2
    simp only [fitAt, Bool.or_eq_true, Bool.not_eq_true', decide_eq_true_eq] at this
    simp only [lay, hp1, if_true] at this
    rcases this with this | this
    · rw [(h1 p).2 ⟨j, hj, hp2⟩] at this; cases this
    · rw [this, h2 j hj p hp2]
  · intro h p _
    simp only [fitAt, Bool.or_eq_true, Bool.not_eq_true', decide_eq_true_eq]
    simp only [lay]
    cases ht : (sh xs n).th p with
    | false => exact .inl rfl
    | true =>
      right
      obtain ⟨j, hj, hin⟩ := (h1 p).1 ht
      by_cases hi : inn (at_ xs n) p = true
      · rw [if_pos hi, h2 j hj p hin]
        exact (agr_iff (pg_is hp).2.2.2.1).1 (h j hj) p hi hin
      · rw [if_neg hi]
theorem step_same {xs : List Bd} {n : Nat} (hI : Inv xs n) : stepI xs n = stepS xs n := by
  unfold stepI stepS
  cases hp : pg (at_ xs n) with
  | false => simp
  | true =>
    have hf : fits (sh xs n) (at_ xs n) = upto (fun j => agr (at_ xs n) (at_ xs j)) n := Bool.eq_iff_iff.2 (fits_iff hI hp)
    rw [hf]
    by_cases h0 : n = 0
    · subst h0
      simp [one_refl]
    · have e : one (at_ xs (n - 1)) (at_ xs n) = one (at_ xs n) (at_ xs 0) := by
        have h3 := hI.2.2.1 (n - 1) (by omega)
        rw [Bool.eq_iff_iff]
        exact ⟨fun h => one_trans (one_symm h) h3, fun h => one_trans h3 (one_symm h)⟩
      simp [h0, e, Bool.and_assoc]
theorem inv_zero (xs : List Bd) : Inv xs 0 := ⟨fun p => by simp [sh_zero, blank], fun j hj => by omega, fun j hj => by omega, fun j hj => by omega⟩
theorem inv_succ {xs : List Bd} {n : Nat} (hn : n < xs.length) (hI : Inv xs n) (hs : stepS xs n = true) : Inv xs (n + 1) := by
  obtain ⟨h1, h2, h3, h4⟩ := hI
  simp only [stepS, Bool.and_eq_true] at hs
  obtain ⟨⟨⟨s1, s2⟩, _⟩, s4⟩ := hs
  refine ⟨fun p => ?_, fun j hj p hp => ?_, fun j hj => ?_, fun j hj => ?_⟩
  · rw [sh_succ xs n hn]
    simp only [lay, Bool.or_eq_true, h1]
    constructor
    · rintro (⟨j, hj, h⟩ | h)
      · exact ⟨j, by omega, h⟩
      · exact ⟨n, by omega, h⟩
    · rintro ⟨j, hj, h⟩
      by_cases e : j = n
      · subst e; exact .inr h
      · exact .inl ⟨j, by omega, h⟩
  · rw [sh_succ xs n hn]
    simp only [lay]
    by_cases hi : inn (at_ xs n) p = true
    · rw [if_pos hi]
      by_cases e : j = n
      · subst e; rfl
      · exact (agr_iff (pg_is s1).2.2.2.1).1 (upto_iff.1 s4 j (by omega)) p hi hp
    · rw [if_neg hi]
      by_cases e : j = n
      · subst e; exact absurd hp hi
      · exact h2 j (by omega) p hp
  · by_cases e : j = n
    · subst e; exact s2
    · exact h3 j (by omega)
  · by_cases e : j = n
    · subst e; exact s1
    · exact h4 j (by omega)
theorem inv_upto {xs : List Bd} (n : Nat) (hn : n ≤ xs.length) (h : upto (stepS xs) n = true) : Inv xs n := by
  induction n with
  | zero => exact inv_zero xs
  | succ n ih => exact inv_succ (by omega) (ih (by omega) (upto_iff.2 fun i hi => upto_iff.1 h i (by omega))) (upto_iff.1 h n (by omega))
theorem upto_same {xs : List Bd} (n : Nat) (hn : n ≤ xs.length) : upto (stepI xs) n = upto (stepS xs) n := by
  induction n with
  | zero => rfl
  | succ n ih =>
    have ih := ih (by omega)
    cases h : upto (stepS xs) n with
    | false =>
      have a1 : upto (stepS xs) (n + 1) = false := by
        cases e : upto (stepS xs) (n + 1) with
        | false => rfl
        | true => rw [upto_iff.2 fun i hi => upto_iff.1 e i (by omega)] at h; cases h
      have a2 : upto (stepI xs) (n + 1) = false := by
        cases e : upto (stepI xs) (n + 1) with
        | false => rfl
        | true => rw [h, upto_iff.2 fun i hi => upto_iff.1 e i (by omega)] at ih; cases ih
      rw [a1, a2]
    | true =>
      have e := step_same (inv_upto n (by omega) h)
      cases h' : stepS xs n with
      | true => rw [upto_succ h h', upto_succ (ih.trans h) (e.trans h')]
      | false => rw [upto_no (Nat.lt_succ_self n) h', upto_no (Nat.lt_succ_self n) (e.trans h')]
/-- A pile is good just where its pieces can be laid on one sheet. -/
theorem good_same (xs : List Bd) : (decide (xs.length ≤ 60) && upto (stepI xs) xs.length) = good xs := by
  rw [upto_same xs.length (Nat.le_refl _), good, Bool.and_comm]
theorem good_inv {xs : List Bd} (h : good xs = true) : Inv xs xs.length ∧ xs.length ≤ 60 := by
  simp only [good, Bool.and_eq_true, decide_eq_true_eq] at h
  exact ⟨inv_upto _ (Nat.le_refl _) h.1, h.2⟩
/-- How many bytes the bundle has that the pile is of. -/
def total (xs : List Bd) : Nat := if xs = [] then 0 else (at_ xs 0).tl.toNat
theorem total_le {xs : List Bd} (h : good xs = true) : total xs ≤ 60 := by
  unfold total
  split
  · omega
  · rename_i hne
    have := pg_is ((good_inv h).1.2.2.2 0 (by cases xs with | nil => exact absurd rfl hne | cons a l => simp))
    omega
/-- What lies on the sheet lies within the bundle. -/
theorem th_lt {xs : List Bd} (h : good xs = true) {p : Nat} (hp : (sh xs xs.length).th p = true) : p < total xs := by
  obtain ⟨h1, h2, h3, h4⟩ := (good_inv h).1
  obtain ⟨j, hj, hin⟩ := (h1 p).1 hp
  have hne : xs ≠ [] := by rintro rfl; simp at hj
  have := inn_lt (h4 j hj) hin
  have e := (one_iff.1 (h3 j hj)).2.2.2.2.2.2
  unfold total
  rw [if_neg hne]
  omega
/-- The places that are there, of the first n. -/
def places (s : Sh) (n : Nat) : List Nat := (List.range n).filter s.th
theorem places_succ (s : Sh) (n : Nat) : places s (n + 1) = places s n ++ (if s.th n = true then [n] else []) := by
  unfold places
  rw [List.range_succ, List.filter_append]
  congr 1
  cases h : s.th n <;> simp [h]
theorem places_len (s : Sh) (n : Nat) : (places s n).length ≤ n := by
  have := List.length_filter_le s.th (List.range n)
  simpa [places] using this
theorem places_more {s : Sh} {n : Nat} (h : ∀ p, n ≤ p → s.th p = false) (k : Nat) : places s (n + k) = places s n := by
  induction k with
  | zero => rfl
  | succ k ih => rw [← Nat.add_assoc, places_succ, ih, h (n + k) (by omega)]; simp
theorem places_good {xs : List Bd} (h : good xs = true) : places (sh xs xs.length) 60 = places (sh xs xs.length) (total xs) := by
  have := total_le h
  have e : 60 = total xs + (60 - total xs) := by omega
  rw [e]
  exact places_more (fun p hp => by
    cases ht : (sh xs xs.length).th p with
    | false => rfl
    | true => have := th_lt h ht; omega) _
/-- What Covered answers. -/
def cov (xs : List Bd) : List Int := if good xs = true then (places (sh xs xs.length) 60).map Int.ofNat else []
/-- What MissingIn answers. -/
def miss (xs : List Bd) : Int := if good xs = true then (total xs : Int) - (places (sh xs xs.length) 60).length else 0
end PL
end Go.Proofs.Ytjplabldiheggaa

/- Arrays of sixty cells by value, out of and into memory: plain laws, over whatever program. -/
namespace Go.Proofs.Ytjplabldiheggaa
namespace MA
open Go.RowKit
theorem sz_alloc (w : World) (o : Obj) : (w.alloc o).heap.size = w.heap.size + 1 := by simp
theorem setCells_size (k : Nat) : ∀ (vs : List Value) (o : Nat) (w : World), (w.setCells k o vs).heap.size = w.heap.size
  | [], _, _ => rfl
  | v :: r, o, w => by
    show ((w.setCell ⟨k, o, none⟩ v).setCells k (o + 1) r).heap.size = _
    rw [setCells_size k r (o + 1)]; simp
/-- The cells cs lie in block k from o on, and may be written. -/
structure Rg (w : World) (k o : Nat) (cs : List Value) : Prop where
  lt : k < w.heap.size
  rng : w.rangeAt k o cs
  ok : w.there k o cs.length
theorem Rg.below {w w' : World} {k o B : Nat} {cs : List Value} (h : Rg w k o cs) (hb : Below B w w') (hk : k < B) : Rg w' k o cs := by
  obtain ⟨h0, h1, h2⟩ := h
  refine ⟨Nat.lt_of_lt_of_le h0 hb.size, fun j v hv => (hb.cell (p := ⟨k, o + j, none⟩) hk).trans (h1 j v hv), fun j hj => ?_⟩
  obtain ⟨q1, q2⟩ := h2 j hj
  exact ⟨by rw [hb.cell (p := ⟨k, o + j, none⟩) hk]; exact q1, by rw [hb.frozen (p := ⟨k, o + j, none⟩) hk]; exact q2⟩
theorem Rg.alloc {w : World} {k o : Nat} {cs : List Value} (h : Rg w k o cs) (ob : Obj) : Rg (w.alloc ob) k o cs := by
  refine h.below ((Below.refl _ w).alloc (Nat.le_refl _) ob) h.1
theorem Rg.drew {w : World} {k o : Nat} {cs : List Value} (h : Rg w k o cs) : Rg w.drew k o cs := h.below (Below.refl _ w).drew h.1
theorem Rg.new (w : World) (cs : List Value) (t : TypeId) : Rg (w.alloc (.cells cs.toArray t)) w.heap.size 0 cs := by
  have hb : (w.alloc (.cells cs.toArray t)).heap[w.heap.size]? = some (.cells cs.toArray t) := heap_alloc_last w _
  refine ⟨by simp, fun j v hv => ?_, fun j hj => ⟨?_, ?_⟩⟩
  · rw [Nat.zero_add, cell_of_row _ _ j _ t (0, 0) hb]
    simpa using hv
  · rw [Nat.zero_add, cell_of_row _ _ j _ t (0, 0) hb]
    simp [hj]
  · unfold World.frozen?
    rw [hb]
    simp
theorem Rg.new' (w : World) (cs : List Value) (t : TypeId) (k : Nat) (hk : k = w.heap.size) : Rg (w.alloc (.cells cs.toArray t)) k 0 cs := hk ▸ Rg.new w cs t
theorem Rg.app {w : World} {k o : Nat} {xs ys : List Value} (h : Rg w k o (xs ++ ys)) : Rg w k o xs ∧ Rg w k (o + xs.length) ys := by
  obtain ⟨h0, h1, h2⟩ := h
  refine ⟨⟨h0, fun j v hv => h1 j v ?_, fun j hj => h2 j (by simp; omega)⟩, ⟨h0, fun j v hv => ?_, fun j hj => ?_⟩⟩
  · rw [List.getElem?_append_left (List.getElem?_eq_some_iff.1 hv).1]; exact hv
  · rw [Nat.add_assoc]
    refine h1 (xs.length + j) v ?_
    rw [List.getElem?_append_right (by omega)]
    simpa using hv
  · rw [Nat.add_assoc]
    exact h2 (xs.length + j) (by simp; omega)
theorem Rg.join {w : World} {k o : Nat} {xs ys : List Value} (h : Rg w k o xs) (h' : Rg w k (o + xs.length) ys) : Rg w k o (xs ++ ys) := by
  obtain ⟨h0, h1, h2⟩ := h
  obtain ⟨_, g1, g2⟩ := h'
  refine ⟨h0, fun j v hv => ?_, fun j hj => ?_⟩
  · by_cases hj : j < xs.length
    · rw [List.getElem?_append_left hj] at hv; exact h1 j v hv
    · rw [List.getElem?_append_right (by omega)] at hv
      have := g1 _ v hv
      rwa [Nat.add_assoc, show xs.length + (j - xs.length) = j from by omega] at this
  · by_cases hj' : j < xs.length
    · exact h2 j hj'
    · have := g2 (j - xs.length) (by simp at hj; omega)
      rwa [Nat.add_assoc, show xs.length + (j - xs.length) = j from by omega] at this
theorem Rg.other {w : World} {k k' o o' : Nat} {cs vs : List Value} (h : Rg w k o cs) (hap : k ≠ k' ∨ o + cs.length ≤ o' ∨ o' + vs.length ≤ o) : Rg (w.setCells k' o' vs) k o cs :=
  ⟨by have := setCells_size k' vs o' w; have := h.1; omega, World.rangeAt_setCells_apart h.rng k' o' vs hap, World.there_setCells h.ok k' o' vs⟩
theorem Rg.put {w : World} {k o : Nat} {cs vs : List Value} (h : Rg w k o cs) (hl : vs.length = cs.length) : Rg (w.setCells k o vs) k o vs :=
  ⟨by have := setCells_size k vs o w; have := h.1; omega, World.rangeAt_setCells_same w k o vs (hl ▸ h.ok), World.there_setCells (hl ▸ h.ok) k o vs⟩
theorem Rg.put1 {w : World} {k o : Nat} {cs : List Value} (h : Rg w k o cs) {j : Nat} (hj : j < cs.length) (v : Value) : Rg (w.setCell ⟨k, o + j, none⟩ v) k o (cs.set j v) := by
  have e : cs.set j v = cs.take j ++ ([v] ++ cs.drop (j + 1)) := by rw [List.set_eq_take_append_cons_drop, if_pos hj]; rfl
  have e0 : cs = cs.take j ++ ([cs[j]] ++ cs.drop (j + 1)) := by simp
  have hl : (cs.take j).length = j := by simp; omega
  have h' := h
  rw [e0] at h'
  obtain ⟨a1, a2⟩ := h'.app
  obtain ⟨a2, a3⟩ := a2.app
  rw [hl] at a2 a3
  have r2 := a2.put (vs := [v]) rfl
  have r1 := a1.other (k' := k) (o' := o + j) (vs := [v]) (.inr (.inl (by rw [hl]; omega)))
  have r3 := a3.other (k' := k) (o' := o + j) (vs := [v]) (.inr (.inr (by simp)))
  rw [e]
  exact r1.join (by rw [hl]; exact r2.join r3)
/-- Some cells in the midst. -/
theorem Rg.mid {w : World} {k o : Nat} {cs vs : List Value} (h : Rg w k o cs) {p : Nat} (hp : p + vs.length ≤ cs.length) : Rg (w.setCells k (o + p) vs) k o (cs.take p ++ (vs ++ cs.drop (p + vs.length))) := by
  have e0 : cs = cs.take p ++ ((cs.drop p).take vs.length ++ cs.drop (p + vs.length)) := by rw [← List.drop_drop, List.take_append_drop, List.take_append_drop]
  have hl : (cs.take p).length = p := by simp; omega
  have hm : ((cs.drop p).take vs.length).length = vs.length := by simp; omega
  have h' := h
  rw [e0] at h'
  obtain ⟨a1, a2⟩ := h'.app
  obtain ⟨a2, a3⟩ := a2.app
  rw [hl] at a2 a3
  rw [hm] at a3
  have r2 := a2.put (vs := vs) hm.symm
  have r1 := a1.other (k' := k) (o' := o + p) (vs := vs) (.inr (.inl (by rw [hl]; omega)))
  have r3 := a3.other (k' := k) (o' := o + p) (vs := vs) (.inr (.inr (by omega)))
  exact r1.join (by rw [hl]; exact r2.join r3)
theorem Rg.cell {w : World} {k o : Nat} {cs : List Value} (h : Rg w k o cs) {j : Nat} {v : Value} (hv : cs[j]? = some v) : w.cell? ⟨k, o + j, none⟩ = some v := h.rng j v hv
theorem Rg.free {w : World} {k o : Nat} {cs : List Value} (h : Rg w k o cs) {j : Nat} (hj : j < cs.length) : w.frozen? ⟨k, o + j, none⟩ = false := (h.ok j hj).2
theorem below_cells {B b : Nat} {a : World} (hb : B ≤ b) : ∀ (vs : List Value) (o : Nat) (w : World), Below B a w → Below B a (w.setCells b o vs)
  | [], _, _, h => h
  | v :: r, o, w, h => below_cells hb r (o + 1) _ (h.setCell (by exact hb) v)
/-- Sixty marks, sixty bytes. -/
def tF (f : Nat → Bool) : List Value := (List.range 60).map fun p => .bool (f p)
def yF (g : Nat → Nat) : List Value := (List.range 60).map fun p => .int .u8 (g p : Int)
def sF (s : PL.Sh) : List Value := tF s.th ++ yF s.by_
theorem tF_len (f : Nat → Bool) : (tF f).length = 60 := by simp [tF]
theorem yF_len (g : Nat → Nat) : (yF g).length = 60 := by simp [yF]
theorem sF_len (s : PL.Sh) : (sF s).length = 120 := by simp [sF, tF_len, yF_len]
theorem tF_get (f : Nat → Bool) {p : Nat} (h : p < 60) : (tF f)[p]? = some (.bool (f p)) := by simp [tF, h]
theorem yF_get (g : Nat → Nat) {p : Nat} (h : p < 60) : (yF g)[p]? = some (.int .u8 (g p : Int)) := by simp [yF, h]
theorem tF_ext {f f' : Nat → Bool} (h : ∀ p, p < 60 → f p = f' p) : tF f = tF f' := by
  unfold tF; apply List.map_congr_left; intro p hp; rw [h p (by simpa using hp)]
theorem yF_ext {g g' : Nat → Nat} (h : ∀ p, p < 60 → g p = g' p) : yF g = yF g' := by
  unfold yF; apply List.map_congr_left; intro p hp; rw [h p (by simpa using hp)]
theorem range_set {α : Type} (n : Nat) (f : Nat → α) (j : Nat) (v : α) : ((List.range n).map f).set j v = (List.range n).map fun p => if p = j then v else f p := by
  apply List.ext_getElem?
  intro i
  rw [List.getElem?_set]
  by_cases hi : i < n
  · by_cases e : j = i
    · subst e; simp [hi]
    · have e' : ¬ i = j := fun h => e h.symm
      simp [hi, e, e']
  · simp [hi]; omega
theorem tF_set (f : Nat → Bool) (j : Nat) (b : Bool) : (tF f).set j (.bool b) = tF fun p => if p = j then b else f p := by
  unfold tF
  rw [range_set]
  apply List.map_congr_left; intro p _
  by_cases e : p = j <;> simp [e]
theorem yF_set (g : Nat → Nat) (j : Nat) (b : Nat) : (yF g).set j (.int .u8 (b : Int)) = yF fun p => if p = j then b else g p := by
  unfold yF
  rw [range_set]
  apply List.map_congr_left; intro p _
  by_cases e : p = j <;> simp [e]
/-- A text's bytes, put in the midst of sixty. -/
theorem yF_copy (g : Nat → Nat) (t : ByteArray) (o : Nat) (h : o + t.size ≤ 60) :
    (yF g).take o ++ ((t.data.toList.map fun x => Value.int .u8 (x.toNat : Int)) ++ (yF g).drop (o + t.size)) = yF fun p => if o ≤ p ∧ p < o + t.size then M3.gb t (p - o) else g p := by
  have hl : (t.data.toList.map fun x => Value.int .u8 (x.toNat : Int)).length = t.size := by simp
  have ht : ((yF g).take o).length = o := by rw [List.length_take, yF_len]; omega
  apply List.ext_getElem?
  intro i
  by_cases h1 : i < o
  · rw [List.getElem?_append_left (by omega), List.getElem?_take_of_lt h1, yF_get _ (by omega), yF_get _ (by omega), if_neg (by omega)]
  · rw [List.getElem?_append_right (by omega), ht]
    by_cases h2 : i < o + t.size
    · rw [List.getElem?_append_left (by omega), yF_get _ (by omega), if_pos (by omega)]
      have hi : i - o < t.size := by omega
      have hi2 : i - o < t.data.toList.length := by simpa using hi
      rw [List.getElem?_map, List.getElem?_eq_getElem hi2]
      simp [M3.gb, hi]
      rfl
    · rw [List.getElem?_append_right (by omega), hl, List.getElem?_drop]
      rw [show o + t.size + (i - o - t.size) = i from by omega]
      by_cases h3 : i < 60
      · rw [yF_get _ h3, yF_get _ h3, if_neg (by omega)]
      · rw [List.getElem?_eq_none (by rw [yF_len]; omega), List.getElem?_eq_none (by rw [yF_len]; omega)]
theorem tF_one (f : Nat → Bool) : ∀ v ∈ tF f, v.oneCell' = true := by
  intro v hv; obtain ⟨p, _, rfl⟩ := List.mem_map.1 hv; rfl
theorem yF_one (g : Nat → Nat) : ∀ v ∈ yF g, v.oneCell' = true := by
  intro v hv; obtain ⟨p, _, rfl⟩ := List.mem_map.1 hv; rfl
theorem Rg.sheet {w : World} {k o : Nat} {s : PL.Sh} (h : Rg w k o (sF s)) : Rg w k o (tF s.th) ∧ Rg w k (o + 60) (yF s.by_) := by
  have := h.app
  rwa [tF_len] at this
theorem Rg.sheet' {w : World} {k o : Nat} {s : PL.Sh} (h : Rg w k o (tF s.th)) (h' : Rg w k (o + 60) (yF s.by_)) : Rg w k o (sF s) := h.join (by rwa [tF_len])
theorem sF_one (s : PL.Sh) : ∀ v ∈ sF s, v.oneCell' = true := by
  intro v hv
  rcases List.mem_append.1 hv with h | h
  · exact tF_one _ v h
  · exact yF_one _ v h
section
variable {P : Program}
/-- A result that lies in cells. -/
theorem ret_cell {fn : Func} {p : Tmp} {ty : TypeId} {tmps : Array Value} {w : World} {v : Value} {k o : Nat} (h : fn.results = #[.cell p ty]) (hp : tmps.getD p undef = .pointer (some ⟨k, o, none⟩)) (hl : (loadVar ty ⟨k, o, none⟩).run P w = .ok v w) :
    (results fn tmps).run P w = .ok v w := by
  simp only [results, h]
  have e : ∀ d, tmps[p]?.getD d = tmps.getD p d := fun d => by simp [Array.getD_eq_getD_getElem?]
  simp [e, hp, asAddr, hl]
theorem ret_cell2 {fn : Func} {p u : Tmp} {ty : TypeId} {tmps : Array Value} {w : World} {v x : Value} {k o : Nat} (h : fn.results = #[.cell p ty, .tmp u]) (hp : tmps.getD p undef = .pointer (some ⟨k, o, none⟩)) (hu : tmps.getD u undef = x) (hl : (loadVar ty ⟨k, o, none⟩).run P w = .ok v w) :
    (results fn tmps).run P w = .ok (.tuple #[v, x]) w := by
  rw [results_cell_tmp h, hp, hu]
  simp [asAddr, hl]
theorem load_rg {w : World} {k o : Nat} {cs : List Value} {ty : TypeId} {d : TypeDesc} (h : Rg w k o cs) (hu : P.underlying ty = some d) (hd : d.isRow = true) {n : Nat} (hi : (P.info? ty).map (·.size) = some n) (hn : cs.length = n) : (loadVar ty ⟨k, o, none⟩).run P w = .ok (.agg cs.toArray) w :=
  run_loadVar_mid w k o ty cs d h.rng hu hd (hn ▸ hi)
/-- A new variable of many cells. -/
theorem alloc_z {ops : Array Oper} {rest : List Oper} {o : Oper} {a : Act} {w : World} {Q : Exit → Act → World → Prop} (hg : o.guard = none) (t : TypeId) (ho : o.op = .alloc t) (cs : List Value) (n : Nat)
    (hz : (P.info? t).map (fun i => (i.zero, i.size)) = some (some (.agg cs.toArray), n))
    (h : wpList P ops Q rest (a.put o.dst (.pointer (some ⟨w.heap.size, 0, none⟩))) (w.alloc (.cells cs.toArray t))) : wpList P ops Q (o :: rest) a w := by
  refine wpList_plain hg fun K hK => ?_
  have hrun : (execOp a.eval o).run P w = .ok (.value (.pointer (some ⟨w.heap.size, 0, none⟩))) (w.alloc (.cells cs.toArray t)) := by
    unfold execOp
    rw [ho]
    simp [Instr.alloc, (zero_of_info hz).1, newVar, Value.cells, go_sem]
  unfold Oper.wp
  rw [hrun, Oper.upon_value]
  exact hK _ _ h
theorem load_m {ops : Array Oper} {rest : List Oper} {op : Oper} {a : Act} {w : World} {Q : Exit → Act → World → Prop} (hgd : op.guard = none) (ty : TypeId) (x : Operand) (ho : op.op = .load ty x)
    {b o : Nat} (hx : a.eval x = .pointer (some ⟨b, o, none⟩)) {cs : List Value} {d : TypeDesc} (hc : Rg w b o cs)
    (hu : P.underlying ty = some d) (hd : d.isRow = true) {n : Nat} (hi : (P.info? ty).map (·.size) = some n) (hn : cs.length = n)
    (h : wpList P ops Q rest (a.put op.dst (.agg cs.toArray)) w) : wpList P ops Q (op :: rest) a w :=
  wpList_load_mid hgd ty x ho b o hx cs d hc.rng hu hd (hn ▸ hi) h
theorem load_r {ops : Array Oper} {rest : List Oper} {op : Oper} {a : Act} {w : World} {Q : Exit → Act → World → Prop} (hgd : op.guard = none) (ty : TypeId) (x : Operand) (ho : op.op = .load ty x)
    {b o : Nat} (hx : a.eval x = .pointer (some ⟨b, o, none⟩)) {cs : List Value} {d : TypeDesc} (hc : w.rangeAt b o cs)
    (hu : P.underlying ty = some d) (hd : d.isRow = true) {n : Nat} (hi : (P.info? ty).map (·.size) = some n) (hn : cs.length = n)
    (h : wpList P ops Q rest (a.put op.dst (.agg cs.toArray)) w) : wpList P ops Q (op :: rest) a w :=
  wpList_load_mid hgd ty x ho b o hx cs d hc hu hd (hn ▸ hi) h
theorem build_m {ops : Array Oper} {rest : List Oper} {op : Oper} {a : Act} {w : World} {Q : Exit → Act → World → Prop} (hgd : op.guard = none) (ty : TypeId) {parts : Array (Nat × Operand)} (ho : op.op = .build ty parts)
    {cs : List Value} (hb : P.built ty (parts.map fun (i, x) => (i, a.eval x)).toList = some cs.toArray)
    (h : wpList P ops Q rest (a.put op.dst (.agg cs.toArray)) w) : wpList P ops Q (op :: rest) a w := by
  refine wpList_plain hgd fun K hK => ?_
  have hrun : (execOp a.eval op).run P w = .ok (.value (.agg cs.toArray)) w := by
    unfold execOp
    rw [ho]
    simp only [run_build w ty (parts.map fun (i, x) => (i, a.eval x)) cs.toArray hb, Sem.run_bind, Result.andThen_ok, Sem.run_pure]
  unfold Oper.wp
  rw [hrun, Oper.upon_value]
  exact hK _ _ h
theorem store_m {ops : Array Oper} {rest : List Oper} {op : Oper} {a : Act} {w : World} {Q : Exit → Act → World → Prop} (hgd : op.guard = none) (ty : TypeId) (x y : Operand) (ho : op.op = .store ty x y)
    {b o : Nat} {vs cs : List Value} (hx : a.eval x = .pointer (some ⟨b, o, none⟩)) (hy : a.eval y = .agg vs.toArray)
    (hc : Rg w b o cs) {n : Nat} (hi : (P.info? ty).map (·.size) = some n) (hn : cs.length = n) (hv : vs.length = n) (h1 : ∀ v ∈ vs, v.oneCell' = true)
    (h : wpList P ops Q rest (a.put op.dst undef) (w.setCells b o vs)) : wpList P ops Q (op :: rest) a w := by
  refine wpList_store_mid hgd ty x y ho b o vs.toArray hx hy ?_ ?_ (all_oneCell_toArray h1) ?_
  · simp only [List.size_toArray]; rw [hv, ← hn]; exact hc.ok
  · simp only [List.size_toArray]; rw [hv]; exact hi
  · simpa using h
/-- A cell of an array that is a value. -/
theorem run_index {w : World} {t e : TypeId} {n k : Nat} {cs : List Value} {v : Value} (hu : P.underlying t = some (.array n e)) (hag : ∀ w, (isAgg e).run P w = .ok false w) (hsz : ∀ w, (sizeOf e).run P w = .ok 1 w) (hk : k < n) (hv : cs[k]? = some v) :
    (Instr.index t (.agg cs.toArray) (.int .i64 (k : Int))).run P w = .ok v w := by
  have h1 : (0 : Int) ≤ (k : Int) ∧ (k : Int) < (n : Int) := by omega
  simp [Instr.index, asIntOf, run_underlying hu, h1, hsz, part, hag, hv]
  omega
/-- An array's cells from o on, as a slice. -/
theorem run_sliceArr {w : World} {t e : TypeId} {n o b f : Nat} (hu : P.underlying t = some (.array n e)) (hsz : ∀ w, (sizeOf e).run P w = .ok 1 w) (ho : o < n) :
    (Instr.sliceAt t (.pointer (some ⟨b, f, none⟩)) (some (.int .i64 (o : Int))) none none).run P w = .ok (.slice (some ⟨b, f + o, none⟩) (n - o) (n - o)) w := by
  have h1 : (0 : Int) ≤ (o : Int) := by omega
  have h2 : (o : Int) ≤ (n : Int) := by omega
  have h3 : ¬ (n = o) := by omega
  simp [Instr.sliceAt, run_underlying hu, Instr.sureAddr, Instr.sliceBounds, go_sem, h1, h2, h3, hsz, Addr.add_mid]
theorem ex_load {op : Oper} {a : Act} {w : World} {ty : TypeId} {x : Operand} {b o n : Nat} {cs : List Value} {d : TypeDesc} (ho : op.op = .load ty x) (hx : a.eval x = .pointer (some ⟨b, o, none⟩)) (hc : w.rangeAt b o cs)
    (hu : P.underlying ty = some d) (hd : d.isRow = true) (hi : (P.info? ty).map (·.size) = some n) (hn : cs.length = n) : (execOp a.eval op).run P w = .ok (.value (.agg cs.toArray)) w := by
  unfold execOp
  simp only [ho, hx, Instr.loadAt, Instr.sureAddr, Sem.run_bind, Sem.run_pure, Result.andThen_ok, run_loadVar_mid w b o ty cs d hc hu hd (hn ▸ hi)]
theorem ex_store {op : Oper} {a : Act} {w : World} {ty : TypeId} {x y : Operand} {b o n : Nat} {vs : List Value} (ho : op.op = .store ty x y) (hx : a.eval x = .pointer (some ⟨b, o, none⟩)) (hy : a.eval y = .agg vs.toArray) (ht : w.there b o n)
    (hi : (P.info? ty).map (·.size) = some n) (hn : vs.length = n) (h1 : ∀ v ∈ vs, v.oneCell' = true) : (execOp a.eval op).run P w = .ok .skip (w.setCells b o vs) := by
  unfold execOp
  simp only [ho, hx, hy, Instr.storeAt, Instr.sureAddr, Sem.run_bind, Sem.run_pure, Result.andThen_ok, run_storeVar_mid w b o ty vs.toArray (by simpa [hn] using ht) (by simpa [hn] using hi) (all_oneCell_toArray h1)]
theorem eqItems_run {w : World} {d : Nat} {e : TypeId} {xs ys : List Value} (hag : ∀ w, (isAgg e).run P w = .ok false w) (q : Nat → Bool) : ∀ is : List Nat, (∀ i ∈ is, ∃ x y, xs[i]? = some x ∧ ys[i]? = some y ∧ (Op.equalIn d e x y).run P w = .ok (q i) w) →
    (Op.eqItems d e 1 xs.toArray ys.toArray is).run P w = .ok (is.all q) w
  | [], _ => by simp [Op.eqItems]
  | i :: is, h => by
    obtain ⟨x, y, hx, hy, hq⟩ := h i (by simp)
    have ih := eqItems_run hag q is (fun j hj => h j (by simp [hj]))
    have p1 : (part e xs.toArray (i * 1)).run P w = .ok x w := by simp [part, Sem.run_bind, hag, hx]
    have p2 : (part e ys.toArray (i * 1)).run P w = .ok y w := by simp [part, Sem.run_bind, hag, hy]
    simp only [Op.eqItems, Sem.run_bind, p1, p2, hq, Result.andThen_ok]
    cases h' : q i <;> simp [h', ih]
theorem eql_arr {w : World} {t e : TypeId} {n : Nat} {i : TypeInfo} {xs ys : List Value} (hu : P.underlying t = some (.array n e)) (hi : P.info? e = some i) (hc : P.cellsOf e = 1) (hag : ∀ w, (isAgg e).run P w = .ok false w) (q : Nat → Bool)
    (h : ∀ i, i < n → ∃ x y, xs[i]? = some x ∧ ys[i]? = some y ∧ (Op.equalIn 9999 e x y).run P w = .ok (q i) w) :
    (binOp .eql t (.agg xs.toArray) (.agg ys.toArray)).run P w = .ok (.bool (PL.upto q n)) w := by
  rw [run_eql_struct, run_equalIn_array w 9999 xs.toArray ys.toArray hu hi, hc, eqItems_run hag q _ (fun i hi => h i (by simpa using hi))]
  rfl
end
theorem cs_one (x : Bd) : ∀ v ∈ x.cs, v.oneCell' = true := by
  intro v hv
  simp only [Bd.cs, List.mem_cons, List.not_mem_nil, or_false] at hv
  rcases hv with rfl | rfl | rfl | rfl | rfl | rfl | rfl | rfl | rfl | rfl <;> rfl
theorem Rg.bd {w : World} {k : Nat} {x : Bd} (h : Rg w k 0 x.cs) : BdAt w k x := by
  have c : ∀ j v, x.cs[j]? = some v → w.cell? ⟨k, j, none⟩ = some v := fun j v hv => by have := h.cell hv; rwa [Nat.zero_add] at this
  exact ⟨h.lt, c 0 _ rfl, c 1 _ rfl, c 2 _ rfl, c 3 _ rfl, c 4 _ rfl, c 5 _ rfl, c 6 _ rfl, c 7 _ rfl, c 8 _ rfl, c 9 _ rfl⟩
theorem range_of {w : World} {b o : Nat} {x : Bd} (h0 : w.cell? ⟨b, o, none⟩ = some (.int .i64 x.fr)) (h1 : w.cell? ⟨b, o + 1, none⟩ = some (.int .i64 x.to)) (h2 : w.cell? ⟨b, o + 2, none⟩ = some (.bool x.gr)) (h3 : w.cell? ⟨b, o + 3, none⟩ = some (.int .i64 x.md)) (h4 : w.cell? ⟨b, o + 4, none⟩ = some (.int .i64 x.no)) (h5 : w.cell? ⟨b, o + 5, none⟩ = some (.int .i64 x.lf)) (h6 : w.cell? ⟨b, o + 6, none⟩ = some (.int .i64 x.hp)) (h7 : w.cell? ⟨b, o + 7, none⟩ = some (.int .i64 x.of)) (h8 : w.cell? ⟨b, o + 8, none⟩ = some (.int .i64 x.tl)) (h9 : w.cell? ⟨b, o + 9, none⟩ = some (.string x.py)) : w.rangeAt b o x.cs := by
  intro j v hv
  match j, hv with
  | 0, hv => simp only [Bd.cs] at hv; cases hv; exact h0
  | 1, hv => simp only [Bd.cs] at hv; cases hv; exact h1
  | 2, hv => simp only [Bd.cs] at hv; cases hv; exact h2
  | 3, hv => simp only [Bd.cs] at hv; cases hv; exact h3
  | 4, hv => simp only [Bd.cs] at hv; cases hv; exact h4
  | 5, hv => simp only [Bd.cs] at hv; cases hv; exact h5
  | 6, hv => simp only [Bd.cs] at hv; cases hv; exact h6
  | 7, hv => simp only [Bd.cs] at hv; cases hv; exact h7
  | 8, hv => simp only [Bd.cs] at hv; cases hv; exact h8
  | 9, hv => simp only [Bd.cs] at hv; cases hv; exact h9
  | n + 10, hv => simp [Bd.cs] at hv
theorem row_range {w : World} {a : Option Addr} {xs : List Bd} (h : MP.BsAt w a xs) {k : Nat} (hk : k < xs.length) : ∃ b off, a = some ⟨b, off, none⟩ ∧ b < w.heap.size ∧ w.rangeAt b (off + k * 10) (MP.at_ xs k).cs := by
  obtain ⟨b, off, rfl, hlt, c0, c1, c2, c3, c4, c5, c6, c7, c8, c9⟩ := h.at hk
  exact ⟨b, off, rfl, hlt, range_of c0 c1 c2 c3 c4 c5 c6 c7 c8 c9⟩
theorem range_below {w w' : World} {b o B : Nat} {cs : List Value} (h : w.rangeAt b o cs) (hb : Below B w w') (hk : b < B) : w'.rangeAt b o cs := fun j v hv => (hb.cell (p := ⟨b, o + j, none⟩) hk).trans (h j v hv)
end MA
end Go.Proofs.Ytjplabldiheggaa
