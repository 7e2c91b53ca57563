/- Piles of pieces (chapter 4): the program's sheet and the specification's pairs come to the same. Plain facts, no program is named here. -/
import Derived.Test.YtdgflhgbcfehhaaMP1
import Derived.Test.YtdgflhgbcfehhaaM3
namespace Go.Proofs.Ytdgflhgbcfehhaa
namespace PL
open MP
/-- All of the first n. -/
def upto (f : Nat → Bool) (n : Nat) : Bool := (List.range n).all f
theorem upto_iff {f : Nat → Bool} {n : Nat} : upto f n = true ↔ ∀ i, i < n → f i = true := by simp [upto, List.all_eq_true]
theorem upto_no {f : Nat → Bool} {n i : Nat} (hi : i < n) (h : f i = false) : upto f n = false := by
  cases e : upto f n with
  | false => rfl
  | true => rw [upto_iff.1 e i hi] at h; cases h
theorem upto_succ {f : Nat → Bool} {n : Nat} (h : upto f n = true) (h' : f n = true) : upto f (n + 1) = true :=
  upto_iff.2 fun i hi => if e : i = n then e ▸ h' else upto_iff.1 h i (by omega)
theorem upto_zero (f : Nat → Bool) : upto f 0 = true := by simp [upto]
/-- A good piece. -/
def pg (b : Bd) : Bool := B1.good b && decide (b.tl ≠ 0)
/-- Of one bundle. -/
def one (a b : Bd) : Bool := decide (a.fr = b.fr) && decide (a.to = b.to) && decide (a.gr = b.gr) && decide (a.md = b.md) && decide (a.no = b.no) && decide (a.lf = b.lf) && decide (a.tl = b.tl)
theorem one_iff {a b : Bd} : one a b = true ↔ a.fr = b.fr ∧ a.to = b.to ∧ a.gr = b.gr ∧ a.md = b.md ∧ a.no = b.no ∧ a.lf = b.lf ∧ a.tl = b.tl := by
  simp [one, and_assoc]
theorem one_refl (a : Bd) : one a a = true := one_iff.2 ⟨rfl, rfl, rfl, rfl, rfl, rfl, rfl⟩
theorem one_trans {a b c : Bd} (h : one a b = true) (h' : one b c = true) : one a c = true := by
  rw [one_iff] at *
  obtain ⟨h1, h2, h3, h4, h5, h6, h7⟩ := h
  obtain ⟨g1, g2, g3, g4, g5, g6, g7⟩ := h'
  exact ⟨h1.trans g1, h2.trans g2, h3.trans g3, h4.trans g4, h5.trans g5, h6.trans g6, h7.trans g7⟩
theorem one_symm {a b : Bd} (h : one a b = true) : one b a = true := by
  rw [one_iff] at *
  obtain ⟨h1, h2, h3, h4, h5, h6, h7⟩ := h
  exact ⟨h1.symm, h2.symm, h3.symm, h4.symm, h5.symm, h6.symm, h7.symm⟩
/-- By offset, then by length. -/
def ahead (a b : Bd) : Bool := decide (a.of < b.of) || (decide (a.of = b.of) && decide (a.py.size < b.py.size))
/-- The place p is of the piece b. -/
def inn (b : Bd) (p : Nat) : Bool := decide (b.of ≤ (p : Int)) && decide ((p : Int) < b.of + b.py.size)
theorem inn_iff {b : Bd} {p : Nat} : inn b p = true ↔ b.of ≤ (p : Int) ∧ (p : Int) < b.of + b.py.size := by simp [inn]
/-- Its byte there. -/
def val (b : Bd) (p : Nat) : Nat := M3.gb b.py ((p : Int) - b.of).toNat
theorem val_lt (b : Bd) (p : Nat) : val b p < 256 := M3.gb_lt _ _
theorem pg_is {b : Bd} (h : pg b = true) : B1.good b = true ∧ 1 ≤ b.tl ∧ b.tl ≤ 60 ∧ 0 ≤ b.of ∧ 1 ≤ b.py.size ∧ b.of + b.py.size ≤ b.tl := by
  simp only [pg, Bool.and_eq_true, decide_eq_true_eq] at h
  obtain ⟨h1, h2⟩ := h
  refine ⟨h1, ?_⟩
  have h3 := h1
  unfold B1.good at h3
  rw [B1.placed_spec] at h3
  simp [inB] at h3
  omega
theorem inn_lt {b : Bd} {p : Nat} (h : pg b = true) (h' : inn b p = true) : (p : Int) < b.tl ∧ p < 60 := by
  have := pg_is h
  have := inn_iff.1 h'
  omega
/-- The i-th byte of a is that of b, where b has one there. -/
def agrAt (a b : Bd) (i : Nat) : Bool := !(decide (0 ≤ a.of + (i : Int) - b.of) && decide (a.of + (i : Int) - b.of < b.py.size)) || decide (M3.gb a.py i = M3.gb b.py (a.of + (i : Int) - b.of).toNat)
def agr (a b : Bd) : Bool := upto (agrAt a b) a.py.size
theorem agr_iff {a b : Bd} (ha : 0 ≤ a.of) : agr a b = true ↔ ∀ p, inn a p = true → inn b p = true → val a p = val b p := by
  unfold agr
  rw [upto_iff]
  constructor
  · intro h p h1 h2
    rw [inn_iff] at h1 h2
    have := h (p - a.of.toNat) (by omega)
    simp only [agrAt, Bool.or_eq_true, Bool.not_eq_true', Bool.and_eq_false_iff, decide_eq_false_iff_not, decide_eq_true_eq] at this
    have e : a.of + ((p - a.of.toNat : Nat) : Int) - b.of = (p : Int) - b.of := by omega
    have e2 : p - a.of.toNat = ((p : Int) - a.of).toNat := by omega
    rw [e, e2] at this
    rcases this with this | this
    · omega
    · exact this
  · intro h i hi
    simp only [agrAt, Bool.or_eq_true, Bool.not_eq_true', Bool.and_eq_false_iff, decide_eq_false_iff_not, decide_eq_true_eq]
    by_cases hc : 0 ≤ a.of + (i : Int) - b.of ∧ a.of + (i : Int) - b.of < b.py.size
    · right
      have := h (a.of.toNat + i) (inn_iff.2 (by omega)) (inn_iff.2 (by omega))
      unfold val at this
      have e1 : (((a.of.toNat + i : Nat) : Int) - a.of).toNat = i := by omega
      have e2 : (((a.of.toNat + i : Nat) : Int) - b.of) = a.of + (i : Int) - b.of := by omega
      rwa [e1, e2] at this
    · left; omega
/-- What the specification asks of the i-th piece. -/
def stepS (xs : List Bd) (i : Nat) : Bool := pg (at_ xs i) && one (at_ xs i) (at_ xs 0) && (decide (i = 0) || ahead (at_ xs (i - 1)) (at_ xs i)) && upto (fun j => agr (at_ xs i) (at_ xs j)) i
/-- A good pile. -/
def good (xs : List Bd) : Bool := upto (stepS xs) xs.length && decide (xs.length ≤ 60)
/-- As much of a payload as pieces tell. -/
structure Sh where
  th : Nat → Bool
  by_ : Nat → Nat
def blank : Sh := ⟨fun _ => false, fun _ => 0⟩
def lay (s : Sh) (b : Bd) : Sh := ⟨fun p => s.th p || inn b p, fun p => if inn b p = true then val b p else s.by_ p⟩
def fitAt (s : Sh) (b : Bd) (p : Nat) : Bool := !(s.th p) || decide ((lay s b).by_ p = s.by_ p)
def fits (s : Sh) (b : Bd) : Bool := upto (fitAt s b) 60
/-- The sheet of the first k pieces. -/
def sh (xs : List Bd) (k : Nat) : Sh := (xs.take k).foldl lay blank
theorem sh_zero (xs : List Bd) : sh xs 0 = blank := rfl
theorem sh_succ (xs : List Bd) (k : Nat) (h : k < xs.length) : sh xs (k + 1) = lay (sh xs k) (at_ xs k) := by
  unfold sh
  rw [List.take_succ_eq_append_getElem h, List.foldl_append, at_eq xs k h]
  rfl
/-- What the program asks of the i-th piece. -/
def stepI (xs : List Bd) (i : Nat) : Bool := pg (at_ xs i) && (decide (i = 0) || (one (at_ xs (i - 1)) (at_ xs i) && ahead (at_ xs (i - 1)) (at_ xs i))) && fits (sh xs i) (at_ xs i)
def Inv (xs : List Bd) (n : Nat) : Prop := (∀ p, (sh xs n).th p = true ↔ ∃ j, j < n ∧ inn (at_ xs j) p = true) ∧ (∀ j, j < n → ∀ p, inn (at_ xs j) p = true → (sh xs n).by_ p = val (at_ xs j) p) ∧ (∀ j, j < n → one (at_ xs j) (at_ xs 0) = true) ∧ (∀ j, j < n → pg (at_ xs j) = true)
theorem fits_iff {xs : List Bd} {n : Nat} (hI : Inv xs n) (hp : pg (at_ xs n) = true) : fits (sh xs n) (at_ xs n) = true ↔ upto (fun j => agr (at_ xs n) (at_ xs j)) n = true := by
  obtain ⟨h1, h2, _, h4⟩ := hI
  unfold fits
  rw [upto_iff, upto_iff]
  constructor
  · intro h j hj
    rw [agr_iff (pg_is hp).2.2.2.1]
    intro p hp1 hp2
    have := h p (inn_lt hp hp1).2
    simp only [fitAt, Bool.or_eq_true, Bool.not_eq_true', decide_eq_true_eq] at this
    simp only [lay, hp1, if_true] at this
    rcases this with this | this
    · rw [(h1 p).2 ⟨j, hj, hp2⟩] at this; cases this
    · rw [this, h2 j hj p hp2]
  · intro h p _
    simp only [fitAt, Bool.or_eq_true, Bool.not_eq_true', decide_eq_true_eq]
    simp only [lay]
    cases ht : (sh xs n).th p with
    | false => exact .inl rfl
    | true =>
      right
      obtain ⟨j, hj, hin⟩ := (h1 p).1 ht
      by_cases hi : inn (at_ xs n) p = true
      · rw [if_pos hi, h2 j hj p hin]
        exact (agr_iff (pg_is hp).2.2.2.1).1 (h j hj) p hi hin
      · rw [if_neg hi]
theorem step_same {xs : List Bd} {n : Nat} (hI : Inv xs n) : stepI xs n = stepS xs n := by
  unfold stepI stepS
  cases hp : pg (at_ xs n) with
  | false => simp
  | true =>
    have hf : fits (sh xs n) (at_ xs n) = upto (fun j => agr (at_ xs n) (at_ xs j)) n := Bool.eq_iff_iff.2 (fits_iff hI hp)
    rw [hf]
    by_cases h0 : n = 0
    · subst h0
      simp [one_refl]
    · have e : one (at_ xs (n - 1)) (at_ xs n) = one (at_ xs n) (at_ xs 0) := by
        have h3 := hI.2.2.1 (n - 1) (by omega)
        rw [Bool.eq_iff_iff]
        exact ⟨fun h => one_trans (one_symm h) h3, fun h => one_trans h3 (one_symm h)⟩
      simp [h0, e, Bool.and_assoc]
theorem inv_zero (xs : List Bd) : Inv xs 0 := ⟨fun p => by simp [sh_zero, blank], fun j hj => by omega, fun j hj => by omega, fun j hj => by omega⟩
theorem inv_succ {xs : List Bd} {n : Nat} (hn : n < xs.length) (hI : Inv xs n) (hs : stepS xs n = true) : Inv xs (n + 1) := by
  obtain ⟨h1, h2, h3, h4⟩ := hI
  simp only [stepS, Bool.and_eq_true] at hs
  obtain ⟨⟨⟨s1, s2⟩, _⟩, s4⟩ := hs
  refine ⟨fun p => ?_, fun j hj p hp => ?_, fun j hj => ?_, fun j hj => ?_⟩
  · rw [sh_succ xs n hn]
    simp only [lay, Bool.or_eq_true, h1]
    constructor
    · rintro (⟨j, hj, h⟩ | h)
      · exact ⟨j, by omega, h⟩
      · exact ⟨n, by omega, h⟩
    · rintro ⟨j, hj, h⟩
      by_cases e : j = n
      · subst e; exact .inr h
      · exact .inl ⟨j, by omega, h⟩
  · rw [sh_succ xs n hn]
    simp only [lay]
    by_cases hi : inn (at_ xs n) p = true
    · rw [if_pos hi]
      by_cases e : j = n
      · subst e; rfl
      · exact (agr_iff (pg_is s1).2.2.2.1).1 (upto_iff.1 s4 j (by omega)) p hi hp
    · rw [if_neg hi]
      by_cases e : j = n
      · subst e; exact absurd hp hi
      · exact h2 j (by omega) p hp
  · by_cases e : j = n
    · subst e; exact s2
    · exact h3 j (by omega)
  · by_cases e : j = n
    · subst e; exact s1
    · exact h4 j (by omega)
theorem inv_upto {xs : List Bd} (n : Nat) (hn : n ≤ xs.length) (h : upto (stepS xs) n = true) : Inv xs n := by
  induction n with
  | zero => exact inv_zero xs
  | succ n ih => exact inv_succ (by omega) (ih (by omega) (upto_iff.2 fun i hi => upto_iff.1 h i (by omega))) (upto_iff.1 h n (by omega))
theorem upto_same {xs : List Bd} (n : Nat) (hn : n ≤ xs.length) : upto (stepI xs) n = upto (stepS xs) n := by
  induction n with
  | zero => rfl
  | succ n ih =>
    have ih := ih (by omega)
    cases h : upto (stepS xs) n with
    | false =>
      have a1 : upto (stepS xs) (n + 1) = false := by
        cases e : upto (stepS xs) (n + 1) with
        | false => rfl
        | true => rw [upto_iff.2 fun i hi => upto_iff.1 e i (by omega)] at h; cases h
      have a2 : upto (stepI xs) (n + 1) = false := by
        cases e : upto (stepI xs) (n + 1) with
        | false => rfl
        | true => rw [h, upto_iff.2 fun i hi => upto_iff.1 e i (by omega)] at ih; cases ih
      rw [a1, a2]
    | true =>
      have e := step_same (inv_upto n (by omega) h)
      cases h' : stepS xs n with
      | true => rw [upto_succ h h', upto_succ (ih.trans h) (e.trans h')]
      | false => rw [upto_no (Nat.lt_succ_self n) h', upto_no (Nat.lt_succ_self n) (e.trans h')]
/-- A pile is good just where its pieces can be laid on one sheet. -/
theorem good_same (xs : List Bd) : (decide (xs.length ≤ 60) && upto (stepI xs) xs.length) = good xs := by
  rw [upto_same xs.length (Nat.le_refl _), good, Bool.and_comm]
theorem good_inv {xs : List Bd} (h : good xs = true) : Inv xs xs.length ∧ xs.length ≤ 60 := by
  simp only [good, Bool.and_eq_true, decide_eq_true_eq] at h
  exact ⟨inv_upto _ (Nat.le_refl _) h.1, h.2⟩
/-- How many bytes the bundle has that the pile is of. -/
def total (xs : List Bd) : Nat := if xs = [] then 0 else (at_ xs 0).tl.toNat
theorem total_le {xs : List Bd} (h : good xs = true) : total xs ≤ 60 := by
  unfold total
  split
  · omega
  · rename_i hne
    have := pg_is ((good_inv h).1.2.2.2 0 (by cases xs with | nil => exact absurd rfl hne | cons a l => simp))
    omega
/-- What lies on the sheet lies within the bundle. -/
theorem th_lt {xs : List Bd} (h : good xs = true) {p : Nat} (hp : (sh xs xs.length).th p = true) : p < total xs := by
  obtain ⟨h1, h2, h3, h4⟩ := (good_inv h).1
  obtain ⟨j, hj, hin⟩ := (h1 p).1 hp
  have hne : xs ≠ [] := by rintro rfl; simp at hj
  have := inn_lt (h4 j hj) hin
  have e := (one_iff.1 (h3 j hj)).2.2.2.2.2.2
  unfold total
  rw [if_neg hne]
  omega
/-- The places that are there, of the first n. -/
def places (s : Sh) (n : Nat) : List Nat := (List.range n).filter s.th
theorem places_succ (s : Sh) (n : Nat) : places s (n + 1) = places s n ++ (if s.th n = true then [n] else []) := by
  unfold places
  rw [List.range_succ, List.filter_append]
  congr 1
  cases h : s.th n <;> simp [h]
theorem places_len (s : Sh) (n : Nat) : (places s n).length ≤ n := by
  have := List.length_filter_le s.th (List.range n)
  simpa [places] using this
theorem places_more {s : Sh} {n : Nat} (h : ∀ p, n ≤ p → s.th p = false) (k : Nat) : places s (n + k) = places s n := by
  induction k with
  | zero => rfl
  | succ k ih => rw [← Nat.add_assoc, places_succ, ih, h (n + k) (by omega)]; simp
theorem places_good {xs : List Bd} (h : good xs = true) : places (sh xs xs.length) 60 = places (sh xs xs.length) (total xs) := by
  have := total_le h
  have e : 60 = total xs + (60 - total xs) := by omega
  rw [e]
  exact places_more (fun p hp => by
    cases ht : (sh xs xs.length).th p with
    | false => rfl
    | true => have := th_lt h ht; omega) _
/-- What Covered answers. -/
def cov (xs : List Bd) : List Int := if good xs = true then (places (sh xs xs.length) 60).map Int.ofNat else []
/-- What MissingIn answers. -/
def miss (xs : List Bd) : Int := if good xs = true then (total xs : Int) - (places (sh xs xs.length) 60).length else 0
end PL
end Go.Proofs.Ytdgflhgbcfehhaa
