/- Meetings one behind the other: what is good stays so; plain facts. -/
import Derived.Test.YtgajfpohlemahaaCSprM
import Derived.Test.YtgajfpohlemahaaCSprN
import Derived.Test.YtgajfpohlemahaaMI2
namespace Go.Proofs.Ytgajfpohlemahaa
open Go.RowKit
namespace SP
theorem sm_set (zs : List Int) (j : Nat) (v : Int) (hj : j < zs.length) : ∀ k : Nat, sm (zs.set j v) k = sm zs k + (if j < k then v - zs.getD j 0 else 0)
  | 0 => by simp [sm]
  | k + 1 => by
    rw [sm, sm, sm_set zs j v hj k]
    by_cases h : j = k
    · subst h
      rw [getD_set_eq _ _ _ hj, if_neg (by omega), if_pos (by omega)]
      omega
    · rw [getD_set_ne _ _ _ _ h]
      by_cases h2 : j < k
      · rw [if_pos h2, if_pos (by omega)]; omega
      · rw [if_neg h2, if_neg (by omega)]; omega
theorem give_good {zs : List Int} {t : Int} (th : Bool) {a b : Nat} (hg : good zs t = true) (ha : a < zs.length) (hb : b < zs.length) (hab : a ≠ b) : good (give zs t th a b).1 t = true := by
  unfold give
  by_cases hbt : (b : Int) = t
  · rw [if_pos hbt]; exact hg
  · rw [if_neg hbt]
    by_cases h : (a : Int) ≠ t ∧ 2 ≤ zs.getD a 0 ∧ zs.getD b 0 = 0
    · rw [if_pos h]
      obtain ⟨h1, h2, h3, h4, h5, h6⟩ := of_decide_eq_true hg
      have hl : ((zs.set b (zs.getD a 0 / 2)).set a (zs.getD a 0 - zs.getD a 0 / 2)).length = zs.length := by simp
      have hsm : sm ((zs.set b (zs.getD a 0 / 2)).set a (zs.getD a 0 - zs.getD a 0 / 2)) zs.length = sm zs zs.length := by
        rw [sm_set _ a _ (by simpa using ha), sm_set zs b _ hb, if_pos hb, if_pos ha, getD_set_ne _ _ _ _ (Ne.symm hab), h.2.2]
        omega
      refine decide_eq_true ⟨?_, ?_, ?_, ?_, ?_⟩
      · show 2 ≤ List.length ((zs.set b (zs.getD a 0 / 2)).set a (zs.getD a 0 - zs.getD a 0 / 2)) ∧ _
        rw [hl]; exact h1
      · show 0 ≤ t ∧ t < (List.length ((zs.set b (zs.getD a 0 / 2)).set a (zs.getD a 0 - zs.getD a 0 / 2)) : Int)
        rw [hl]; exact h2
      · show ((zs.set b (zs.getD a 0 / 2)).set a (zs.getD a 0 - zs.getD a 0 / 2)).getD t.toNat 0 = 0
        rw [getD_set_ne _ _ _ _ (by omega), getD_set_ne _ _ _ _ (by omega)]; exact h3
      · show ∀ j : Nat, j < List.length ((zs.set b (zs.getD a 0 / 2)).set a (zs.getD a 0 - zs.getD a 0 / 2)) → 0 ≤ ((zs.set b (zs.getD a 0 / 2)).set a (zs.getD a 0 - zs.getD a 0 / 2)).getD j 0
        rw [hl]
        intro j hj
        by_cases e1 : a = j
        · subst e1; rw [getD_set_eq _ _ _ (by simpa using ha)]; omega
        · rw [getD_set_ne _ _ _ _ e1]
          by_cases e2 : b = j
          · subst e2; rw [getD_set_eq _ _ _ hb]; omega
          · rw [getD_set_ne _ _ _ _ e2]; exact h4 j hj
      · show 1 ≤ sm ((zs.set b (zs.getD a 0 / 2)).set a (zs.getD a 0 - zs.getD a 0 / 2)) (List.length ((zs.set b (zs.getD a 0 / 2)).set a (zs.getD a 0 - zs.getD a 0 / 2))) ∧ sm ((zs.set b (zs.getD a 0 / 2)).set a (zs.getD a 0 - zs.getD a 0 / 2)) (List.length ((zs.set b (zs.getD a 0 / 2)).set a (zs.getD a 0 - zs.getD a 0 / 2))) ≤ 64
        rw [hl, hsm]; exact ⟨h5, h6⟩
    · rw [if_neg h]; exact hg
theorem meetS_good {zs : List Int} {t : Int} (th : Bool) {a b : Nat} (hg : good zs t = true) (ha : a < zs.length) (hb : b < zs.length) (hab : a ≠ b) : good (meetS zs t th a b).1 t = true := by
  unfold meetS
  split
  · exact give_good th hg ha hb hab
  · exact give_good th hg hb ha (Ne.symm hab)
theorem meetS_len (zs : List Int) (t : Int) (th : Bool) (a b : Nat) : (meetS zs t th a b).1.length = zs.length := by
  unfold meetS; split <;> exact give_len _ _ _ _ _
theorem meetS_th (zs : List Int) (t : Int) (a b : Nat) : (meetS zs t true a b).2 = true := by
  unfold meetS give
  split <;> split <;> (try split) <;> simp
theorem sm_zero (n : Nat) : ∀ k : Nat, sm (List.replicate n 0) k = 0
  | 0 => rfl
  | k + 1 => by
    rw [sm, sm_zero n k, List.getD_eq_getElem?_getD, List.getElem?_replicate]
    split <;> rfl
theorem nL_good {n f t c : Int} (h : nok n f t c = true) : good (nL n f t c) t = true ∧ (nL n f t c).length = n.toNat ∧ nT n f t c = t := by
  have ht : nT n f t c = t := by rw [nT, if_pos h]
  have hd := of_decide_eq_true h
  rw [nL, if_pos h]
  refine ⟨?_, by simp, ht⟩
  have hl : ((List.replicate n.toNat (0 : Int)).set f.toNat c).length = n.toNat := by simp
  have hfl : f.toNat < (List.replicate n.toNat (0 : Int)).length := by simp; omega
  have h0 : ∀ j : Nat, (List.replicate n.toNat (0 : Int)).getD j 0 = 0 := fun j => by
    rw [List.getD_eq_getElem?_getD, List.getElem?_replicate]; split <;> rfl
  refine decide_eq_true ⟨?_, ?_, ?_, ?_, ?_⟩
  · rw [hl]; omega
  · rw [hl]; omega
  · rw [getD_set_ne _ _ _ _ (by omega)]; exact h0 _
  · rw [hl]
    intro j hj
    by_cases e : f.toNat = j
    · subst e; rw [getD_set_eq _ _ _ hfl]; omega
    · rw [getD_set_ne _ _ _ _ e, h0]; omega
  · rw [hl, sm_set _ _ _ hfl, sm_zero, h0, if_pos (by omega)]; omega
/-- What is there behind some meetings. -/
structure Pl where
  zs : List Int
  th : Bool
  mn : Int
def stp (t : Int) (s : Pl) (i : Nat) (m : I2) : Option Pl :=
  if two s.zs.length m.a0 m.a1 = true then some ⟨(meetS s.zs t s.th m.a0.toNat m.a1.toNat).1, (meetS s.zs t s.th m.a0.toNat m.a1.toNat).2, if (meetS s.zs t s.th m.a0.toNat m.a1.toNat).2 = true ∧ s.mn = 0 then (i : Int) + 1 else s.mn⟩ else none
def plUp (t : Int) (s : Pl) (ms : List I2) : Nat → Option Pl
  | 0 => some s
  | k + 1 => (plUp t s ms k).bind fun x => stp t x k (MI2.at_ ms k)
theorem plUp_none {t : Int} {s : Pl} {ms : List I2} {k : Nat} (h : plUp t s ms k = none) : ∀ d : Nat, plUp t s ms (k + d) = none
  | 0 => h
  | d + 1 => by show (plUp t s ms (k + d)).bind _ = none; rw [plUp_none h d]; rfl
/-- What stays so. -/
structure PInv (t : Int) (n : Nat) (s : Pl) (k : Nat) : Prop where
  good : good s.zs t = true
  len : s.zs.length = n
  mn : (s.mn = 0 ↔ s.th = false)
  lo : 0 ≤ s.mn ∧ s.mn ≤ k
theorem two_is {n : Nat} {x y : Int} (h : two n x y = true) : x.toNat < n ∧ y.toNat < n ∧ x.toNat ≠ y.toNat ∧ 0 ≤ x ∧ 0 ≤ y := by
  have := of_decide_eq_true h
  omega
theorem PInv.step {t : Int} {n : Nat} {s s' : Pl} {k : Nat} {m : I2} (h : PInv t n s k) (hs : stp t s k m = some s') : PInv t n s' (k + 1) := by
  unfold stp at hs
  split at hs
  · rename_i h2
    cases hs
    obtain ⟨p1, p2, p3, _⟩ := two_is h2
    refine ⟨meetS_good _ h.good p1 p2 p3, by rw [meetS_len]; exact h.len, ?_, ?_⟩
    · show (if (meetS s.zs t s.th m.a0.toNat m.a1.toNat).2 = true ∧ s.mn = 0 then (k : Int) + 1 else s.mn) = 0 ↔ (meetS s.zs t s.th m.a0.toNat m.a1.toNat).2 = false
      have h1 := h.mn
      cases hth : s.th with
      | true =>
        rw [meetS_th]
        have : s.mn ≠ 0 := fun e => by rw [h1.1 e] at hth; cases hth
        rw [if_neg (fun e => this e.2)]
        simp [this]
      | false =>
        have h0 := h1.2 hth
        cases hm : (meetS s.zs t false m.a0.toNat m.a1.toNat).2 with
        | true => rw [if_pos ⟨rfl, h0⟩]; simp; omega
        | false => rw [if_neg (fun e => by cases e.1)]; simp [h0]
    · show 0 ≤ (if (meetS s.zs t s.th m.a0.toNat m.a1.toNat).2 = true ∧ s.mn = 0 then (k : Int) + 1 else s.mn) ∧ (if (meetS s.zs t s.th m.a0.toNat m.a1.toNat).2 = true ∧ s.mn = 0 then (k : Int) + 1 else s.mn) ≤ ((k + 1 : Nat) : Int)
      have := h.lo
      split <;> omega
  · cases hs
def s0 (n f t c : Int) : Pl := ⟨nL n f t c, false, 0⟩
theorem inv0 {n f t c : Int} (h : nok n f t c = true) : PInv t n.toNat (s0 n f t c) 0 := by
  obtain ⟨h1, h2, _⟩ := nL_good h
  exact ⟨h1, h2, by simp [s0], by simp [s0]⟩
theorem inv_up {n f t c : Int} (h : nok n f t c = true) (ms : List I2) : ∀ (k : Nat) (s : Pl), plUp t (s0 n f t c) ms k = some s → PInv t n.toNat s k
  | 0, s, e => by cases e; exact inv0 h
  | k + 1, s, e => by
    have e' : (plUp t (s0 n f t c) ms k).bind (fun x => stp t x k (MI2.at_ ms k)) = some s := e
    cases hp : plUp t (s0 n f t c) ms k with
    | none => rw [hp] at e'; cases e'
    | some x => rw [hp] at e'; exact (inv_up h ms k x hp).step e'
/-- The answer of PlaySpray. -/
def plA (n f t c : Int) (ms : List I2) : Option Pl := if nok n f t c = true ∧ ms.length ≤ 100 then plUp t (s0 n f t c) ms ms.length else none
def pL (o : Option Pl) : List Int := match o with | some s => s.zs | none => []
def pH (o : Option Pl) : Bool := match o with | some s => s.th | none => false
def pM (o : Option Pl) : Int := match o with | some s => s.mn | none => 0
def pT (t : Int) (o : Option Pl) : Int := match o with | some _ => t | none => 0
theorem pL_len {n f t c : Int} {ms : List I2} : (pL (plA n f t c ms)).length ≤ 8 := by
  unfold plA
  split
  · rename_i h
    cases e : plUp t (s0 n f t c) ms ms.length with
    | none => simp [pL]
    | some s =>
      have := inv_up h.1 ms _ s e
      have h2 := good_len this.good
      show s.zs.length ≤ 8
      omega
  · simp [pL]
end SP
end Go.Proofs.Ytgajfpohlemahaa
