/- What FnSpray asks: tokens are neither lost nor made, who carries it keeps it, it is there for good; plain facts. -/
import Derived.Test.YtgajfpohlemahaaMSprP
import Derived.Test.YtgajfpohlemahaaMSprT
import Derived.Test.YtgajfpohlemahaaCHasM
namespace Go.Proofs.Ytgajfpohlemahaa
open Go.RowKit
namespace SP
theorem give_sm {zs : List Int} {t : Int} (th : Bool) {a b : Nat} (ha : a < zs.length) (hb : b < zs.length) (hab : a ≠ b) : sm (give zs t th a b).1 zs.length = sm zs zs.length := by
  unfold give
  split
  · rfl
  · split
    · rename_i h1 h
      show sm ((zs.set b (zs.getD a 0 / 2)).set a (zs.getD a 0 - zs.getD a 0 / 2)) zs.length = sm zs zs.length
      rw [sm_set _ a _ (by simpa using ha), sm_set zs b _ hb, if_pos hb, if_pos ha, getD_set_ne _ _ _ _ (Ne.symm hab), h.2.2]
      omega
    · rfl
theorem meetS_sm {zs : List Int} {t : Int} (th : Bool) {a b : Nat} (ha : a < zs.length) (hb : b < zs.length) (hab : a ≠ b) : sm (meetS zs t th a b).1 zs.length = sm zs zs.length := by
  unfold meetS
  split
  · exact give_sm th ha hb hab
  · exact give_sm th hb ha (Ne.symm hab)
theorem give_keep {zs : List Int} {t : Int} (th : Bool) {a b : Nat} (ha : a < zs.length) (hb : b < zs.length) (_hab : a ≠ b) {k : Nat} (hk : 0 < zs.getD k 0) : 0 < (give zs t th a b).1.getD k 0 := by
  unfold give
  split
  · exact hk
  · split
    · rename_i h1 h
      show 0 < ((zs.set b (zs.getD a 0 / 2)).set a (zs.getD a 0 - zs.getD a 0 / 2)).getD k 0
      by_cases e1 : a = k
      · subst e1; rw [getD_set_eq _ _ _ (by simpa using ha)]; omega
      · rw [getD_set_ne _ _ _ _ e1]
        by_cases e2 : b = k
        · subst e2; rw [getD_set_eq _ _ _ hb]; omega
        · rw [getD_set_ne _ _ _ _ e2]; exact hk
    · exact hk
theorem meetS_keep {zs : List Int} {t : Int} (th : Bool) {a b : Nat} (ha : a < zs.length) (hb : b < zs.length) (hab : a ≠ b) {k : Nat} (hk : 0 < zs.getD k 0) : 0 < (meetS zs t th a b).1.getD k 0 := by
  unfold meetS
  split
  · exact give_keep th ha hb hab hk
  · exact give_keep th hb ha (Ne.symm hab) hk
theorem cr_mem (zs : List Int) (n : Nat) (k : Nat) : ((k : Int) ∈ cr zs n) ↔ k < n ∧ 0 < zs.getD k 0 := by
  induction n with
  | zero => simp [cr]
  | succ n ih =>
    rw [cr]
    split
    · rename_i h
      rw [List.mem_append, ih]
      simp only [List.mem_singleton]
      constructor
      · rintro (⟨h1, h2⟩ | h1)
        · exact ⟨by omega, h2⟩
        · have : k = n := by omega
          subst this; exact ⟨by omega, h⟩
      · rintro ⟨h1, h2⟩
        by_cases e : k = n
        · exact .inr (by omega)
        · exact .inl ⟨by omega, h2⟩
    · rename_i h
      rw [ih]
      constructor
      · rintro ⟨h1, h2⟩; exact ⟨by omega, h2⟩
      · rintro ⟨h1, h2⟩
        refine ⟨?_, h2⟩
        by_cases e : k = n
        · subst e; exact absurd h2 h
        · omega
theorem cr_nn (zs : List Int) (n : Nat) : ∀ x ∈ cr zs n, 0 ≤ x := by
  induction n with
  | zero => simp [cr]
  | succ n ih =>
    intro x hx
    rw [cr] at hx
    split at hx
    · rcases List.mem_append.1 hx with h | h
      · exact ih x h
      · simp only [List.mem_singleton] at h; omega
    · exact ih x hx
theorem cr_sm {zs : List Int} {n : Nat} (h : ∀ j : Nat, j < n → 0 ≤ zs.getD j 0) : ((cr zs n).length : Int) ≤ sm zs n := by
  induction n with
  | zero => simp [cr, sm]
  | succ n ih =>
    have i1 := ih fun j hj => h j (by omega)
    have i2 := h n (by omega)
    rw [cr, sm]
    split
    · rw [List.length_append]; simp only [List.length_cons, List.length_nil]; omega
    · omega
theorem cr_more {zs zs' : List Int} (n : Nat) (h : ∀ k : Nat, k < n → 0 < zs.getD k 0 → 0 < zs'.getD k 0) : (cr zs n).length ≤ (cr zs' n).length := by
  induction n with
  | zero => simp [cr]
  | succ n ih =>
    have i1 := ih fun k hk => h k (by omega)
    rw [cr, cr]
    split
    · rename_i h1
      rw [if_pos (h n (by omega) h1), List.length_append, List.length_append]; simp only [List.length_cons, List.length_nil]; omega
    · split
      · rw [List.length_append]; simp only [List.length_cons, List.length_nil]; omega
      · exact i1
/-- What the plays keep besides. -/
structure PK (f c : Int) (n : Nat) (s : Pl) : Prop where
  sm : sm s.zs n = c
  from_ : 0 < s.zs.getD f.toNat 0
theorem pk0 {n f t c : Int} (h : nok n f t c = true) : PK f c n.toNat (s0 n f t c) := by
  have hd := of_decide_eq_true h
  have hfl : f.toNat < (List.replicate n.toNat (0 : Int)).length := by simp; omega
  have h0 : ∀ j : Nat, (List.replicate n.toNat (0 : Int)).getD j 0 = 0 := fun j => by
    rw [List.getD_eq_getElem?_getD, List.getElem?_replicate]; split <;> rfl
  refine ⟨?_, ?_⟩
  · show sm (nL n f t c) n.toNat = c
    rw [nL, if_pos h, sm_set _ _ _ hfl, sm_zero, h0, if_pos (by omega)]; omega
  · show 0 < (nL n f t c).getD f.toNat 0
    rw [nL, if_pos h, getD_set_eq _ _ _ hfl]; omega
theorem pk_up {n f t c : Int} (h : nok n f t c = true) (ms : List I2) : ∀ (k : Nat) (s : Pl), plUp t (s0 n f t c) ms k = some s → PK f c n.toNat s
  | 0, s, e => by cases e; exact pk0 h
  | k + 1, s, e => by
    have e' : (plUp t (s0 n f t c) ms k).bind (fun x => stp t x k (MI2.at_ ms k)) = some s := e
    cases hp : plUp t (s0 n f t c) ms k with
    | none => rw [hp] at e'; cases e'
    | some x =>
      rw [hp] at e'
      have hx := pk_up h ms k x hp
      have hi := inv_up h ms k x hp
      have e2 : stp t x k (MI2.at_ ms k) = some s := e'
      unfold stp at e2
      split at e2
      · rename_i h2
        obtain ⟨p1, p2, p3, _⟩ := two_is h2
        have hl := hi.len
        cases e2
        refine ⟨?_, meetS_keep _ p1 p2 p3 hx.from_⟩
        show SP.sm (meetS x.zs t x.th _ _).1 n.toNat = c
        rw [← hl, meetS_sm _ p1 p2 p3, hl]; exact hx.sm
      · cases e2
/-- What FnSpray asks of a play. -/
structure FA (n f t c : Int) (s : Pl) : Prop where
  good : good s.zs t = true
  len : s.zs.length ≤ 8
  pos : 0 < s.zs.length
  sm : (SP.sm s.zs s.zs.length == c) = true
  many : decide (c < ((cr s.zs s.zs.length).length : Int)) = false
  to : EG.hasB (cr s.zs s.zs.length) t = false
  fr : EG.hasB (cr s.zs s.zs.length) f = true
  th : s.th = decide (0 < s.mn)
theorem fa_of {n f t c : Int} {ms : List I2} {s : Pl} (h : plA n f t c ms = some s) : FA n f t c s ∧ nok n f t c = true := by
  unfold plA at h
  split at h
  · rename_i hh
    have hi := inv_up hh.1 ms _ s h
    have hk := pk_up hh.1 ms _ s h
    have hd := of_decide_eq_true hh.1
    have hsm : SP.sm s.zs s.zs.length = c := by rw [hi.len]; exact hk.sm
    have hnn : ∀ j : Nat, j < s.zs.length → 0 ≤ s.zs.getD j 0 := fun j hj => (good_each hi.good j hj).1
    have hz := (of_decide_eq_true hi.good).2.2.1
    have ht := (of_decide_eq_true hi.good).2.1
    have hg8 := good_len hi.good
    refine ⟨⟨hi.good, by omega, by omega, by rw [hsm]; simp, decide_eq_false ?_, ?_, ?_, ?_⟩, hh.1⟩
    · have := cr_sm hnn
      rw [hsm] at this
      omega
    · have : ¬ t ∈ cr s.zs s.zs.length := fun hm => by
        rw [show t = ((t.toNat : Nat) : Int) by omega, cr_mem] at hm
        omega
      simpa [EG.hasB] using this
    · have hlf : f.toNat < s.zs.length := by rw [hi.len]; omega
      have : f ∈ cr s.zs s.zs.length := by
        rw [show f = ((f.toNat : Nat) : Int) by omega, cr_mem]
        exact ⟨hlf, hk.from_⟩
      simpa [EG.hasB] using this
    · have h1 := hi.mn
      have h2 := hi.lo
      cases hth : s.th with
      | true => exact (decide_eq_true (by have : s.mn ≠ 0 := fun e => by rw [h1.1 e] at hth; cases hth
                                          omega)).symm
      | false => exact (decide_eq_false (by have := h1.2 hth; omega)).symm
  · cases h
/-- What FnSpray asks of a meeting. -/
structure FM (zs zs' : List Int) (th th' : Bool) (t : Int) : Prop where
  g1 : good zs t = true
  g2 : good zs' t = true
  len : zs'.length = zs.length
  sm : SP.sm zs zs.length = SP.sm zs' zs'.length
  many : decide ((cr zs' zs'.length).length < (cr zs zs.length).length) = false
  th : (th && !th') = false
theorem fm_of {zs : List Int} {t x y : Int} {th : Bool} (h : mk zs t x y = true) : FM zs (mL zs t th x y) th (mH zs t th x y) t ∧ mT zs t x y = t := by
  have hg : good zs t = true := by
    unfold mk at h; exact (Bool.and_eq_true_iff.1 h).1
  have h2 : two zs.length x y = true := by
    unfold mk at h; exact (Bool.and_eq_true_iff.1 h).2
  obtain ⟨p1, p2, p3, _⟩ := two_is h2
  have hl : (mL zs t th x y).length = zs.length := by rw [mL, if_pos h]; exact meetS_len _ _ _ _ _
  refine ⟨⟨hg, ?_, hl, ?_, decide_eq_false ?_, ?_⟩, by rw [mT, if_pos h]⟩
  · rw [mL, if_pos h]; exact meetS_good _ hg p1 p2 p3
  · rw [hl, mL, if_pos h]; exact (meetS_sm _ p1 p2 p3).symm
  · have := cr_more (zs := zs) (zs' := mL zs t th x y) zs.length (fun k _ hk => by rw [mL, if_pos h]; exact meetS_keep _ p1 p2 p3 hk)
    rw [hl]
    omega
  · rw [mH, if_pos h]
    cases th with
    | false => rfl
    | true => rw [meetS_th]; rfl
/-- What FnSpray asks of a play, by what is answered. -/
structure FB (f t c : Int) (L : List Int) (T : Int) (H : Bool) (M : Int) : Prop where
  good : good L T = true
  tt : T = t
  sm : (SP.sm L L.length != c) = false
  many : decide (c < ((cr L L.length).length : Int)) = false
  to : EG.hasB (cr L L.length) t = false
  fr : EG.hasB (cr L L.length) f = true
  th : (H != decide (0 < M)) = false
theorem fb_of {n f t c : Int} {ms : List I2} (h : (plA n f t c ms).isSome = true) : FB f t c (pL (plA n f t c ms)) (pT t (plA n f t c ms)) (pH (plA n f t c ms)) (pM (plA n f t c ms)) := by
  cases hA : plA n f t c ms with
  | none => rw [hA] at h; cases h
  | some s =>
    obtain ⟨hF, _⟩ := fa_of hA
    have e1 := hF.sm
    have e2 := hF.th
    refine ⟨hF.good, rfl, ?_, hF.many, hF.to, hF.fr, ?_⟩
    · show (SP.sm s.zs s.zs.length != c) = false
      simpa using e1
    · show (s.th != decide (0 < s.mn)) = false
      rw [e2]; simp
end SP
end Go.Proofs.Ytgajfpohlemahaa
