/- Meetings: one side hands on; plain facts. -/
import Derived.Test.YtgajfpohlemahaaMSprT
namespace Go.Proofs.Ytgajfpohlemahaa
open Go.RowKit
namespace SP
/-- One side of a meeting, as the program does it. -/
def hand (zs : List Int) (t : Int) (th : Bool) (a b : Nat) : List Int × Bool :=
  if (b : Int) = t then (zs, th || decide (0 < zs.getD a 0)) else if zs.getD b 0 = 0 then ((zs.set a (zs.getD a 0 - zs.getD a 0 / 2)).set b (zs.getD a 0 / 2), th) else (zs, th)
/-- One side of a meeting, as the specification does it. -/
def give (zs : List Int) (t : Int) (th : Bool) (a b : Nat) : List Int × Bool :=
  if (b : Int) = t then (zs, th || decide (0 < zs.getD a 0)) else if (a : Int) ≠ t ∧ 2 ≤ zs.getD a 0 ∧ zs.getD b 0 = 0 then ((zs.set b (zs.getD a 0 / 2)).set a (zs.getD a 0 - zs.getD a 0 / 2), th) else (zs, th)
def meetI (zs : List Int) (t : Int) (th : Bool) (a b : Nat) : List Int × Bool := hand (hand zs t th a b).1 t (hand zs t th a b).2 b a
def meetS (zs : List Int) (t : Int) (th : Bool) (a b : Nat) : List Int × Bool := if zs.getD b 0 ≤ zs.getD a 0 then give zs t th a b else give zs t th b a
theorem hand_len (zs : List Int) (t : Int) (th : Bool) (a b : Nat) : (hand zs t th a b).1.length = zs.length := by
  unfold hand
  split
  · rfl
  · split <;> simp
theorem give_len (zs : List Int) (t : Int) (th : Bool) (a b : Nat) : (give zs t th a b).1.length = zs.length := by
  unfold give
  split
  · rfl
  · split <;> simp
theorem set_same (zs : List Int) (a : Nat) : zs.set a (zs.getD a 0) = zs := by
  apply List.ext_getElem?
  intro i
  rw [List.getElem?_set]
  split
  · rename_i h
    subst h
    split
    · rename_i h; simp [h]
    · rename_i h; rw [List.getElem?_eq_none (by omega)]
  · rfl
theorem getD_set_ne (zs : List Int) (a b : Nat) (x : Int) (h : a ≠ b) : (zs.set a x).getD b 0 = zs.getD b 0 := by
  simp [List.getD_eq_getElem?_getD, h]
theorem getD_set_eq (zs : List Int) (a : Nat) (x : Int) (h : a < zs.length) : (zs.set a x).getD a 0 = x := by
  simp [List.getD_eq_getElem?_getD, h]
theorem meet_same {zs : List Int} {t : Int} (th : Bool) {a b : Nat} (hg : good zs t = true) (ha : a < zs.length) (hb : b < zs.length) (hab : a ≠ b) : meetI zs t th a b = meetS zs t th a b := by
  have hz := good_each hg
  have h0 : ∀ j : Nat, j < zs.length → (j : Int) = t → zs.getD j 0 = 0 := fun j _ e => by
    have := (of_decide_eq_true hg).2.2.1
    rw [← e, Int.toNat_natCast] at this
    exact this
  have za := hz a ha
  have zb := hz b hb
  by_cases hbt : (b : Int) = t
  · have hat : (a : Int) ≠ t := fun e => hab (by omega)
    have hzb := h0 b hb hbt
    have e1 : hand zs t th a b = (zs, th || decide (0 < zs.getD a 0)) := by rw [hand, if_pos hbt]
    rw [meetI, e1, meetS, if_pos (by omega), give, if_pos hbt, hand, if_neg hat]
    by_cases hza : zs.getD a 0 = 0
    · rw [if_pos hza, hzb]
      have : (zs.set b (0 - 0 / 2)).set a (0 / 2) = zs := by
        have e2 := set_same zs b; rw [hzb] at e2
        have e3 := set_same zs a; rw [hza] at e3
        show (zs.set b 0).set a 0 = zs
        rw [e2, e3]
      rw [this]
    · rw [if_neg hza]
  · by_cases hat : (a : Int) = t
    · have hza := h0 a ha hat
      have e1 : (hand zs t th a b) = (zs, th) := by
        rw [hand, if_neg hbt]
        by_cases hzb : zs.getD b 0 = 0
        · rw [if_pos hzb, hza]
          have e2 := set_same zs b; rw [hzb] at e2
          have e3 := set_same zs a; rw [hza] at e3
          show ((zs.set a 0).set b 0, th) = _
          rw [e3, e2]
        · rw [if_neg hzb]
      rw [meetI, e1, hand, if_pos hat, meetS]
      by_cases hzb : zs.getD b 0 = 0
      · rw [if_pos (by omega), give, if_neg hbt, if_neg (fun h => h.1 hat)]
        show (zs, th || decide (0 < zs.getD b 0)) = (zs, th)
        rw [hzb]
        simp
      · rw [if_neg (by omega), give, if_pos hat]
    · have zz : ∀ x y : Nat, x < zs.length → y < zs.length → x ≠ y → (x : Int) ≠ t → (y : Int) ≠ t → zs.getD y 0 = 0 → ¬ 2 ≤ zs.getD x 0 → hand zs t th x y = (zs, th) := fun x y hx hy hxy ht1 ht2 hzy hzx => by
        have := hz x hx
        have e0 : zs.getD x 0 / 2 = 0 := by omega
        rw [hand, if_neg ht2, if_pos hzy, e0, Int.sub_zero, set_same]
        have e2 := set_same zs y; rw [hzy] at e2
        rw [e2]
      by_cases hzb : zs.getD b 0 = 0
      · by_cases h2 : 2 ≤ zs.getD a 0
        · have e1 : hand zs t th a b = ((zs.set a (zs.getD a 0 - zs.getD a 0 / 2)).set b (zs.getD a 0 / 2), th) := by rw [hand, if_neg hbt, if_pos hzb]
          have e2 : ((zs.set a (zs.getD a 0 - zs.getD a 0 / 2)).set b (zs.getD a 0 / 2)).getD a 0 = zs.getD a 0 - zs.getD a 0 / 2 := by
            rw [getD_set_ne _ _ _ _ (Ne.symm hab), getD_set_eq _ _ _ ha]
          rw [meetI, e1, meetS, if_pos (by omega), give, if_neg hbt, if_pos ⟨hat, h2, hzb⟩]
          rw [hand, if_neg hat, if_neg (by rw [e2]; omega), List.set_comm _ _ hab]
        · rw [meetI, zz a b ha hb hab hat hbt hzb h2]
          show hand zs t th b a = _
          rw [meetS, if_pos (by omega), give, if_neg hbt, if_neg (fun h => h2 h.2.1)]
          by_cases hza : zs.getD a 0 = 0
          · exact zz b a hb ha (Ne.symm hab) hbt hat hza (by omega)
          · rw [hand, if_neg hat, if_neg hza]
      · have e1 : hand zs t th a b = (zs, th) := by rw [hand, if_neg hbt, if_neg hzb]
        rw [meetI, e1]
        show hand zs t th b a = _
        by_cases hza : zs.getD a 0 = 0
        · rw [meetS, if_neg (by omega), give, if_neg hat]
          by_cases h2 : 2 ≤ zs.getD b 0
          · rw [if_pos ⟨hbt, h2, hza⟩, hand, if_neg hat, if_pos hza, List.set_comm _ _ hab]
          · rw [if_neg (fun h => h2 h.2.1)]
            exact zz b a hb ha (Ne.symm hab) hbt hat hza h2
        · rw [hand, if_neg hat, if_neg hza, meetS]
          split
          · rw [give, if_neg hbt, if_neg (fun h => hzb h.2.2)]
          · rw [give, if_neg hat, if_neg (fun h => hza h.2.2)]
end SP
end Go.Proofs.Ytgajfpohlemahaa
