/- The most that gets through, and what is answered: plain facts. -/
import Derived.Test.YtpabhjnpbnabiaaMFB
namespace Go.Proofs.Ytpabhjnpbnabiaa
namespace FL
open Go.RowKit
def cI : Option Value → Int
  | some (.int _ z) => z
  | _ => 0
/-- n numbers, read out of memory. -/
def rdL (W : World) (n : Nat) : Value → List Int
  | .slice (some a) _ _ => (List.range n).map fun j => cI (W.cell? ⟨a.block, a.off + j, none⟩)
  | _ => List.replicate n 0
theorem rdL_own {W : World} {base n : Nat} {v : Value} {fs : List Int} (h : W.ownsRow base 3 1 v n (M4.iv fs)) : rdL W n v = fs := by
  have hl : fs.length = n := by have := h.1; simpa [M4.iv] using this
  rcases h.2 with ⟨rfl, h0⟩ | ⟨g, cap, cur, rfl, h2, h3, h4⟩
  · subst h0; rw [List.length_eq_zero_iff.1 hl]; rfl
  · apply List.ext_getElem (by simp [rdL, hl])
    intro j h1 h2'
    simp only [rdL, List.getElem_map, List.getElem_range, Nat.zero_add]
    have hj : j < n := by omega
    rw [h.cellAt j (by omega), M4.iv_get _ _ _ (get_of fs h2')]
    show fs.getD j 0 = _
    rw [List.getD_eq_getElem?_getD, List.getElem?_eq_getElem h2']; rfl
def mu8 (xs : List I3) (f : Int) (W : World) (v : Value) : Nat := (2000 - outUp xs (rdL W xs.length v) f xs.length).toNat
/-- A flow that is come to from nothing on. -/
structure AtF (xs : List I3) (f t : Int) (fs : List Int) : Prop where
  is : ∃ i : Nat, flowAt xs f t i = fs ∧ (i : Int) ≤ outUp xs fs f xs.length
theorem AtF.start (xs : List I3) (f t : Int) : AtF xs f t (List.replicate xs.length 0) := by
  refine ⟨0, rfl, ?_⟩
  have key : ∀ k, outUp xs (List.replicate xs.length 0) f k = 0 := by
    intro k
    induction k with
    | zero => rfl
    | succ k ih =>
      rw [outUp, ih]
      have h0 : (List.replicate xs.length (0 : Int)).getD k 0 = 0 := by
        rw [List.getD_eq_getElem?_getD, List.getElem?_replicate]; split <;> rfl
      rw [h0]; unfold sg; split
      · rfl
      · split <;> rfl
  rw [key]; exact Int.le_refl _
theorem AtF.ok {xs : List I3} {f t : Int} {fs : List Int} (h : AtF xs f t fs) (A : Ask xs f t) : fs.length = xs.length ∧ fitUp xs fs xs.length := by
  obtain ⟨i, rfl, _⟩ := h.is; exact flowAt_ok A i
theorem aug_zero {xs : List I3} {f t : Int} {fs : List Int} (A : Ask xs f t) (hfit : fitUp xs fs xs.length) : (reach xs fs f t = false ∧ augN xs fs f t = 0 ∧ ansL xs fs f t = []) ∨ (reach xs fs f t = true ∧ 0 < augN xs fs f t ∧ augN xs fs f t ≤ 100 ∧ ansL xs fs f t = augL xs fs f t) := by
  cases h : reach xs fs f t with
  | false => left; refine ⟨rfl, ?_, ?_⟩ <;> simp [augN, ansL, h]
  | true =>
    right
    have R := row_of A hfit h
    refine ⟨rfl, by rw [augN_is h]; exact R.pos, by rw [augN_is h]; exact R.up, by unfold ansL; rw [if_pos h]⟩
theorem AtF.next {xs : List I3} {f t : Int} {fs : List Int} (h : AtF xs f t fs) (A : Ask xs f t) (hn : augN xs fs f t ≠ 0) : AtF xs f t (ansL xs fs f t) ∧ (ansL xs fs f t).length = xs.length ∧ outUp xs fs f xs.length < outUp xs (ansL xs fs f t) f xs.length ∧ outUp xs (ansL xs fs f t) f xs.length ≤ 2000 := by
  obtain ⟨i, rfl, hi⟩ := h.is
  have o := flowAt_ok A i
  rcases aug_zero (t := t) A o.2 with ⟨_, e, _⟩ | ⟨hr, hp, _, e⟩
  · exact absurd e hn
  · have N := flowAt_next A hi hr
    have e2 : ansL xs (flowAt xs f t i) f t = flowAt xs f t (i + 1) := by rw [e]; rfl
    rw [e2]
    have o2 := flowAt_ok A (i + 1)
    have := (outUp_within (n := f) A.ok o2.2 xs.length (Nat.le_refl _)).2
    have := A.len
    exact ⟨⟨i + 1, rfl, N.1⟩, o2.1, N.2, by omega⟩
theorem AtF.fin {xs : List I3} {f t : Int} {fs : List Int} (h : AtF xs f t fs) (A : Ask xs f t) (hn : augN xs fs f t = 0) : maxF xs f t = fs := by
  obtain ⟨i, rfl, hi⟩ := h.is
  have o := flowAt_ok A i
  rcases aug_zero (t := t) A o.2 with ⟨hr, _, _⟩ | ⟨_, hp, _, _⟩
  · exact maxF_is A hi hr
  · omega
theorem mu_lt {xs : List I3} {f : Int} {W W' : World} {v v' : Value} {b b' : Nat} {fs fs' : List Int} (h : W.ownsRow b 3 1 v xs.length (M4.iv fs)) (h' : W'.ownsRow b' 3 1 v' xs.length (M4.iv fs')) (lt : outUp xs fs f xs.length < outUp xs fs' f xs.length) (le : outUp xs fs' f xs.length ≤ 2000) : mu8 xs f W' v' < mu8 xs f W v := by
  unfold mu8; rw [rdL_own h, rdL_own h']; omega
theorem maxF_ok {xs : List I3} {f t : Int} (A : Ask xs f t) : (maxF xs f t).length = xs.length ∧ fitUp xs (maxF xs f t) xs.length := flowAt_ok A 2000
/-- What is answered. -/
noncomputable def agL (xs : List I3) (f t : Int) (fs : List Int) : List Int := if isR xs f t fs = true then ansL xs fs f t else []
noncomputable def agN (xs : List I3) (f t : Int) (fs : List Int) : Int := if isR xs f t fs = true then augN xs fs f t else 0
noncomputable def agB (xs : List I3) (f t : Int) (fs : List Int) : Bool := isR xs f t fs && decide (0 < augN xs fs f t)
def mxL (xs : List I3) (f t : Int) : List Int := if ask xs f t = true then maxF xs f t else []
def mxN (xs : List I3) (f t : Int) : Int := if ask xs f t = true then outUp xs (maxF xs f t) f xs.length else 0
def sideUp (l : List Int) : Nat → List Int
  | 0 => []
  | m + 1 => sideUp l m ++ (if l.getD m 0 ≠ -1 then [(m : Int)] else [])
theorem side_len (l : List Int) (m : Nat) : (sideUp l m).length ≤ m := by
  induction m with
  | zero => simp [sideUp]
  | succ m ih => rw [sideUp, List.length_append]; split <;> simp <;> omega
theorem side_yes {l : List Int} {m : Nat} (h : l.getD m 0 ≠ -1) : sideUp l (m + 1) = sideUp l m ++ [(m : Int)] := by rw [sideUp, if_pos h]
theorem side_no {l : List Int} {m : Nat} (h : l.getD m 0 = -1) : sideUp l (m + 1) = sideUp l m := by rw [sideUp, if_neg (by simp only [ne_eq, h, not_true]; exact id), List.append_nil]
def cutL (xs : List I3) (f t : Int) : List Int := sideUp (srch xs (maxF xs f t) f).by_ 8
def mcL (xs : List I3) (f t : Int) : List Int := if ask xs f t = true then cutL xs f t else []
def mcN (xs : List I3) (f t : Int) : Int := if ask xs f t = true then capUp xs (cutL xs f t) xs.length else 0
theorem agL_len {xs : List I3} {f t : Int} {fs : List Int} (h : fs.length ≤ 1048576) : (agL xs f t fs).length ≤ 1048576 := by
  unfold agL ansL; split
  · split
    · rw [augL_len]; exact h
    · simp
  · simp
theorem mxL_len (xs : List I3) (f t : Int) : (mxL xs f t).length ≤ 1048576 := by
  unfold mxL; split
  · rename_i h; rw [(maxF_ok (ask_is h)).1]; have := (ask_is h).len; omega
  · simp
theorem mcL_len (xs : List I3) (f t : Int) : (mcL xs f t).length ≤ 1048576 := by
  unfold mcL cutL; split
  · have := side_len (srch xs (maxF xs f t) f).by_ 8; omega
  · simp
/-- The three answers, said without what they are made of. -/
structure AgC (xs : List I3) (f t : Int) (fs : List Int) (is : Bool) (N : Int) (L : List Int) (B : Bool) (n : Int) (l : List Int) : Prop where
  no : is = false → N = 0 ∧ L = [] ∧ B = false
  yes : is = true → N = n ∧ L = l ∧ B = decide (0 < n)
theorem agC (xs : List I3) (f t : Int) (fs : List Int) : AgC xs f t fs (isR xs f t fs) (agN xs f t fs) (agL xs f t fs) (agB xs f t fs) (augN xs fs f t) (ansL xs fs f t) := by
  constructor <;> intro h <;> simp [agN, agL, agB, h]
structure MxC (xs : List I3) (f : Int) (is : Bool) (N : Int) (L : List Int) (F : List Int) : Prop where
  no : is = false → N = 0 ∧ L = []
  yes : is = true → N = outUp xs F f xs.length ∧ L = F
theorem mxC (xs : List I3) (f t : Int) : MxC xs f (ask xs f t) (mxN xs f t) (mxL xs f t) (maxF xs f t) := by
  constructor <;> intro h <;> simp [mxN, mxL, h]
structure McC (xs : List I3) (is : Bool) (N : Int) (L : List Int) (C : List Int) : Prop where
  no : is = false → N = 0 ∧ L = []
  yes : is = true → N = capUp xs C xs.length ∧ L = C
theorem mcC (xs : List I3) (f t : Int) : McC xs (ask xs f t) (mcN xs f t) (mcL xs f t) (cutL xs f t) := by
  constructor <;> intro h <;> simp [mcN, mcL, h]
end FL
end Go.Proofs.Ytpabhjnpbnabiaa
