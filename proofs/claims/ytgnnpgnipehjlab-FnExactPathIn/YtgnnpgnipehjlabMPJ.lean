/- Paths in a forest as the two functions search them: plain facts. -/
import Derived.Test.YtgnnpgnipehjlabMPI
import Derived.Test.YtgnnpgnipehjlabCLinked
namespace Go.Proofs.Ytgnnpgnipehjlab
open Go.RowKit
namespace EG
def cm (came : Int) : Option Nat := if came < 0 then none else some came.toNat
def SS (os : List Int) : Nat → Prop := fun k => (k : Int) ∈ os
/-- Where a path begins and how one came. -/
structure At (xs : List I3) (os : List Int) (f : Nat) (came : Int) (a : Nat) : Prop where
  ok : Oky (en xs) (SS os) f (cm came) a
  lt : a < 8
  ge : -1 ≤ came
  le : came ≤ 24
def pathO (xs : List I3) (os : List Int) (b f : Nat) (came : Int) (a : Nat) : Option (List Int) := pth (en xs) os b f (cm came) a
/-- From edge j of some on. -/
def restO (xs : List I3) (os : List Int) (b f : Nat) (came : Int) (a j : Nat) : Option (List Int) := pthL (en xs) (fun k c => pth (en xs) os b f (some k) c) (cm came) a (os.drop j)
def oL (r : Option (List Int)) : List Int := r.getD []
theorem drop_cons (os : List Int) {j : Nat} (h : j < os.length) : os.drop j = os.getD j 0 :: os.drop (j + 1) := by
  rw [List.drop_eq_getElem_cons h]; simp [List.getD_eq_getElem?_getD, List.getElem?_eq_getElem h]
theorem path_zero {xs : List I3} {os : List Int} {b f : Nat} {came : Int} : pathO xs os b (f + 1) came b = some [] := by simp [pathO, pth]
theorem path_rest {xs : List I3} {os : List Int} {a b f : Nat} {came : Int} (h : a ≠ b) : pathO xs os b (f + 1) came a = restO xs os b f came a 0 := by simp [pathO, restO, pth, h]
theorem rest_end {xs : List I3} {os : List Int} {a b f : Nat} {came : Int} : restO xs os b f came a os.length = none := by simp [restO, pthL]
theorem rest_skip {xs : List I3} {os : List Int} {a b f j i : Nat} {came : Int} (hj : j < os.length) (hi : os.getD j 0 = (i : Int)) (h : jn (en xs i) a = none ∨ (i : Int) = came) : restO xs os b f came a j = restO xs os b f came a (j + 1) := by
  rw [restO, drop_cons os hj, hi, pthL, Int.toNat_natCast]
  rcases h with h | h
  · rw [h]; rfl
  · have : some i = cm came := by rw [← h]; simp [cm]
    cases jn (en xs i) a with
    | none => rfl
    | some c => show (if some i = cm came then _ else _) = _; rw [if_pos this]; rfl
theorem cm_nat (i : Nat) : cm (i : Int) = some i := by simp [cm]
theorem cm_ne {i : Nat} {came : Int} (h : (i : Int) ≠ came) : some i ≠ cm came := by
  unfold cm; split
  · simp
  · intro e; simp at e; omega
theorem rest_yes {xs : List I3} {os : List Int} {a b c f j i : Nat} {came : Int} {r : List Int} (hj : j < os.length) (hi : os.getD j 0 = (i : Int)) (h : jn (en xs i) a = some c) (hc : (i : Int) ≠ came) (hr : pathO xs os b f (i : Int) c = some r) : restO xs os b f came a j = some ((i : Int) :: r) := by
  rw [restO, drop_cons os hj, hi, pthL, Int.toNat_natCast, h]
  rw [pathO, cm_nat] at hr
  simp only [cm_ne hc, if_false, hr]
theorem rest_no {xs : List I3} {os : List Int} {a b c f j i : Nat} {came : Int} (hj : j < os.length) (hi : os.getD j 0 = (i : Int)) (h : jn (en xs i) a = some c) (hc : (i : Int) ≠ came) (hr : pathO xs os b f (i : Int) c = none) : restO xs os b f came a j = restO xs os b f came a (j + 1) := by
  rw [restO, drop_cons os hj, hi, pthL, Int.toNat_natCast, h]
  rw [pathO, cm_nat] at hr
  simp only [cm_ne hc, if_false, hr]; rfl
theorem At.step {xs : List I3} {os : List Int} {a c f j i : Nat} {came : Int} (h : At xs os (f + 1) came a) (hj : j < os.length) (hi : os.getD j 0 = (i : Int)) (hil : i < 24) (hn : jn (en xs i) a = some c) (hc : (i : Int) ≠ came) (hc8 : c < 8) : At xs os f (i : Int) c := by
  refine ⟨?_, hc8, by omega, by omega⟩
  rw [cm_nat]
  refine h.ok.step ?_ (cm_ne hc) hn
  show (i : Int) ∈ os
  rw [← hi, List.getD_eq_getElem?_getD, List.getElem?_eq_getElem hj]; exact List.getElem_mem hj
theorem path_len (xs : List I3) (os : List Int) (b f : Nat) (came : Int) (a : Nat) : (oL (pathO xs os b f came a)).length ≤ f := by
  unfold oL pathO
  cases h : pth (en xs) os b f (cm came) a with
  | none => simp
  | some r => exact pth_len _ _ _ _ _ _ _ h
end EG
end Go.Proofs.Ytgnnpgnipehjlab
