/- Who of the reached is there by a time: plain facts. -/
import Derived.Test.YtjplabldiheggaaMReL
namespace Go.Proofs.Ytjplabldiheggaa
open Go.RowKit
namespace RQ
def delL (xs : List I5) (b : Bd) (ms : List Int) (n : Int) : List Int := ((reaL xs b ms).filter (inTime n)).map (·.1)
noncomputable def delOk (xs : List I5) (b : Bd) (ms : List Int) (n : Int) : Bool := reaOk xs b ms && decide (0 ≤ n ∧ n ≤ 2000)
noncomputable def delA (xs : List I5) (b : Bd) (ms : List Int) (n : Int) : List Int := if delOk xs b ms n = true then delL xs b ms n else []
theorem del_no {xs : List I5} {b : Bd} {ms : List Int} {n : Int} (h : delOk xs b ms n = false) : delA xs b ms n = [] := by unfold delA; rw [h]; rfl
theorem del_yes {xs : List I5} {b : Bd} {ms : List Int} {n : Int} (h : delOk xs b ms n = true) : delA xs b ms n = delL xs b ms n := by unfold delA; rw [if_pos h]
theorem delA_len (xs : List I5) (b : Bd) (ms : List Int) (n : Int) : (delA xs b ms n).length ≤ 1048576 := by
  unfold delA
  split
  · next h =>
    unfold delOk reaOk at h
    simp only [Bool.and_eq_true] at h
    have h1 := GP.rises_len h.1.2
    have h2 := reaL_len xs b ms
    have h3 := List.length_filter_le (inTime n) (reaL xs b ms)
    unfold delL
    rw [List.length_map]; omega
  · simp
/-- The first k's. -/
def delUp (ps : List Rq) (n : Int) (k : Nat) : List Int := ((ps.take k).filter (fun p => inTime n p.said)).map Rq.m
theorem delUp_len (ps : List Rq) (n : Int) (k : Nat) : (delUp ps n k).length ≤ k := by
  unfold delUp
  rw [List.length_map]
  exact Nat.le_trans (List.length_filter_le _ _) (by rw [List.length_take]; omega)
theorem delUp_yes {ps : List Rq} {n : Int} {k : Nat} (hk : k < ps.length) (h : decide ((at_ ps k).t ≤ n) = true) : delUp ps n (k + 1) = delUp ps n k ++ [(at_ ps k).m] := by
  unfold delUp
  have h' : inTime n (at_ ps k).said = true := h
  rw [List.take_succ_eq_append_getElem hk, ← at_eq hk, List.filter_append, List.filter_cons, if_pos h', List.map_append]; rfl
theorem delUp_no {ps : List Rq} {n : Int} {k : Nat} (hk : k < ps.length) (h : decide ((at_ ps k).t ≤ n) = false) : delUp ps n (k + 1) = delUp ps n k := by
  unfold delUp
  have h' : inTime n (at_ ps k).said = false := h
  rw [List.take_succ_eq_append_getElem hk, ← at_eq hk, List.filter_append, List.filter_cons, h']; simp
theorem delUp_end {ps : List Rq} {n : Int} {xs : List I5} {b : Bd} {ms : List Int} (h : ps.map Rq.said = reaL xs b ms) : delUp ps n ps.length = delL xs b ms n := by
  unfold delUp delL
  rw [List.take_length, ← h, ← said_filter, List.map_map]; rfl
theorem told_end {ps : List Rq} {n : Int} {xs : List I5} {b : Bd} {ms : List Int} (h : ps.map Rq.said = reaL xs b ms) : (ps.filter (fun p => inTime n p.said)).map Rq.m = delL xs b ms n := by
  unfold delL
  rw [← h, ← said_filter, List.map_map]; rfl
theorem map_snoc {ps : List Rq} {k : Nat} (hk : k < ps.length) : (ps.take (k + 1)).map Rq.m = (ps.take k).map Rq.m ++ [(at_ ps k).m] := by
  rw [List.take_succ_eq_append_getElem hk, List.map_append, ← at_eq hk]; rfl
end RQ
end Go.Proofs.Ytjplabldiheggaa
