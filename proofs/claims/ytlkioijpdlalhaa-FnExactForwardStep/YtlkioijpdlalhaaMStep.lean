/- The step that is first on a route: plain facts. -/
import Derived.Test.YtlkioijpdlalhaaMFit
import Derived.Test.YtlkioijpdlalhaaMWayI
import Derived.Test.YtlkioijpdlalhaaCArrO
namespace Go.Proofs.Ytlkioijpdlalhaa
open Go.RowKit
namespace GP
open PN FL
/-- The first contact of a route leads on from where one is, and can be taken then. -/
theorem first_of {xs : List I5} {f n t : Int} (h : tellB (routeM xs f n t) = true) (hne : routeL xs f n t ≠ []) :
    startOk xs f n = true ∧ 0 < (routeL xs f n t).length ∧ (0 ≤ (routeL xs f n t).getD 0 0 ∧ (routeL xs f n t).getD 0 0 < xs.length) ∧ (ofN xs ((routeL xs f n t).getD 0 0)).a0 = f ∧ ¬ (ofN xs ((routeL xs f n t).getD 0 0)).a3 ≤ n ∧ arrM xs f n [(routeL xs f n t).getD 0 0] = .fin (ov (ofN xs ((routeL xs f n t).getD 0 0)) n) := by
  have ha : askOk xs f n t = true := by
    cases c : askOk xs f n t with
    | true => rfl
    | false => rw [route_no c] at h; cases h
  obtain ⟨hst, t0, t1⟩ := ask_is ha
  obtain ⟨hok, f0, f1, n0, n1⟩ := start_is hst
  have hs0 := st0_ok (f := f) n0 n1
  have hO := ord_st0 hok (f := f) (n := n)
  have hX := vix_fin hok hs0 hO (vix_st0 xs (f := f) (n := n))
  obtain ⟨rk, hV⟩ := via_fin hok hs0 hO (via_st0 xs f0 f1 (n := n))
  have hL := routeL_yes h
  rw [route_yes ha] at h
  obtain ⟨u, hu⟩ : ∃ u, (fin xs (st0 f n)).wh t.toNat = .fin u := by
    cases c : (fin xs (st0 f n)).wh t.toNat with
    | fin u => exact ⟨u, rfl⟩
    | inf => rw [c] at h; cases h
    | ago => rw [c] at h; cases h
  obtain ⟨w1, w2, w3, w4⟩ := way_is hok (fi := f) (by omega : f = (f.toNat : Int)) hX hV 8 t.toNat u hu (Nat.le_trans (hV.top _ _ hu) (cnt_le _))
  rw [← hL] at w1 w2 w3
  generalize routeL xs f n t = L at *
  have hl : 0 < L.length := by cases L with | nil => exact absurd rfl hne | cons _ _ => simp
  have hin := w2 0 hl
  have hgo : (ofN xs (L.getD 0 0)).a0 = f := w3 0 hl
  have hmo : mo xs L n 1 = arr (ofN xs (L.getD 0 0)) (.fin n) := rfl
  have hne2 : ¬ (ofN xs (L.getD 0 0)).a3 ≤ n := fun c => by
    have := mo_inf (xs := xs) (os := L) (n := n) (k := 1) (by rw [hmo, (ov_no c).2]) (L.length - 1)
    rw [show 1 + (L.length - 1) = L.length by omega, w1] at this
    cases this
  refine ⟨hst, hl, ⟨hin.1, hin.2⟩, hgo, hne2, ?_⟩
  have hin1 : inUp xs.length [L.getD 0 0] [L.getD 0 0].length := fun i hi => by
    obtain rfl : i = 0 := by simpa using hi
    exact hin
  have hgo1 : goUp xs f [L.getD 0 0] [L.getD 0 0].length := fun i hi => by
    obtain rfl : i = 0 := by simpa using hi
    exact hgo
  rw [arrM_yes (way_go hst ((inP_iff _ _).2 hin1) (by simp) hgo1), ← ov_yes hne2]; rfl
/-- Whether there is a step that is in time; the contact, and when one is there by it. -/
def stepOk (xs : List I5) (b : Bd) (f n t : Int) : Bool := fitsB xs b && tellB (routeM xs f n t) && decide (routeL xs f n t ≠ []) && decide (ov (ofN xs ((routeL xs f n t).getD 0 0)) n ≤ b.md + b.lf)
def stepK (xs : List I5) (b : Bd) (f n t : Int) : Int := if stepOk xs b f n t = true then (routeL xs f n t).getD 0 0 else 0
def stepT (xs : List I5) (b : Bd) (f n t : Int) : Int := if stepOk xs b f n t = true then ov (ofN xs ((routeL xs f n t).getD 0 0)) n else 0
theorem step_no {xs : List I5} {b : Bd} {f n t : Int} (h : stepOk xs b f n t = false) : stepK xs b f n t = 0 ∧ stepT xs b f n t = 0 := by unfold stepK stepT; rw [h]; exact ⟨rfl, rfl⟩
theorem step_yes {xs : List I5} {b : Bd} {f n t : Int} (h : stepOk xs b f n t = true) : stepK xs b f n t = (routeL xs f n t).getD 0 0 ∧ stepT xs b f n t = ov (ofN xs ((routeL xs f n t).getD 0 0)) n := by unfold stepK stepT; rw [h]; exact ⟨rfl, rfl⟩
end GP
end Go.Proofs.Ytlkioijpdlalhaa
