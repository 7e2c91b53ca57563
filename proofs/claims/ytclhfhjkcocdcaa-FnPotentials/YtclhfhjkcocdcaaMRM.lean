/- Roads by potentials, and marks in rows of roads: plain facts. -/
import Derived.Test.YtclhfhjkcocdcaaMRJ
namespace Go.Proofs.Ytclhfhjkcocdcaa
namespace RD
open Go.RowKit
/-- A road's cost by potentials. -/
def rd1 (p : Cs) (r : I3) : I3 := ⟨r.a0, r.a1, r.a2 + p r.a0.toNat - p r.a1.toNat⟩
def rdN (p : Cs) (xs : List I3) (k : Nat) : List I3 := (xs.take k).map (rd1 p) ++ xs.drop k
def rrL (xs : List I3) : List I3 := if fine xs then xs.map (rd1 (pot xs)) else []
theorem rrL_yes {xs : List I3} (h : fine xs = true) : rrL xs = xs.map (rd1 (pot xs)) := by rw [rrL, h]; rfl
theorem rrL_no {xs : List I3} (h : fine xs = false) : rrL xs = [] := by rw [rrL, h]; rfl
theorem rrL_len (xs : List I3) (h : xs.length ≤ 1048576) : (rrL xs).length ≤ 1048576 := by unfold rrL; split <;> simp [h]
theorem rdN_zero (p : Cs) (xs : List I3) : rdN p xs 0 = xs := by simp [rdN]
theorem rdN_all (p : Cs) (xs : List I3) : rdN p xs xs.length = xs.map (rd1 p) := by simp [rdN]
theorem rdN_len (p : Cs) (xs : List I3) (k : Nat) (h : k ≤ xs.length) : (rdN p xs k).length = xs.length := by simp [rdN]; omega
theorem flat_set2 (As Cs' : List I3) (x : I3) (z : Int) : (MI3.flat (As ++ x :: Cs')).set (As.length * 3 + 2) (.int .i64 z) = MI3.flat (As ++ ⟨x.a0, x.a1, z⟩ :: Cs') := by
  rw [MI3.flat_app, MI3.flat_app, List.set_append_right _ _ (by rw [MI3.flat_len]; omega), MI3.flat_len, show As.length * 3 + 2 - As.length * 3 = 2 from by omega]
  rfl
theorem rdN_set (p : Cs) (xs : List I3) (k : Nat) (h : k < xs.length) : (MI3.flat (rdN p xs k)).set (k * 3 + 2) (.int .i64 ((MI3.at_ xs k).a2 + p (MI3.at_ xs k).a0.toNat - p (MI3.at_ xs k).a1.toNat)) = MI3.flat (rdN p xs (k + 1)) := by
  have e1 : rdN p xs k = (xs.take k).map (rd1 p) ++ xs[k] :: xs.drop (k + 1) := by rw [rdN, List.drop_eq_getElem_cons h]
  have e2 : rdN p xs (k + 1) = (xs.take k).map (rd1 p) ++ rd1 p xs[k] :: xs.drop (k + 1) := by
    rw [rdN, List.take_succ_eq_append_getElem h, List.map_append, List.append_assoc]; rfl
  have el : ((xs.take k).map (rd1 p)).length = k := by simp; omega
  have := flat_set2 ((xs.take k).map (rd1 p)) (xs.drop (k + 1)) xs[k] (xs[k].a2 + p xs[k].a0.toNat - p xs[k].a1.toNat)
  rw [el] at this
  rw [e1, e2, MI3.at_eq xs k h, this]; rfl
theorem take_map_succ (p : Cs) (xs : List I3) (k : Nat) (h : k < xs.length) : (xs.take (k + 1)).map (rd1 p) = (xs.take k).map (rd1 p) ++ [rd1 p (MI3.at_ xs k)] := by
  rw [List.take_succ_eq_append_getElem h, List.map_append, MI3.at_eq xs k h]; rfl
/-- A row of roads that the call owns, whatever lies there. -/
theorem own_view3 {w : World} {base e : Nat} {v : Value} {xs : List I3} (h : w.ownsRow base e 3 v xs.length (MI3.flat xs)) : ∃ a cap, v = .slice a xs.length cap ∧ MI3.RowAt w a xs := by
  rcases h.2 with ⟨rfl, h0⟩ | ⟨g, cap, cur, rfl, _⟩
  · obtain rfl : xs = [] := List.eq_nil_of_length_eq_zero h0
    exact ⟨none, 0, rfl, ⟨.inl rfl⟩⟩
  · have hlen : xs.length = xs.length := rfl
    refine ⟨_, cap, rfl, ⟨.inr ⟨g, 0, rfl, (h.lt g rfl).2, fun j hj => ?_⟩⟩⟩
    have hc : ∀ i, i < 3 → w.cell? ⟨g, j * 3 + i, none⟩ = (MI3.at_ xs j).cs[i]? := fun i hi => by
      rw [h.cellAt (j * 3 + i) (by omega), ← MI3.flat_get xs j i hj hi, Nat.mul_comm]
    refine ⟨?_, ?_, ?_⟩
    · rw [Nat.zero_add]; exact hc 0 (by omega)
    · rw [Nat.zero_add]; exact hc 1 (by omega)
    · rw [Nat.zero_add]; exact hc 2 (by omega)
theorem own_roads {w : World} {base e n cap : Nat} {a : Option Addr} {xs : List I3} (h : w.ownsRow base e 3 (.slice a n cap) n (MI3.flat xs)) : MI3.RowAt w a xs := by
  have hlen : xs.length = n := by have := h.1; rw [MI3.flat_len] at this; omega
  subst hlen
  obtain ⟨a', cap', he, hi⟩ := own_view3 h
  simp only [Value.slice.injEq] at he
  obtain ⟨rfl, _, _⟩ := he
  exact hi
/-- Marks k, k + 1, .. in a row of n roads; the first i of them, then what lay there. -/
def mk1 (k : Int) (i : Nat) : I3 := ⟨k + 3 * i, k + 3 * i + 1, k + 3 * i + 1 + 1⟩
def mks (k : Int) (n : Nat) : List I3 := (List.range n).map (mk1 k)
def mkN (xs : List I3) (k : Int) (i : Nat) : List I3 := mks k i ++ xs.drop i
theorem mks_len (k : Int) (n : Nat) : (mks k n).length = n := by simp [mks]
theorem mks_at (k : Int) (n : Nat) {i : Nat} (h : i < n) : MI3.at_ (mks k n) i = mk1 k i := by simp [MI3.at_, mks, h]
theorem mkN_zero (xs : List I3) (k : Int) : mkN xs k 0 = xs := by simp [mkN, mks]
theorem mkN_all (xs : List I3) (k : Int) : mkN xs k xs.length = mks k xs.length := by simp [mkN]
theorem mkN_len (xs : List I3) (k : Int) (i : Nat) (h : i ≤ xs.length) : (mkN xs k i).length = xs.length := by simp [mkN, mks_len]; omega
theorem mkN_set (xs : List I3) (k : Int) (i : Nat) (h : i < xs.length) :
    (((MI3.flat (mkN xs k i)).set (i * 3) (.int .i64 (k + 3 * i))).set (i * 3 + 1) (.int .i64 (k + 3 * i + 1))).set (i * 3 + 2) (.int .i64 (k + 3 * i + 1 + 1)) = MI3.flat (mkN xs k (i + 1)) := by
  have e1 : mkN xs k i = mks k i ++ xs[i] :: xs.drop (i + 1) := by rw [mkN, List.drop_eq_getElem_cons h]
  have e2 : mkN xs k (i + 1) = mks k i ++ mk1 k i :: xs.drop (i + 1) := by rw [mkN, mks, List.range_succ]; simp [mks]
  have fl : (MI3.flat (mks k i)).length = i * 3 := by rw [MI3.flat_len, mks_len]
  rw [e1, e2, MI3.flat_app, MI3.flat_app]
  exact MI3.setC (MI3.flat (mks k i)) (MI3.flat (xs.drop (i + 1))) (i * 3) fl _ _ _ _ _ _
end RD
end Go.Proofs.Ytclhfhjkcocdcaa
