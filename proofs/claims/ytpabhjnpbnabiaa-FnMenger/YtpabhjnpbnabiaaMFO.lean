/- What goes out of a node, what is a flow, what a cut lets: plain facts, over whatever program. -/
import Derived.Test.YtpabhjnpbnabiaaMFL
namespace Go.Proofs.Ytpabhjnpbnabiaa
namespace FL
open Go.RowKit
def nodeOk (n : Int) : Bool := decide (0 ≤ n ∧ n ≤ 7)
theorem node_yes {n : Int} (h : nodeOk n = true) : 0 ≤ n ∧ n ≤ 7 := by simpa only [nodeOk, decide_eq_true_eq] using h
/-- What may be asked. -/
def ask (xs : List I3) (f t : Int) : Bool := okP xs && (nodeOk f && (nodeOk t && !(f == t)))
structure Ask (xs : List I3) (f t : Int) : Prop where
  len : xs.length ≤ 20
  ok : okP xs = true
  f0 : 0 ≤ f
  f7 : f ≤ 7
  t0 : 0 ≤ t
  t7 : t ≤ 7
  ne : f ≠ t
theorem ask_is {xs : List I3} {f t : Int} (h : ask xs f t = true) : Ask xs f t := by
  simp only [ask, Bool.and_eq_true, Bool.not_eq_true', beq_eq_false_iff_ne] at h
  obtain ⟨h1, h2, h3, h4⟩ := h
  exact ⟨((okP_iff xs).1 h1).1, h1, (node_yes h2).1, (node_yes h2).2, (node_yes h3).1, (node_yes h3).2, h4⟩
theorem Ask.good {xs : List I3} {f t : Int} (h : Ask xs f t) {k : Nat} (hk : k < xs.length) : Good (MI3.at_ xs k) := okP_good h.ok hk
/-- What a pipe takes out of a node when v is in it. -/
def sg (c : I3) (n : Int) (v : Int) : Int := if c.a0 = n then v else if c.a1 = n then -v else 0
def outUp (xs : List I3) (fs : List Int) (n : Int) : Nat → Int
  | 0 => 0
  | k + 1 => outUp xs fs n k + sg (MI3.at_ xs k) n (fs.getD k 0)
/-- The first k numbers are within their pipes. -/
def fitUp (xs : List I3) (fs : List Int) (k : Nat) : Prop := ∀ j, j < k → 0 ≤ fs.getD j 0 ∧ fs.getD j 0 ≤ (MI3.at_ xs j).a2
theorem fitUp_succ {xs : List I3} {fs : List Int} {k : Nat} (h : fitUp xs fs k) (h1 : 0 ≤ fs.getD k 0 ∧ fs.getD k 0 ≤ (MI3.at_ xs k).a2) : fitUp xs fs (k + 1) := by
  intro j hj
  by_cases e : j = k
  · subst e; exact h1
  · exact h j (by omega)
/-- At most 100 a pipe, below and above. -/
theorem outUp_within {xs : List I3} {fs : List Int} {n : Int} (hg : okP xs = true) (hf : fitUp xs fs xs.length) (k : Nat) (hk : k ≤ xs.length) : -(100 * (k : Int)) ≤ outUp xs fs n k ∧ outUp xs fs n k ≤ 100 * (k : Int) := by
  induction k with
  | zero => simp [outUp]
  | succ k ih =>
    have h1 := ih (by omega)
    have h2 := hf k (by omega)
    have h3 := (okP_good hg (k := k) (by omega)).c1
    have h4 : -100 ≤ sg (MI3.at_ xs k) n (fs.getD k 0) ∧ sg (MI3.at_ xs k) n (fs.getD k 0) ≤ 100 := by
      unfold sg; split
      · omega
      · split <;> omega
    rw [outUp]
    push_cast
    omega
/-- Into the first m nodes as much comes as goes out, but for two. -/
def calmUp (xs : List I3) (fs : List Int) (f t : Int) (m : Nat) : Prop := ∀ j : Nat, j < m → (j : Int) ≠ f → (j : Int) ≠ t → outUp xs fs j xs.length = 0
theorem calmUp_succ {xs : List I3} {fs : List Int} {f t : Int} {m : Nat} (h : calmUp xs fs f t m) (h1 : (m : Int) ≠ f → (m : Int) ≠ t → outUp xs fs m xs.length = 0) : calmUp xs fs f t (m + 1) := by
  intro j hj
  by_cases e : j = m
  · subst e; exact h1
  · exact h j (by omega)
open Classical in
noncomputable def isF (xs : List I3) (fs : List Int) (f t : Int) : Bool := decide (fitUp xs fs xs.length ∧ calmUp xs fs f t 8)
theorem isF_yes {xs : List I3} {fs : List Int} {f t : Int} (h : fitUp xs fs xs.length) (h1 : calmUp xs fs f t 8) : isF xs fs f t = true := by
  simp only [isF, decide_eq_true_eq]; exact ⟨h, h1⟩
theorem isF_fit {xs : List I3} {fs : List Int} {f t : Int} (h : isF xs fs f t = true) : fitUp xs fs xs.length := by
  simp only [isF, decide_eq_true_eq] at h; exact h.1
theorem isF_no {xs : List I3} {fs : List Int} {f t : Int} {k : Nat} (hk : k < xs.length) (h : ¬ (0 ≤ fs.getD k 0 ∧ fs.getD k 0 ≤ (MI3.at_ xs k).a2)) : isF xs fs f t = false := by
  simp only [isF, decide_eq_false_iff_not]; intro e; exact h (e.1 k hk)
theorem isF_no2 {xs : List I3} {fs : List Int} {f t : Int} {m : Nat} (hm : m < 8) (h0 : (m : Int) ≠ f) (h1 : (m : Int) ≠ t) (h : outUp xs fs m xs.length ≠ 0) : isF xs fs f t = false := by
  simp only [isF, decide_eq_false_iff_not]; intro e; exact h (e.2 m hm h0 h1)
def askF (xs : List I3) (f t : Int) (fs : List Int) : Bool := ask xs f t && (fs.length == xs.length)
noncomputable def isR (xs : List I3) (f t : Int) (fs : List Int) : Bool := askF xs f t fs && isF xs fs f t
noncomputable def flR (xs : List I3) (f t : Int) (fs : List Int) : Int := if isR xs f t fs = true then outUp xs fs f xs.length else 0
theorem isR_ask {xs : List I3} {f t : Int} {fs : List Int} (h : isR xs f t fs = true) : Ask xs f t ∧ fs.length = xs.length ∧ fitUp xs fs xs.length := by
  simp only [isR, askF, Bool.and_eq_true, beq_iff_eq] at h
  exact ⟨ask_is h.1.1, h.1.2, isF_fit h.2⟩
theorem isR_ok {xs : List I3} {f t : Int} {fs : List Int} (h : isR xs f t fs = true) : askF xs f t fs = true := by
  simp only [isR, Bool.and_eq_true] at h; exact h.1
/-- What the pipes from some nodes to others bear, the first k. -/
def hasN (zs : List Int) (x : Int) : Bool := decide (x ∈ zs)
def capUp (xs : List I3) (zs : List Int) : Nat → Int
  | 0 => 0
  | k + 1 => capUp xs zs k + (if hasN zs (MI3.at_ xs k).a0 = true ∧ hasN zs (MI3.at_ xs k).a1 = false then (MI3.at_ xs k).a2 else 0)
theorem capUp_within {xs : List I3} {zs : List Int} (hg : okP xs = true) (k : Nat) (hk : k ≤ xs.length) : 0 ≤ capUp xs zs k ∧ capUp xs zs k ≤ 100 * (k : Int) := by
  induction k with
  | zero => simp [capUp]
  | succ k ih =>
    have h1 := ih (by omega)
    have h3 := okP_good hg (k := k) (by omega)
    have h4 := h3.c0
    have h5 := h3.c1
    rw [capUp]
    push_cast
    split <;> omega
end FL
end Go.Proofs.Ytpabhjnpbnabiaa
