/- A region that draws its order, walked by hand over a frame that is a variable: plain facts, over whatever program. -/
import Derived.WalkKit
import Derived.BigCall
import Derived.RegionTactic
namespace Go.Proofs.Ytdgflhgbcfehhaa
namespace MR
open Go.RowKit
variable {P : Program} {md : Region.Mode} {ops : Array Oper} {Q : Exit → Act → World → Prop}
theorem frame {c : Code} {a : Act} {w : World} (h : ∀ A : Act, A = a → Code.wp P c Q A w) : Code.wp P c Q a w := h a rfl
theorem ev (a : Act) (d t : Nat) (v : Value) : (a.put (some d) v).eval (.tmp t) = if t = d then (if d < a.tmps.size then v else undef) else a.eval (.tmp t) := by
  by_cases h : t = d
  · subst h
    simp only [Act.eval, Act.put, if_true]
    by_cases h : t < a.tmps.size
    · simp [h]
    · simp [h]
  · rw [if_neg h, Act.eval_put (by intro d' hd; cases hd; simpa using h)]
theorem name {K : Act → World → Prop} {a : Act} {w : World} (h : ∀ B : Act, B = a → K B w) : K a w := h a rfl
theorem read {A : Act} {t : Nat} {v : Value} (hs : t < A.tmps.size) (e : A.eval (.tmp t) = v) : A.tmps[t]'hs = v := by
  simpa [Act.eval, Array.getD, hs] using e
theorem size (a : Act) (d : Option Nat) (v : Value) : (a.put d v).tmps.size = a.tmps.size := by
  cases d <;> simp [Act.put]
theorem free {o : Oper} {y : Nat → Option Bool} (h : o.guard = none) : Region.wanted o y = true := by simp [Region.wanted, h]
theorem want {o : Oper} {a : Act} {g d : Nat} {b : Bool} (hg : o.guard = some (g, b)) (hd : (ops[g]?).bind (·.dst) = some d) (hs : d < a.tmps.size) (hv : a.eval (.tmp d) = .bool b) : Region.wanted o (yielded ops a.tmps) = true := by
  simp only [Act.eval] at hv
  have : a.tmps[d]? = some (.bool b) := by
    rw [Array.getElem?_eq_getElem hs]
    simpa [Array.getD, hs] using hv
  simp [Region.wanted, hg, yielded, hd, this]
theorem take {i : Nat} (d : Option Tmp) (v : Value) {oi : Oper} {fuel : Nat} {listed : Array Bool} {a : Act} {w : World} (hi : ops[i]? = some oi) (hd : oi.dst = d)
    (hs : Region.noSelect ops = true) (hf : Region.free md ops listed i = true) (hr : (Region.ready md ops listed).contains i = true)
    (hQ : ∀ c a w, Q (.panic c) (a.put d v) w → Q (.panic c) a w) (hw : Region.wanted oi (yielded ops a.tmps) = true) (hx : ∀ w, (execOp a.eval oi).run P w = .ok (.value v) w)
    (h : wpAny P md ops Q fuel (listed.setIfInBounds i true) (a.put d v) w) : wpAny P md ops Q (fuel + 1) listed a w := by
  subst hd
  exact wpAny_take hi hs hf hr hQ (.inl ⟨hw, hx⟩) h
theorem now {i : Nat} (d : Option Tmp) (v : Value) {o : Oper} {fuel : Nat} {listed : Array Bool} {a : Act} {w : World} (hr : Region.ready md ops listed = [i]) (hi : ops[i]? = some o) (hd : o.dst = d)
    (hw : Region.wanted o (yielded ops a.tmps) = true) (hx : (execOp a.eval o).run P w = .ok (.value v) w)
    (h : wpAny P md ops Q fuel (listed.setIfInBounds i true) (a.put d v) w) : wpAny P md ops Q (fuel + 1) listed a w := by
  subst hd
  refine wpAny_ready hr (by simp) (AllReady.cons hi (fun K hK => ?_) AllReady.nil)
  rw [if_pos hw]
  unfold Oper.wp
  rw [hx, Oper.upon_value]
  exact hK _ _ h
theorem call {i : Nat} (d : Option Tmp) (f : FuncId) (args : Array Value) {o : Oper} {fuel : Nat} {listed : Array Bool} {a : Act} {w : World} (hr : Region.ready md ops listed = [i]) (hi : ops[i]? = some o) (hd : o.dst = d)
    (hw : Region.wanted o (yielded ops a.tmps) = true) (hx : (execOp a.eval o).run P w = .ok (.enter f args) w)
    (h : Calls P f args w fun e w' => ∃ v, e = .returned v ∧ wpAny P md ops Q fuel (listed.setIfInBounds i true) (a.put d v) w') : wpAny P md ops Q (fuel + 1) listed a w := by
  subst hd
  refine wpAny_ready hr (by simp) (AllReady.cons hi (fun K hK => ?_) AllReady.nil)
  rw [if_pos hw]
  unfold Oper.wp
  rw [hx, Oper.upon_enter]
  refine h.mono ?_
  rintro e w' ⟨v, rfl, h⟩
  exact hK _ _ h
end MR
end Go.Proofs.Ytdgflhgbcfehhaa
