/- A region that draws, with a chain of calls and an alloc beside it: its goal under one letter. Plain facts, over whatever program. -/
import Derived.Test.YtgajfpohlemahaaMRP
namespace Go.Proofs.Ytgajfpohlemahaa
namespace MR
open Go.RowKit
theorem pack {P : Program} {md : Region.Mode} {ops : Array Oper} {Q : Exit → Act → World → Prop} {S : World → Prop} {fuel : Nat} {l : Array Bool} {a : Act} {w : World}
    (h : ∀ G : Nat → Array Bool → Act → World → Prop, G = wpAnyH P md ops Q S → G fuel l a w) : wpAnyH P md ops Q S fuel l a w := h _ rfl
theorem put_comm (a : Act) {d e : Nat} (u v : Value) (h : d ≠ e) : (a.put (some d) u).put (some e) v = (a.put (some e) v).put (some d) u := by
  simp only [Act.put]
  rw [Array.setIfInBounds_comm _ _ h]
theorem storeN {P : Program} {md : Region.Mode} {ops : Array Oper} {Q : Exit → Act → World → Prop} {S : World → Prop} {i : Nat} {w' : World} {o : Oper} {fuel : Nat} {listed : Array Bool} {a : Act} {w : World} (hr : Region.ready md ops listed = [i]) (hi : ops[i]? = some o) (hd : o.dst = none)
    (hw : Region.wanted o (yielded ops a.tmps) = true) (hx : (execOp a.eval o).run P w = .ok .skip w')
    (h : S w' ∧ wpAnyH P md ops Q S fuel (listed.setIfInBounds i true) a w') : wpAnyH P md ops Q S (fuel + 1) listed a w :=
  storeH hr hi hw hx (by rw [hd]; exact h)
end MR
end Go.Proofs.Ytgajfpohlemahaa
