/- Custodies that tell the same are as long as one another. -/
import Derived.Test.YtfkmnmiolnijaaaCToCu
namespace Go.Proofs.Ytfkmnmiolnijaaa
open Go.RowKit
theorem CuLen.of_said {c d : Cu} (h : CuLen c) (e : d.said = c.said) : CuLen d := by
  have e1 : d.us = c.us := congrArg CuS.us e
  have e2 : d.ks.map Kp.said = c.ks.map Kp.said := congrArg CuS.ks e
  have e3 : d.ls = c.ls := congrArg CuS.ls e
  have e4 : d.ns = c.ns := congrArg CuS.ns e
  have el : d.ks.length = c.ks.length := by have := congrArg List.length e2; simpa using this
  refine ⟨by rw [e1]; exact h.u, by rw [el]; exact h.k, by rw [e3]; exact h.l, by rw [e4]; exact h.n, fun j hj => ?_⟩
  have hj' : j < c.ks.length := by rw [← el]; exact hj
  have es : (KP.at_ d.ks j).said = (KP.at_ c.ks j).said := by rw [← KP.sd_at hj, ← KP.sd_at hj', e2]
  have := h.r j hj'
  simp only [Kp.said, Prod.mk.injEq] at es
  rw [es.1, es.2.1, es.2.2]
  exact this
end Go.Proofs.Ytfkmnmiolnijaaa
