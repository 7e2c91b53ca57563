/- What a pipe takes out of a node: plain facts. -/
import Derived.Test.YtpabhjnpbnabiaaMFO
namespace Go.Proofs.Ytpabhjnpbnabiaa
open Go.RowKit
namespace FL
theorem sg_from {x0 x1 x2 n v : Int} (h : x0 = n) : sg ⟨x0, x1, x2⟩ n v = v := by simp [sg, h]
theorem sg_to {x0 x1 x2 n v : Int} (h : x0 ≠ n) (h1 : x1 = n) : sg ⟨x0, x1, x2⟩ n v = -v := by simp [sg, h, h1]
theorem sg_no {x0 x1 x2 n v : Int} (h : x0 ≠ n) (h1 : x1 ≠ n) : sg ⟨x0, x1, x2⟩ n v = 0 := by simp [sg, h, h1]
end FL
end Go.Proofs.Ytpabhjnpbnabiaa
