/- When one is there by a contact: plain facts. -/
import Derived.Test.YtjplabldiheggaaMF
import Derived.Test.YtjplabldiheggaaMPN
namespace Go.Proofs.Ytjplabldiheggaa
open Go.RowKit
namespace PN
open FL
/-- When one is there by a contact. -/
def arr (c : I5) : Mo → Mo
  | .fin n => if c.a3 ≤ n then .inf else .fin (max n c.a2 + c.a4)
  | _ => .inf
/-- A time at which one may be somewhere. -/
def okT : Mo → Prop
  | .fin n => 0 ≤ n ∧ n ≤ 1048576
  | .inf => True
  | .ago => False
def tellN : Mo → Int
  | .fin n => n
  | _ => 0
def tellB : Mo → Bool
  | .fin _ => true
  | _ => false
theorem okT_ok {m : Mo} (h : okT m) : m.ok := by
  cases m with
  | fin n => simp only [okT] at h; show _ < _; omega
  | inf => trivial
  | ago => trivial
theorem arr_okT {c : I5} (hc : Good c) {m : Mo} (hm : okT m) : okT (arr c m) := by
  cases m with
  | inf => trivial
  | ago => exact absurd hm id
  | fin n =>
    simp only [arr]
    split
    · trivial
    · have := hc.e1; have := hc.s0; have := hc.s1; have := hc.d0; have := hc.d1
      simp only [okT] at *
      omega
end PN
end Go.Proofs.Ytjplabldiheggaa
