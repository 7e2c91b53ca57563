/- A bundle that came in, opened: plain facts, over whatever program. -/
import Derived.Test.YtpdmbobcbehilaaMB1
import Derived.Deep.Slices
import Derived.ChangeSame
import Derived.ChangeArms
import Derived.OpenShut
import Derived.ShutString
import Derived.RowKit
namespace Go.Proofs.Ytpdmbobcbehilaa
open Go.RowKit Go.ChangeShapes Go.WideShapes
theorem bundle_open {H : Type} {enc : TypeId × Value → H} {P : Program} {w : World} {base b0 : Nat} {spare : Nat → Bool} {held : Bool} {r : Reach} {t : TypeId} {f0 f1 f2 f3 f4 f5 f6 f7 f8 f9 : Field} {v : Value} {d : DataW H} {p : List MemPlace}
    (hs : P.underlying t = some (.struct #[f0, f1, f2, f3, f4, f5, f6, f7, f8, f9])) (ce : P.cellsOf t = 10)
    (o0 : f0.offset = 0) (o1 : f1.offset = 1) (o2 : f2.offset = 2) (o3 : f3.offset = 3) (o4 : f4.offset = 4) (o5 : f5.offset = 5) (o6 : f6.offset = 6) (o7 : f7.offset = 7) (o8 : f8.offset = 8) (o9 : f9.offset = 9)
    (t0 : P.underlying f0.type = some (.int .i64)) (t1 : P.underlying f1.type = some (.int .i64)) (t2 : P.underlying f2.type = some .bool) (t3 : P.underlying f3.type = some (.int .i64)) (t4 : P.underlying f4.type = some (.int .i64)) (t5 : P.underlying f5.type = some (.int .i64)) (t6 : P.underlying f6.type = some (.int .i64)) (t7 : P.underlying f7.type = some (.int .i64)) (t8 : P.underlying f8.type = some (.int .i64)) (t9 : P.underlying f9.type = some .string)
    (c0 : P.cellsOf f0.type = 1) (c1 : P.cellsOf f1.type = 1) (c2 : P.cellsOf f2.type = 1) (c3 : P.cellsOf f3.type = 1) (c4 : P.cellsOf f4.type = 1) (c5 : P.cellsOf f5.type = 1) (c6 : P.cellsOf f6.type = 1) (c7 : P.cellsOf f7.type = 1) (c8 : P.cellsOf f8.type = 1) (c9 : P.cellsOf f9.type = 1)
    (hv : Value.okWide P w r b0 t v) (h : DataW.Trod enc P w base spare held t v d p) : ∃ b : Bd, v = b.v ∧ b.py.size ≤ maxLen := by
  obtain ⟨cs, rfl, hsz⟩ := okWide_struct hs hv
  obtain ⟨fuel, hf⟩ := h
  have hf' : DataW.trod enc P w base spare held fuel t cs.toList = some (d, p) := by simpa [Value.cells] using hf
  obtain ⟨xs, n, _, _, _, hlen, hg⟩ := DataW.trod_struct hs hf'
  rw [ce] at hsz
  obtain ⟨l⟩ := cs
  match l, hsz, xs, hlen with
  | [v0, v1, v2, v3, v4, v5, v6, v7, v8, v9], _, [y0, y1, y2, y3, y4, y5, y6, y7, y8, y9], _ =>
    have g0 : _ = some y0 := hg 0 f0 rfl
    have g1 : _ = some y1 := hg 1 f1 rfl
    have g2 : _ = some y2 := hg 2 f2 rfl
    have g3 : _ = some y3 := hg 3 f3 rfl
    have g4 : _ = some y4 := hg 4 f4 rfl
    have g5 : _ = some y5 := hg 5 f5 rfl
    have g6 : _ = some y6 := hg 6 f6 rfl
    have g7 : _ = some y7 := hg 7 f7 rfl
    have g8 : _ = some y8 := hg 8 f8 rfl
    have g9 : _ = some y9 := hg 9 f9 rfl
    simp only [o0, o1, o2, o3, o4, o5, o6, o7, o8, o9, c0, c1, c2, c3, c4, c5, c6, c7, c8, c9, List.drop_zero, List.drop_succ_cons, List.take_succ_cons, List.take_zero] at g0 g1 g2 g3 g4 g5 g6 g7 g8 g9
    obtain ⟨x0, e0, _, _⟩ := DataW.trod_int t0 g0
    obtain ⟨x1, e1, _, _⟩ := DataW.trod_int t1 g1
    obtain ⟨x2, e2, _⟩ := DataW.trod_bool t2 g2
    obtain ⟨x3, e3, _, _⟩ := DataW.trod_int t3 g3
    obtain ⟨x4, e4, _, _⟩ := DataW.trod_int t4 g4
    obtain ⟨x5, e5, _, _⟩ := DataW.trod_int t5 g5
    obtain ⟨x6, e6, _, _⟩ := DataW.trod_int t6 g6
    obtain ⟨x7, e7, _, _⟩ := DataW.trod_int t7 g7
    obtain ⟨x8, e8, _, _⟩ := DataW.trod_int t8 g8
    obtain ⟨x9, e9, _, hx9⟩ := DataW.trod_string t9 g9
    simp only [List.cons.injEq, and_true] at e0 e1 e2 e3 e4 e5 e6 e7 e8 e9
    subst e0 e1 e2 e3 e4 e5 e6 e7 e8 e9
    exact ⟨⟨x0, x1, x2, x3, x4, x5, x6, x7, x8, x9⟩, rfl, hx9⟩
end Go.Proofs.Ytpdmbobcbehilaa
