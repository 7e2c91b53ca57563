/- A spray, or a meeting, that came in, opened: plain facts, over whatever program. -/
import Derived.Test.YtmgfgcmmanhgaaaMRowInts
import Derived.RowKit
namespace Go.Proofs.Ytmgfgcmmanhgaaa
open Go.RowKit Go.ChangeShapes Go.WideShapes
theorem spray_open {H : Type} {enc : TypeId × Value → H} {P : Program} {w : World} {base b0 : Nat} {held : Bool} {r : Reach} {tp t e : TypeId} {g0 g1 g2 : Field} {v : Value} {d : DataW H} {p : List MemPlace}
    (hs : P.underlying tp = some (.struct #[g0, g1, g2])) (cp : P.cellsOf tp = 3) (o0 : g0.offset = 0) (o1 : g1.offset = 1) (o2 : g2.offset = 2) (c0 : P.cellsOf g0.type = 1) (c1 : P.cellsOf g1.type = 1) (c2 : P.cellsOf g2.type = 1)
    (u1 : P.underlying g1.type = some (.int .i64)) (u2 : P.underlying g2.type = some .bool) (gt : g0.type = t)
    (ht : P.underlying t = some (.slice e)) (he : P.underlying e = some (.int .i64)) (ce : P.cellsOf e = 1)
    (hv : Value.okWide P w r b0 tp v) (h : DataW.Trod enc P w base (fun _ => true) held tp v d p) :
    ∃ (a : Option Addr) (cap : Nat) (zs : List Int) (t : Int) (th : Bool), v = .agg #[.slice a zs.length cap, .int .i64 t, .bool th] ∧ zs.length ≤ maxLen ∧ M4.IntsAt w a zs := by
  obtain ⟨cs, rfl, hsz⟩ := okWide_struct hs hv
  obtain ⟨fuel, hf⟩ := h
  have hf' : DataW.trod enc P w base (fun _ => true) held fuel tp cs.toList = some (d, p) := by simpa [Value.cells] using hf
  obtain ⟨ys, n, _, _, _, hlen, hg⟩ := DataW.trod_struct hs hf'
  rw [cp] at hsz
  obtain ⟨l⟩ := cs
  match l, hsz, ys, hlen with
  | [v0, v1, v2], _, [y0, y1, y2], _ =>
    have k0 : _ = some y0 := hg 0 g0 rfl
    have k1 : _ = some y1 := hg 1 g1 rfl
    have k2 : _ = some y2 := hg 2 g2 rfl
    rw [gt] at c0
    rw [o0, gt, c0] at k0
    rw [o1, c1] at k1
    rw [o2, c2] at k2
    simp only [List.drop_zero, List.drop_succ_cons, List.take_succ_cons, List.take_zero] at k0 k1 k2
    obtain ⟨x1, e1, _, _⟩ := DataW.trod_int u1 k1
    obtain ⟨x2, e2, _⟩ := DataW.trod_bool u2 k2
    simp only [List.cons.injEq, and_true] at e1 e2
    subst e1 e2
    obtain ⟨a, len, cap, rfl⟩ : ∃ a len cap, v0 = .slice a len cap := by
      rcases Deep.open_slice ht k0 with ⟨hcs, _⟩ | ⟨ad, l, c, m, n, D, Pl, hcs, _⟩
      · simp at hcs; exact ⟨_, _, _, hcs⟩
      · simp at hcs; exact ⟨_, _, _, hcs⟩
    obtain ⟨h1, zs, rfl, _, h2⟩ := ints_open ht he ce k0
    exact ⟨a, cap, zs, x1, x2, rfl, h1, h2⟩
theorem meet_open {H : Type} {enc : TypeId × Value → H} {P : Program} {w : World} {base b0 : Nat} {spare : Nat → Bool} {held : Bool} {r : Reach} {t : TypeId} {f0 f1 : Field} {v : Value} {d : DataW H} {p : List MemPlace}
    (hs : P.underlying t = some (.struct #[f0, f1])) (ce : P.cellsOf t = 2) (o0 : f0.offset = 0) (o1 : f1.offset = 1)
    (t0 : P.underlying f0.type = some (.int .i64)) (t1 : P.underlying f1.type = some (.int .i64)) (c0 : P.cellsOf f0.type = 1) (c1 : P.cellsOf f1.type = 1)
    (hv : Value.okWide P w r b0 t v) (h : DataW.Trod enc P w base spare held t v d p) : ∃ x y : Int, v = .agg #[.int .i64 x, .int .i64 y] := by
  obtain ⟨cs, rfl, hsz⟩ := okWide_struct hs hv
  obtain ⟨fuel, hf⟩ := h
  have hf' : DataW.trod enc P w base spare held fuel t cs.toList = some (d, p) := by simpa [Value.cells] using hf
  obtain ⟨xs, n, _, _, _, hlen, hg⟩ := DataW.trod_struct hs hf'
  rw [ce] at hsz
  obtain ⟨l⟩ := cs
  match l, hsz, xs, hlen with
  | [v0, v1], _, [y0, y1], _ =>
    have g0 : _ = some y0 := hg 0 f0 rfl
    have g1 : _ = some y1 := hg 1 f1 rfl
    simp only [o0, o1, c0, c1, List.drop_zero, List.drop_succ_cons, List.take_succ_cons, List.take_zero] at g0 g1
    obtain ⟨x0, e0, _, _⟩ := DataW.trod_int t0 g0
    obtain ⟨x1, e1, _, _⟩ := DataW.trod_int t1 g1
    simp only [List.cons.injEq, and_true] at e0 e1
    subst e0 e1
    exact ⟨x0, x1, rfl⟩
end Go.Proofs.Ytmgfgcmmanhgaaa
