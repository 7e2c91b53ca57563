/- A pairing that came in, opened: plain facts, over whatever program. -/
import Derived.Test.YtlcdimiookaefabMRowNR
import Derived.RowKit
namespace Go.Proofs.Ytlcdimiookaefab
open Go.RowKit Go.ChangeShapes Go.WideShapes
theorem pair_open {H : Type} {enc : TypeId × Value → H} {P : Program} {w : World} {base b0 : Nat} {held : Bool} {r : Reach} {tp t e q : TypeId} {g0 g1 g2 : Field} {v : Value} {d : DataW H} {p : List MemPlace}
    (hs : P.underlying tp = some (.struct #[g0, g1, g2])) (cp : P.cellsOf tp = 3) (o0 : g0.offset = 0) (o1 : g1.offset = 1) (o2 : g2.offset = 2) (c0 : P.cellsOf g0.type = 1) (c1 : P.cellsOf g1.type = 1) (c2 : P.cellsOf g2.type = 1)
    (u0 : P.underlying g0.type = some (.int .i64)) (u1 : P.underlying g1.type = some (.int .i64)) (gt : g2.type = t)
    (ht : P.underlying t = some (.slice e)) (he : P.underlying e = some (.slice q)) (hq : P.underlying q = some (.int .i64)) (ce : P.cellsOf e = 1) (cq : P.cellsOf q = 1)
    (hv : Value.okWide P w r b0 tp v) (h : DataW.Trod enc P w base (fun _ => true) held tp v d p) :
    ∃ (l m : Int) (a : Option Addr) (cap : Nat) (ws : List (List Int)), v = .agg #[.int .i64 l, .int .i64 m, .slice a ws.length cap] ∧ ws.length ≤ maxLen ∧ NR.RowsAt w a ws := by
  obtain ⟨cs, rfl, hsz⟩ := okWide_struct hs hv
  obtain ⟨fuel, hf⟩ := h
  have hf' : DataW.trod enc P w base (fun _ => true) held fuel tp cs.toList = some (d, p) := by simpa [Value.cells] using hf
  obtain ⟨ys, n, _, _, _, hlen, hg⟩ := DataW.trod_struct hs hf'
  rw [cp] at hsz
  obtain ⟨l⟩ := cs
  match l, hsz, ys, hlen with
  | [v0, v1, v2], _, [y0, y1, y2], _ =>
    have k0 : _ = some y0 := hg 0 g0 rfl
    have k1 : _ = some y1 := hg 1 g1 rfl
    have k2 : _ = some y2 := hg 2 g2 rfl
    rw [gt] at c2
    rw [o0, c0] at k0
    rw [o1, c1] at k1
    rw [o2, gt, c2] at k2
    simp only [List.drop_zero, List.drop_succ_cons, List.take_succ_cons, List.take_zero] at k0 k1 k2
    obtain ⟨x0, e0, _, _⟩ := DataW.trod_int u0 k0
    obtain ⟨x1, e1, _, _⟩ := DataW.trod_int u1 k1
    simp only [List.cons.injEq, and_true] at e0 e1
    subst e0 e1
    obtain ⟨a, len, cap, rfl⟩ : ∃ a len cap, v2 = .slice a len cap := by
      rcases Deep.open_int_rows ht he hq ce cq k2 with ⟨hcs, _⟩ | ⟨ad, l, c, A, L, C, Z, hcs, _⟩
      · simp at hcs; exact ⟨_, _, _, hcs⟩
      · simp at hcs; exact ⟨_, _, _, hcs⟩
    obtain ⟨h1, ws, rfl, h2⟩ := rows_open ht he hq ce cq k2
    exact ⟨x0, x1, a, cap, ws, rfl, h1, h2⟩
end Go.Proofs.Ytlcdimiookaefab
