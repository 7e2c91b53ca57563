/- Appends in a region that draws; rows and boxes side by side: plain facts, over whatever program. -/
import Derived.Test.YtjplabldiheggaaMRP
import Derived.Test.YtjplabldiheggaaMA
import Derived.Test.YtjplabldiheggaaM5
import Derived.Test.YtjplabldiheggaaMCur
import Derived.OwnWalk
namespace Go.Proofs.Ytjplabldiheggaa
namespace RA
open Go.RowKit
theorem rg_grown {w w' : World} {k o : Nat} {cs : List Value} {row : Option Nat} (h : MA.Rg w k o cs) (hg : w.grownBy w' row) (hne : some k ≠ row) : MA.Rg w' k o cs := by
  obtain ⟨h0, h1, h2⟩ := h
  have e := hg.block k h0 hne
  refine ⟨Nat.lt_of_lt_of_le h0 hg.size, fun j v hv => (World.cell?_of_block (a := ⟨k, o + j, none⟩) e).trans (h1 j v hv), fun j hj => ?_⟩
  obtain ⟨q1, q2⟩ := h2 j hj
  exact ⟨by rw [World.cell?_of_block (a := ⟨k, o + j, none⟩) e]; exact q1, by rw [World.frozen?_of_block (a := ⟨k, o + j, none⟩) e]; exact q2⟩
theorem app_run {P : Program} {o : Oper} {a : Act} {w w' : World} {s x : Operand} {t : TypeId} {v u v' : Value} (ho : o.op = .call { callee := .builtin .append, args := #[s, x], argTypes := #[t, t] }) (hs : a.eval s = v) (hx : a.eval x = u) (hr : (Builtin.append_ #[t, t] o.type #[v, u]).run P w = .ok v' w') : (execOp a.eval o).run P w = .ok (.value v') w' := by
  unfold execOp
  simp only [ho, resolve, invoke, builtin, Sem.run_bind, Sem.run_pure, Result.andThen_ok, List.map_toArray, List.map_cons, List.map_nil, hs, hx, hr]
theorem only_cells (k : Nat) : ∀ (vs : List Value) (o : Nat) (w : World), MC.Only k w (w.setCells k o vs)
  | [], _, w => MC.Only.refl k w
  | v :: r, o, w => ((MC.Only.refl k w).setCell o v).trans (only_cells k r (o + 1) _)
theorem own_only {w w' : World} {base e sz n k : Nat} {v : Value} {xs : List Value} (h : w.ownsRow base e sz v n xs) (ho : MC.Only k w w') (hn : v.ownBlock ≠ some k) : w'.ownsRow base e sz v n xs := by
  refine ⟨h.1, ?_⟩
  rcases h.2 with h' | ⟨g, cap', cur, rfl, hb, hg, rest⟩
  · exact .inl h'
  · refine .inr ⟨g, cap', cur, rfl, hb, (ho.block g (Array.getElem?_eq_some_iff.1 hg).1 (fun e => hn (by rw [← e]; rfl))).trans hg, rest⟩
theorem rg_only {w w' : World} {k o p : Nat} {cs : List Value} (h : MA.Rg w k o cs) (ho : MC.Only p w w') (hne : k ≠ p) : MA.Rg w' k o cs := by
  obtain ⟨h0, h1, h2⟩ := h
  have e := ho.block k h0 hne
  refine ⟨Nat.lt_of_lt_of_le h0 ho.size, fun j v hv => (World.cell?_of_block (a := ⟨k, o + j, none⟩) e).trans (h1 j v hv), fun j hj => ?_⟩
  obtain ⟨q1, q2⟩ := h2 j hj
  exact ⟨by rw [World.cell?_of_block (a := ⟨k, o + j, none⟩) e]; exact q1, by rw [World.frozen?_of_block (a := ⟨k, o + j, none⟩) e]; exact q2⟩
end RA
end Go.Proofs.Ytjplabldiheggaa
