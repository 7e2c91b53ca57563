/- The search in memory, as the specification has it: plain facts. -/
import Derived.Test.YtkciheanjcnkkaaMFA
import Derived.Test.YtkciheanjcnkkaaM5
import Derived.Test.YtkciheanjcnkkaaMCur
import Derived.Maps.AppendAt
namespace Go.Proofs.Ytkciheanjcnkkaa
open Go.RowKit
namespace FL
theorem own_grown {W W' : World} {base e sz n : Nat} {v : Value} {xs : List Value} {r : Option Nat} (h : W.ownsRow base e sz v n xs) (hg : W.grownBy W' r) (hne : ∀ g, v.ownBlock = some g → r ≠ some g) : W'.ownsRow base e sz v n xs := by
  refine ⟨h.1, ?_⟩
  rcases h.2 with h' | ⟨g, cap, cur, rfl, h2, h3, h4⟩
  · exact .inl h'
  · refine .inr ⟨g, cap, cur, rfl, h2, ?_, h4⟩
    rw [hg.block g (Array.getElem?_eq_some_iff.1 h3).1 (fun e => hne g rfl e.symm)]; exact h3
theorem own_lt {W : World} {base e sz n : Nat} {v : Value} {xs : List Value} (h : W.ownsRow base e sz v n xs) {g : Nat} (hg : v.ownBlock = some g) : g < W.heap.size := (h.lt g hg).2
theorem grown_a {base : Nat} {W w1 : World} {u v v' : Value} {m n : Nat} {L M L' : List Value} {o : Obj} (_ha : W.ownsRow base 3 1 u n L) (hb : W.ownsRow base 3 1 v m M) (ne : ∀ g, u.ownBlock = some g → v.ownBlock ≠ some g)
    (_hown : w1.ownsRow base 3 1 v' (n + 1) L') (hgrow : (W.alloc o).grownBy w1 u.ownBlock) (loc : v'.ownBlock = u.ownBlock ∨ v'.ownBlock = some (W.heap.size + 1)) :
    w1.ownsRow base 3 1 v m M ∧ (∀ g, v'.ownBlock = some g → v.ownBlock ≠ some g) := by
  refine ⟨own_grown (hb.alloc o) hgrow fun g hg e => ne g e hg, fun g hg e => ?_⟩
  rcases loc with l | l
  · exact ne g (l ▸ hg) e
  · rw [l] at hg
    simp only [Option.some.injEq] at hg
    have := own_lt hb e
    omega
theorem iv_snoc (k : Nat) : M4.iv (List.replicate k (-1)) ++ [.int .i64 (-1)] = M4.iv (List.replicate (k + 1) (-1)) := by
  simp [M4.iv, List.replicate_succ', List.map_append]
theorem own_some {W : World} {base : Nat} {v : Value} {L : List Value} (h : W.ownsRow base 3 1 v 8 L) : ∃ g c, v = .slice (some ⟨g, 0, none⟩) 8 c := by
  rcases h.2 with ⟨_, h'⟩ | ⟨g, cap, cur, rfl, _⟩
  · omega
  · exact ⟨g, cap, rfl⟩
theorem own_only_ne {w w' : World} {p base e size n g cap : Nat} {xs : List Value} (h : w.ownsRow base e size (.slice (some ⟨g, 0, none⟩) n cap) n xs) (ho : MC.Only p w w') (hp : g ≠ p) : w'.ownsRow base e size (.slice (some ⟨g, 0, none⟩) n cap) n xs := by
  refine ⟨h.1, ?_⟩
  rcases h.2 with ⟨h1, _⟩ | ⟨g', cap', cur, h1, h2, h3, h4⟩
  · cases h1
  · cases h1
    refine .inr ⟨g, cap, cur, rfl, h2, ?_, h4⟩
    rw [ho.block g (Array.getElem?_eq_some_iff.1 h3).1 hp]; exact h3
/-- By which pipe each was reached, and the nodes in their order, in rows that the call owns. -/
structure SQ (base : Nat) (w W : World) (g1 c1 : Nat) (v : Value) (s : St) : Prop where
  a : W.ownsRow base 3 1 (.slice (some ⟨g1, 0, none⟩) 8 c1) 8 (M4.iv s.by_)
  b : W.ownsRow base 3 1 v s.q.length (M4.iv s.q)
  ne : v.ownBlock ≠ some g1
  bl : Below base w W
theorem SQ.kept {base : Nat} {w W W' : World} {g1 c1 : Nat} {v : Value} {s : St} (h : SQ base w W g1 c1 v s) (hB : base ≤ w.heap.size) (hb : Below W.heap.size W W') : SQ base w W' g1 c1 v s :=
  ⟨M5.own_below h.a hb, M5.own_below h.b hb, h.ne, h.bl.trans (hb.mono (Nat.le_trans hB h.bl.size))⟩
theorem SQ.l1 {base : Nat} {w W : World} {g1 c1 : Nat} {v : Value} {s : St} (h : SQ base w W g1 c1 v s) : base ≤ g1 ∧ g1 < W.heap.size := h.a.lt g1 rfl
theorem get_of (l : List Int) {i : Nat} (h : i < l.length) : l[i]? = some (l.getD i 0) := by rw [List.getD_eq_getElem?_getD, List.getElem?_eq_getElem h]; rfl
theorem SQ.cell {base : Nat} {w W : World} {g1 c1 : Nat} {v : Value} {s : St} (h : SQ base w W g1 c1 v s) (hl : s.by_.length = 8) {i : Nat} (hi : i < 8) : W.cell? ⟨g1, i, none⟩ = some (.int .i64 (s.by_.getD i 0)) := by
  rw [h.a.cellAt i (by omega)]; exact M4.iv_get _ _ _ (get_of _ (by omega))
theorem SQ.node {base : Nat} {w W : World} {g1 c1 : Nat} {v : Value} {s : St} (h : SQ base w W g1 c1 v s) {i : Nat} (hi : i < s.q.length) : ∃ gq cq, v = .slice (some ⟨gq, 0, none⟩) s.q.length cq ∧ gq < W.heap.size ∧ W.cell? ⟨gq, i, none⟩ = some (.int .i64 (s.q.getD i 0)) := by
  rcases h.b.2 with ⟨_, h'⟩ | ⟨g, cap, cur, rfl, h2, h3, h4⟩
  · omega
  · refine ⟨g, cap, rfl, (Array.getElem?_eq_some_iff.1 h3).1, ?_⟩
    rw [h.b.cellAt i (by omega)]; exact M4.iv_get _ _ _ (get_of _ hi)
theorem own_only_ne' {w w' : World} {p base e size n : Nat} {v : Value} {xs : List Value} (h : w.ownsRow base e size v n xs) (ho : MC.Only p w w') (hp : v.ownBlock ≠ some p) : w'.ownsRow base e size v n xs := by
  refine ⟨h.1, ?_⟩
  rcases h.2 with h1 | ⟨g', cap', cur, rfl, h2, h3, h4⟩
  · exact .inl h1
  · refine .inr ⟨g', cap', cur, rfl, h2, ?_, h4⟩
    rw [ho.block g' (Array.getElem?_eq_some_iff.1 h3).1 (fun e => hp (by rw [← e]; rfl))]; exact h3
theorem SQ.put {base : Nat} {w W : World} {g1 c1 : Nat} {v : Value} {s : St} (h : SQ base w W g1 c1 v s) (hB : base ≤ w.heap.size) (i : Nat) (k : Int) (L : Nat → List Stp) : SQ base w (W.setCell ⟨g1, i, none⟩ (.int .i64 k)) g1 c1 v ⟨s.by_.set i k, s.q, L⟩ := by
  have hs := h.a.stored i (.int .i64 k)
  rw [M4.iv_set] at hs
  exact ⟨hs.1, own_only_ne' h.b ((MC.Only.refl g1 W).setCell i _) h.ne, h.ne, h.bl.trans (((MC.Only.refl g1 W).setCell i _).below h.l1.1 (Nat.le_trans hB h.bl.size))⟩
theorem SQ.grown {base : Nat} {w W w1 : World} {g1 c1 : Nat} {v v' : Value} {s : St} {x : Int} {o : Obj} {L : Nat → List Stp} (h : SQ base w W g1 c1 v s) (hB : base ≤ w.heap.size) (hown : w1.ownsRow base 3 1 v' (s.q.length + 1) (M4.iv s.q ++ [.int .i64 x])) (hgrow : (W.alloc o).grownBy w1 v.ownBlock) (loc : v'.ownBlock = v.ownBlock ∨ v'.ownBlock = some (W.heap.size + 1)) : SQ base w w1 g1 c1 v' ⟨s.by_, s.q ++ [x], L⟩ := by
  have hs := h.bl.size
  obtain ⟨r, n⟩ := grown_a h.b h.a (fun g hg e => h.ne (by cases e; exact hg)) hown hgrow loc
  refine ⟨r, ?_, fun e => n g1 e rfl, (h.bl.alloc (by omega) _).grown hgrow (by simp; omega) (fun j hj => (h.b.lt j hj).1)⟩
  rw [show (s.q ++ [x]).length = s.q.length + 1 from by simp, show M4.iv (s.q ++ [x]) = M4.iv s.q ++ [.int .i64 x] from by simp [M4.iv]]
  exact hown
end FL
end Go.Proofs.Ytkciheanjcnkkaa
