/- Two rows of numbers that a call owns side by side; the specification's search in memory: plain facts. -/
import Derived.Test.YtjplabldiheggaaM6S
import Derived.Test.YtjplabldiheggaaM5
import Derived.Test.YtjplabldiheggaaMCur
import Derived.Maps.AppendAt
namespace Go.Proofs.Ytjplabldiheggaa
open Go.RowKit
namespace PN
theorem own_grown {W W' : World} {base e sz n : Nat} {v : Value} {xs : List Value} {r : Option Nat} (h : W.ownsRow base e sz v n xs) (hg : W.grownBy W' r) (hne : ∀ g, v.ownBlock = some g → r ≠ some g) : W'.ownsRow base e sz v n xs := by
  refine ⟨h.1, ?_⟩
  rcases h.2 with h' | ⟨g, cap, cur, rfl, h2, h3, h4⟩
  · exact .inl h'
  · refine .inr ⟨g, cap, cur, rfl, h2, ?_, h4⟩
    rw [hg.block g (Array.getElem?_eq_some_iff.1 h3).1 (fun e => hne g rfl e.symm)]; exact h3
theorem own_lt {W : World} {base e sz n : Nat} {v : Value} {xs : List Value} (h : W.ownsRow base e sz v n xs) {g : Nat} (hg : v.ownBlock = some g) : g < W.heap.size := (h.lt g hg).2
/-- Two rows side by side. -/
structure Two (base : Nat) (W : World) (u v : Value) (n : Nat) (L M : List Int) : Prop where
  a : W.ownsRow base 3 1 u n (M4.iv L)
  b : W.ownsRow base 3 1 v n (M4.iv M)
  ne : ∀ g, u.ownBlock = some g → v.ownBlock ≠ some g
theorem grown_a {base : Nat} {W w1 : World} {u v v' : Value} {m n : Nat} {L M L' : List Value} {o : Obj} (_ha : W.ownsRow base 3 1 u n L) (hb : W.ownsRow base 3 1 v m M) (ne : ∀ g, u.ownBlock = some g → v.ownBlock ≠ some g)
    (_hown : w1.ownsRow base 3 1 v' (n + 1) L') (hgrow : (W.alloc o).grownBy w1 u.ownBlock) (loc : v'.ownBlock = u.ownBlock ∨ v'.ownBlock = some (W.heap.size + 1)) :
    w1.ownsRow base 3 1 v m M ∧ (∀ g, v'.ownBlock = some g → v.ownBlock ≠ some g) := by
  refine ⟨own_grown (hb.alloc o) hgrow fun g hg e => ne g e hg, fun g hg e => ?_⟩
  rcases loc with l | l
  · exact ne g (l ▸ hg) e
  · rw [l] at hg
    simp only [Option.some.injEq] at hg
    have := own_lt hb e
    omega
theorem iv_snoc (k : Nat) : M4.iv (List.replicate k (-1)) ++ [.int .i64 (-1)] = M4.iv (List.replicate (k + 1) (-1)) := by
  simp [M4.iv, List.replicate_succ', List.map_append]
theorem own_some {W : World} {base : Nat} {v : Value} {L : List Value} (h : W.ownsRow base 3 1 v 8 L) : ∃ g c, v = .slice (some ⟨g, 0, none⟩) 8 c := by
  rcases h.2 with ⟨_, h'⟩ | ⟨g, cap, cur, rfl, _⟩
  · omega
  · exact ⟨g, cap, rfl⟩
theorem own_only_ne {w w' : World} {p base e size n g cap : Nat} {xs : List Value} (h : w.ownsRow base e size (.slice (some ⟨g, 0, none⟩) n cap) n xs) (ho : MC.Only p w w') (hp : g ≠ p) : w'.ownsRow base e size (.slice (some ⟨g, 0, none⟩) n cap) n xs := by
  refine ⟨h.1, ?_⟩
  rcases h.2 with ⟨h1, _⟩ | ⟨g', cap', cur, h1, h2, h3, h4⟩
  · cases h1
  · cases h1
    refine .inr ⟨g, cap, cur, rfl, h2, ?_, h4⟩
    rw [ho.block g (Array.getElem?_eq_some_iff.1 h3).1 hp]; exact h3
/-- The specification's search in memory. -/
structure SR (base : Nat) (w W : World) (g1 g2 c1 c2 : Nat) (s : St) : Prop where
  a : W.ownsRow base 3 1 (.slice (some ⟨g1, 0, none⟩) 8 c1) 8 (M4.iv (whL s.wh))
  b : W.ownsRow base 3 1 (.slice (some ⟨g2, 0, none⟩) 8 c2) 8 (M4.iv (laL s.la))
  ne : g1 ≠ g2
  bl : Below base w W
theorem SR.kept {base : Nat} {w W W' : World} {g1 g2 c1 c2 : Nat} {s : St} (h : SR base w W g1 g2 c1 c2 s) (hB : base ≤ w.heap.size) (hb : Below W.heap.size W W') : SR base w W' g1 g2 c1 c2 s :=
  ⟨M5.own_below h.a hb, M5.own_below h.b hb, h.ne, h.bl.trans (hb.mono (Nat.le_trans hB h.bl.size))⟩
theorem SR.l1 {base : Nat} {w W : World} {g1 g2 c1 c2 : Nat} {s : St} (h : SR base w W g1 g2 c1 c2 s) : base ≤ g1 ∧ g1 < W.heap.size := h.a.lt g1 rfl
theorem SR.l2 {base : Nat} {w W : World} {g1 g2 c1 c2 : Nat} {s : St} (h : SR base w W g1 g2 c1 c2 s) : base ≤ g2 ∧ g2 < W.heap.size := h.b.lt g2 rfl
theorem SR.cellA {base : Nat} {w W : World} {g1 g2 c1 c2 : Nat} {s : St} (h : SR base w W g1 g2 c1 c2 s) {i : Nat} (hi : i < 8) : W.cell? ⟨g1, i, none⟩ = some (.int .i64 (tS (s.wh i))) := by
  rw [h.a.cellAt i (by omega)]; exact M4.iv_get _ _ _ (whL_get _ hi)
theorem SR.cellB {base : Nat} {w W : World} {g1 g2 c1 c2 : Nat} {s : St} (h : SR base w W g1 g2 c1 c2 s) {i : Nat} (hi : i < 8) : W.cell? ⟨g2, i, none⟩ = some (.int .i64 (kS (s.la i))) := by
  rw [h.b.cellAt i (by omega)]; exact M4.iv_get _ _ _ (laL_get _ hi)
theorem SR.putA {base : Nat} {w W : World} {g1 g2 c1 c2 : Nat} {s : St} (h : SR base w W g1 g2 c1 c2 s) (hB : base ≤ w.heap.size) {i : Nat} (hi : i < 8) (m : FL.Mo) : SR base w (W.setCell ⟨g1, i, none⟩ (.int .i64 (tS m))) g1 g2 c1 c2 ⟨put s.wh i m, s.la⟩ := by
  have hs := h.a.stored i (.int .i64 (tS m))
  rw [M4.iv_set, whL_set _ _ hi] at hs
  exact ⟨hs.1, own_only_ne h.b ((MC.Only.refl g1 W).setCell i _) (fun e => h.ne e.symm), h.ne, h.bl.trans (((MC.Only.refl g1 W).setCell i _).below h.l1.1 (Nat.le_trans hB h.bl.size))⟩
theorem SR.putB {base : Nat} {w W : World} {g1 g2 c1 c2 : Nat} {s : St} (h : SR base w W g1 g2 c1 c2 s) (hB : base ≤ w.heap.size) {i : Nat} (hi : i < 8) (m : Option Nat) : SR base w (W.setCell ⟨g2, i, none⟩ (.int .i64 (kS m))) g1 g2 c1 c2 ⟨s.wh, put s.la i m⟩ := by
  have hs := h.b.stored i (.int .i64 (kS m))
  rw [M4.iv_set, laL_set _ _ hi] at hs
  exact ⟨own_only_ne h.a ((MC.Only.refl g2 W).setCell i _) h.ne, hs.1, h.ne, h.bl.trans (((MC.Only.refl g2 W).setCell i _).below h.l2.1 (Nat.le_trans hB h.bl.size))⟩
/-- A measure of the search, read out of memory. -/
def wC : Option Value → Nat
  | some (.int _ n) => if n < 0 then 1048577 else n.toNat
  | _ => 0
def MU (g : Nat) (W : World) : Nat := wC (W.cell? ⟨g, 0, none⟩) + wC (W.cell? ⟨g, 1, none⟩) + wC (W.cell? ⟨g, 2, none⟩) + wC (W.cell? ⟨g, 3, none⟩) + wC (W.cell? ⟨g, 4, none⟩) + wC (W.cell? ⟨g, 5, none⟩) + wC (W.cell? ⟨g, 6, none⟩) + wC (W.cell? ⟨g, 7, none⟩)
theorem wC_tS {m : FL.Mo} (h : okT m) : wC (some (.int .i64 (tS m))) = wt m := by
  cases m with
  | fin n => simp only [okT] at h; show (if n < 0 then 1048577 else n.toNat) = n.toNat; exact if_neg (by omega)
  | inf => rfl
  | ago => exact absurd h id
theorem SR.mu {base : Nat} {w W : World} {g1 g2 c1 c2 : Nat} {s : St} (h : SR base w W g1 g2 c1 c2 s) (hs : okS s.wh) : MU g1 W = mu s.wh := by
  unfold MU PN.mu
  rw [h.cellA (i := 0) (by omega), h.cellA (i := 1) (by omega), h.cellA (i := 2) (by omega), h.cellA (i := 3) (by omega), h.cellA (i := 4) (by omega), h.cellA (i := 5) (by omega), h.cellA (i := 6) (by omega), h.cellA (i := 7) (by omega)]
  rw [wC_tS (hs 0), wC_tS (hs 1), wC_tS (hs 2), wC_tS (hs 3), wC_tS (hs 4), wC_tS (hs 5), wC_tS (hs 6), wC_tS (hs 7)]
/-- The best so far, as the specification has it. -/
def BT : Option (Nat × Int) → Int → Int → Prop
  | none, b, t => b = -1 ∧ t = 0
  | some (k, u), b, t => b = k ∧ t = u
end PN
end Go.Proofs.Ytjplabldiheggaa
