/- A region that draws its order and holds two calls, one ahead of the other, and two allocs beside them: one walk for all orders. Plain facts, over whatever program. -/
import Derived.Test.YtdgflhgbcfehhaaMRH
import Derived.Test.YtdgflhgbcfehhaaMA
namespace Go.Proofs.Ytdgflhgbcfehhaa
namespace MR
open Go.RowKit
/-- How many are still to come. -/
def cnt (a b c d : Bool) : Nat := (if a then 0 else 1) + (if b then 0 else 1) + (if c then 0 else 1) + (if d then 0 else 1)
/-- What is known on the way. -/
structure Way4 (S : World → Prop) (B0 : Nat) (cs : List Value) (r1 r2 : Value) (b1 b2 c d : Bool) (v1 v2 x1 x2 : Value) (W : World) : Prop where
  s : S W
  h1 : b1 = true → v1 = r1
  h2 : b2 = true → v2 = r2
  hc : c = true → ∃ k, x1 = .pointer (some ⟨k, 0, none⟩) ∧ B0 ≤ k ∧ MA.Rg W k 0 cs
  hd : d = true → ∃ k, x2 = .pointer (some ⟨k, 0, none⟩) ∧ B0 ≤ k ∧ MA.Rg W k 0 cs
  ne : ∀ k k', c = true → d = true → x1 = .pointer (some ⟨k, 0, none⟩) → x2 = .pointer (some ⟨k', 0, none⟩) → k ≠ k'
variable {P : Program} {md : Region.Mode} {ops : Array Oper} {Q : Exit → Act → World → Prop} {S : World → Prop}
theorem Way4.below {B0 : Nat} {cs : List Value} {r1 r2 : Value} {b1 b2 c d : Bool} {v1 v2 x1 x2 : Value} {W W' : World} (h : Way4 S B0 cs r1 r2 b1 b2 c d v1 v2 x1 x2 W) (hS : S W') (hb : Below W.heap.size W W') : Way4 S B0 cs r1 r2 b1 b2 c d v1 v2 x1 x2 W' where
  s := hS
  h1 := h.h1
  h2 := h.h2
  hc := fun e => let ⟨k, q1, q2, q3⟩ := h.hc e; ⟨k, q1, q2, q3.below hb q3.lt⟩
  hd := fun e => let ⟨k, q1, q2, q3⟩ := h.hd e; ⟨k, q1, q2, q3.below hb q3.lt⟩
  ne := h.ne
theorem orders4 (L : Bool → Bool → Bool → Bool → Array Bool) (F : Value → Value → Value → Value → Act) (RL : Bool → Bool → Bool → Bool → List Nat) (i1 i2 j1 j2 : Nat) (o1 o2 p1 p2 : Oper) (f1 f2 : FuncId) (a1 a2 : Array Value) (r1 r2 : Value) (cs : List Value) (T : TypeId) (B0 : Nat)
    (e1 : ops[i1]? = some o1) (e2 : ops[i2]? = some o2) (e3 : ops[j1]? = some p1) (e4 : ops[j2]? = some p2)
    (L1 : ∀ a b c d, (L a b c d).setIfInBounds i1 true = L true b c d) (L2 : ∀ a b c d, (L a b c d).setIfInBounds i2 true = L a true c d) (L3 : ∀ a b c d, (L a b c d).setIfInBounds j1 true = L a b true d) (L4 : ∀ a b c d, (L a b c d).setIfInBounds j2 true = L a b c true)
    (F1 : ∀ a b c d v, (F a b c d).put o1.dst v = F v b c d) (F2 : ∀ a b c d v, (F a b c d).put o2.dst v = F a v c d) (F3 : ∀ a b c d v, (F a b c d).put p1.dst v = F a b v d) (F4 : ∀ a b c d v, (F a b c d).put p2.dst v = F a b c v)
    (g1 : o1.guard = none) (g2 : o2.guard = none) (g3 : p1.guard = none) (g4 : p2.guard = none)
    (hR : ∀ a b c d, Region.ready md ops (L a b c d) = RL a b c d)
    (hRL : ∀ a b c d, ∀ i ∈ RL a b c d, (i = i1 ∧ a = false) ∨ (i = i2 ∧ b = false) ∨ (i = j1 ∧ c = false) ∨ (i = j2 ∧ d = false) ∨ (a = true ∧ b = true ∧ c = true ∧ d = true))
    (hne : ∀ a b c d, 0 < cnt a b c d → RL a b c d ≠ [])
    (x1 : ∀ a b c d W, S W → (execOp (F a b c d).eval o1).run P W = .ok (.enter f1 a1) W) (x2 : ∀ a b c d W, S W → (execOp (F a b c d).eval o2).run P W = .ok (.enter f2 a2) W)
    (x3 : ∀ a b c d W, (execOp (F a b c d).eval p1).run P W = .ok (.value (.pointer (some ⟨W.heap.size, 0, none⟩))) (W.alloc (.cells cs.toArray T))) (x4 : ∀ a b c d W, (execOp (F a b c d).eval p2).run P W = .ok (.value (.pointer (some ⟨W.heap.size, 0, none⟩))) (W.alloc (.cells cs.toArray T)))
    (C1 : ∀ W, S W → Calls P f1 a1 W fun e w' => e = .returned r1 ∧ Below W.heap.size W w') (C2 : ∀ W, S W → Calls P f2 a2 W fun e w' => e = .returned r2 ∧ Below W.heap.size W w')
    (hS : ∀ W W', S W → Below W.heap.size W W' → S W') (hB0 : ∀ W, S W → B0 ≤ W.heap.size) {fuel : Nat}
    (K : ∀ W k k', S W → B0 ≤ k → B0 ≤ k' → k ≠ k' → MA.Rg W k 0 cs → MA.Rg W k' 0 cs → wpAnyH P md ops Q S fuel (L true true true true) (F r1 r2 (.pointer (some ⟨k, 0, none⟩)) (.pointer (some ⟨k', 0, none⟩))) W) :
    ∀ (n : Nat) (a b c d : Bool) (v1 v2 y1 y2 : Value) (W : World), cnt a b c d = n → Way4 S B0 cs r1 r2 a b c d v1 v2 y1 y2 W → wpAnyH P md ops Q S (fuel + n) (L a b c d) (F v1 v2 y1 y2) W := by
  intro n
  induction n with
  | zero =>
    intro a b c d v1 v2 y1 y2 W hn h
    have h4 : a = true ∧ b = true ∧ c = true ∧ d = true := by
      cases a <;> cases b <;> cases c <;> cases d <;> simp [cnt] at hn ⊢
    obtain ⟨rfl, rfl, rfl, rfl⟩ := h4
    obtain rfl := h.h1 rfl
    obtain rfl := h.h2 rfl
    obtain ⟨k, rfl, q1, q2⟩ := h.hc rfl
    obtain ⟨k', rfl, q3, q4⟩ := h.hd rfl
    exact K W k k' h.s q1 q3 (h.ne k k' rfl rfl rfl rfl) q2 q4
  | succ n ih =>
    intro a b c d v1 v2 y1 y2 W hn h
    refine wpAnyH_all (hR a b c d) (hne a b c d (by omega)) (fun i hi => ?_)
    rcases hRL a b c d i hi with ⟨rfl, rfl⟩ | ⟨rfl, rfl⟩ | ⟨rfl, rfl⟩ | ⟨rfl, rfl⟩ | ⟨rfl, rfl, rfl, rfl⟩
    · refine wpOp_step e1 (fun K' hK => ?_)
      rw [if_pos (free g1)]
      unfold Oper.wp
      rw [x1 _ _ _ _ W h.s, Oper.upon_enter]
      refine (C1 W h.s).mono ?_
      rintro e w' ⟨rfl, hb⟩
      refine hK _ _ ⟨hS _ _ h.s hb, ?_⟩
      rw [F1, L1]
      have g := h.below (hS _ _ h.s hb) hb
      exact ih true b c d _ _ _ _ _ (by revert hn; cases b <;> cases c <;> cases d <;> simp [cnt] <;> omega) ⟨g.s, fun _ => rfl, g.h2, g.hc, g.hd, g.ne⟩
    · refine wpOp_step e2 (fun K' hK => ?_)
      rw [if_pos (free g2)]
      unfold Oper.wp
      rw [x2 _ _ _ _ W h.s, Oper.upon_enter]
      refine (C2 W h.s).mono ?_
      rintro e w' ⟨rfl, hb⟩
      refine hK _ _ ⟨hS _ _ h.s hb, ?_⟩
      rw [F2, L2]
      have g := h.below (hS _ _ h.s hb) hb
      exact ih a true c d _ _ _ _ _ (by revert hn; cases a <;> cases c <;> cases d <;> simp [cnt] <;> omega) ⟨g.s, g.h1, fun _ => rfl, g.hc, g.hd, g.ne⟩
    · refine wpOp_step e3 (fun K' hK => ?_)
      rw [if_pos (free g3)]
      unfold Oper.wp
      rw [x3, Oper.upon_value]
      have hb : Below W.heap.size W (W.alloc (.cells cs.toArray T)) := (Below.refl _ W).alloc (Nat.le_refl _) _
      refine hK _ _ ⟨hS _ _ h.s hb, ?_⟩
      rw [F3, L3]
      have g := h.below (hS _ _ h.s hb) hb
      refine ih a b true d _ _ _ _ _ (by revert hn; cases a <;> cases b <;> cases d <;> simp [cnt] <;> omega) ⟨g.s, g.h1, g.h2, fun _ => ⟨_, rfl, hB0 _ h.s, MA.Rg.new W cs T⟩, g.hd, fun k k' _ hd ek ek' => ?_⟩
      obtain ⟨k2, q1, _, q3⟩ := h.hd hd
      rw [q1] at ek'
      simp only [Value.pointer.injEq, Option.some.injEq, Addr.mk.injEq] at ek ek'
      have := q3.lt
      omega
    · refine wpOp_step e4 (fun K' hK => ?_)
      rw [if_pos (free g4)]
      unfold Oper.wp
      rw [x4, Oper.upon_value]
      have hb : Below W.heap.size W (W.alloc (.cells cs.toArray T)) := (Below.refl _ W).alloc (Nat.le_refl _) _
      refine hK _ _ ⟨hS _ _ h.s hb, ?_⟩
      rw [F4, L4]
      have g := h.below (hS _ _ h.s hb) hb
      refine ih a b c true _ _ _ _ _ (by revert hn; cases a <;> cases b <;> cases c <;> simp [cnt] <;> omega) ⟨g.s, g.h1, g.h2, g.hc, fun _ => ⟨_, rfl, hB0 _ h.s, MA.Rg.new W cs T⟩, fun k k' hc _ ek ek' => ?_⟩
      obtain ⟨k2, q1, _, q3⟩ := h.hc hc
      rw [q1] at ek
      simp only [Value.pointer.injEq, Option.some.injEq, Addr.mk.injEq] at ek ek'
      have := q3.lt
      omega
    · simp [cnt] at hn
theorem load_g {rest : List Oper} {op : Oper} {a : Act} {w : World} (hw : Region.wanted op (yielded ops a.tmps) = true) (ty : TypeId) (x : Operand) (ho : op.op = .load ty x)
    {b o : Nat} (hx : a.eval x = .pointer (some ⟨b, o, none⟩)) {cs : List Value} {d : TypeDesc} (hc : w.rangeAt b o cs)
    (hu : P.underlying ty = some d) (hd : d.isRow = true) {n : Nat} (hi : (P.info? ty).map (·.size) = some n) (hn : cs.length = n)
    (h : wpList P ops Q rest (a.put op.dst (.agg cs.toArray)) w) : wpList P ops Q (op :: rest) a w :=
  wpList_step fun K hK => by rw [if_pos hw]; exact wp_load_mid ty x ho b o hx cs d hc hu hd (hn ▸ hi) (hK _ _ h)
theorem ex_alloc {op : Oper} {a : Act} {w : World} (t : TypeId) (ho : op.op = .alloc t) (cs : List Value) (n : Nat) (hz : (P.info? t).map (fun i => (i.zero, i.size)) = some (some (.agg cs.toArray), n)) :
    (execOp a.eval op).run P w = .ok (.value (.pointer (some ⟨w.heap.size, 0, none⟩))) (w.alloc (.cells cs.toArray t)) := by
  unfold execOp
  rw [ho]
  simp [Instr.alloc, (zero_of_info hz).1, newVar, Value.cells, go_sem]
end MR
end Go.Proofs.Ytdgflhgbcfehhaa
