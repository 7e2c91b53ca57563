/- Regions that draw, in a round of a loop over a function: as everywhere, where no operation defers. Plain, over whatever program. -/
import Derived.Sort.QuietTacIn
import Derived.Sort.BigQuietIn
import Derived.RangeFuncNested
namespace Go.Proofs.Ytfkmnmiolnijaaa
open Go.RowKit
namespace RD
theorem wide_fn (f : FuncId) : Fence.wide.fn f = True := rfl
theorem keeps_drewN (W : World) (k : Nat) : KeepsOthers W (W.drewN k) := ⟨Nat.le_refl _, fun _ _ h _ => h⟩
theorem below_drewN (B : Nat) (W : World) (k : Nat) : Below B W (W.drewN k) := ⟨rfl, rfl, rfl, Nat.le_refl _, fun _ _ => rfl⟩
def calm (o : Oper) : Bool := match o.op with
  | .defer _ => false
  | _ => true
theorem not_defer {o : Oper} (h : calm o = true) : ∀ c, o.op ≠ .defer c := fun c e => by simp [calm, e] at h
theorem upon_same (F : Fence) (l n : Nat) (P : Program) (o : Oper) (a : Act) (K : Act → World → Prop) (Q : Exit → Act → World → Prop) (r : Result Next) : o.uponIn F n P a K Q r → o.uponIn (F.inRound l) n P a K Q r := by
  intro h
  exact h
theorem op_round {F : Fence} {l n : Nat} {P : Program} {ops : Array Oper} {Q : Exit → Act → World → Prop} {i : Nat} {K : Act → World → Prop} {a : Act} {w : World} (hc : ∀ (i : Nat) (o : Oper), ops[i]? = some o → calm o = true) (h : wpOpIn F n P ops Q i K a w) : wpOpIn (F.inRound l) n P ops Q i K a w := by
  cases e : ops[i]? with
  | none => unfold wpOpIn at h ⊢; rw [e] at h ⊢; exact h
  | some o =>
    unfold wpOpIn at h ⊢
    rw [e] at h ⊢
    dsimp only at h ⊢
    by_cases hw : Region.wanted o (yielded ops a.tmps) = true
    · rw [if_pos hw] at h ⊢
      refine ⟨h.1, ?_⟩
      have h2 := h.2
      rw [Oper.semAt_eq _ _ _ (not_defer (hc i o e))] at h2 ⊢
      exact upon_same F l n P o a K Q _ h2
    · rw [if_neg hw] at h ⊢
      exact h
theorem any_round {F : Fence} {l n : Nat} {P : Program} {md : Region.Mode} {ops : Array Oper} {Q : Exit → Act → World → Prop} (hc : ∀ (i : Nat) (o : Oper), ops[i]? = some o → calm o = true) : ∀ (fuel : Nat) (listed : Array Bool) (a : Act) (w : World), wpAnyIn F n P md ops Q fuel listed a w → wpAnyIn (F.inRound l) n P md ops Q fuel listed a w
  | 0, _, _, _, h => h
  | fuel + 1, _, _, _, h => ⟨h.1, fun i hi => op_round hc (wpOpIn_mono (fun a w => any_round hc fuel _ a w) (h.2 i hi))⟩
theorem calm_all {l : List Oper} (h : l.all calm = true) : ∀ (i : Nat) (o : Oper), l.toArray[i]? = some o → calm o = true := fun i o e => by
  rw [List.getElem?_toArray] at e
  exact List.all_eq_true.1 h o (List.mem_of_getElem? e)
/-- A region that only reads, in a round. -/
theorem quiet {l0 n id : Nat} {P : Program} {Q : Exit → Act → World → Prop} {a : Act} {w : World} {l : List Oper} (hm : P.follows .mixedOrders = true) (hB : Region.lexB .any l.toArray = true) (hc : l.all calm = true)
    (h : wpQuietIn Fence.wide n P l.toArray (fun w' => ∃ n, w' = w.drewN n) (fun a' => ∀ w', (∃ n, w' = w.drewN n) → Q .normal a' w') l a) : (Code.region id l.toArray true).wpIn (Fence.wide.inRound l0) n P Q a w := by
  simp only [Region.lexB, Bool.and_eq_true] at hB
  refine wpIn_region_any hm (any_round (calm_all hc) _ _ _ _ (wpAnyIn_of_quiet (C := fun w' => ∃ n, w' = w.drewN n) (Q := fun a' => ∀ w', (∃ n, w' = w.drewN n) → Q .normal a' w') rfl (fun _ w' hw' h => h w' hw') _ _ _ _ ⟨1, rfl⟩ ?_))
  have := wpAnyQIn_lex (F := Fence.wide) (n := n) (C := fun w' => ∃ n, w' = w.drewN n) (md := .any) hB.1 l 0 (Array.replicate l.toArray.size false) a (by simp) (by simpa using hB.2) (by simpa using h)
  simpa using this
theorem read {l0 n id : Nat} {P : Program} {Q : Exit → Act → World → Prop} {a : Act} {w : World} {l : List Oper} (hm : P.follows .mixedOrders = true) (hc : l.all calm = true)
    (h : wpAnyIn Fence.wide n P .any l.toArray Q l.toArray.size (Array.replicate l.toArray.size false) a { w with drawn := w.drawn + 1 }) : (Code.region id l.toArray true).wpIn (Fence.wide.inRound l0) n P Q a w :=
  wpIn_region_any hm (any_round (calm_all hc) _ _ _ _ h)
end RD
end Go.Proofs.Ytfkmnmiolnijaaa
