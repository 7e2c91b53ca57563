/- Word that spreads: who has it by then; the times in memory. Plain facts. -/
import Derived.Test.YtdimdhiknjimaaaMFd
import Derived.Test.YtdimdhiknjimaaaM6W
namespace Go.Proofs.Ytdimdhiknjimaaa
open Go.RowKit
namespace PN
open FL
def inB (u : Int) : Mo → Bool
  | .fin e => decide (e ≤ u)
  | _ => false
def frL (E : Nat → Mo) (u : Int) : Nat → List Int
  | 0 => []
  | k + 1 => if inB u (E k) = true then frL E u k ++ [(k : Int)] else frL E u k
theorem frL_yes {E : Nat → Mo} {u : Int} {k : Nat} (h : inB u (E k) = true) : frL E u (k + 1) = frL E u k ++ [(k : Int)] := if_pos h
theorem frL_no {E : Nat → Mo} {u : Int} {k : Nat} (h : inB u (E k) = false) : frL E u (k + 1) = frL E u k := if_neg (by rw [h]; simp)
theorem frL_len (E : Nat → Mo) (u : Int) (k : Nat) : (frL E u k).length ≤ k := by
  induction k with
  | zero => simp [frL]
  | succ k ih =>
    rw [frL]
    split
    · rw [List.length_append]; simp only [List.length_cons, List.length_nil]; omega
    · omega
theorem frL_congr {E G : Nat → Mo} {u : Int} (h : ∀ v, inB u (E v) = inB u (G v)) (k : Nat) : frL E u k = frL G u k := by
  induction k with
  | zero => rfl
  | succ k ih => rw [frL, frL, ih, h k]
theorem flood_same {xs : List I5} {f n : Int} (hok : okP xs = true) (f0 : 0 ≤ f) (f1 : f ≤ 7) (n0 : 0 ≤ n) (n1 : n ≤ 1000) {u : Int} {g : Nat → Mo} (h : FI xs f.toNat n (eaW xs f n) g) (hq : Qd xs n u g) : ∀ v, inB u (eaW xs f n v) = inB u (g v) := by
  intro v
  have h1 := flood_is hok f0 f1 n0 n1 h hq v
  have h2 := h.snd v
  cases hE : eaW xs f n v with
  | fin e =>
    by_cases he : e ≤ u
    · rw [h1 e hE he]
    · cases hg : g v with
      | fin t =>
        obtain ⟨e2, a1, a2⟩ := h2 t hg
        rw [hE] at a1; cases a1
        show decide (e ≤ u) = decide (t ≤ u)
        rw [decide_eq_false he, decide_eq_false (by omega)]
      | inf => exact decide_eq_false he
      | ago => exact decide_eq_false he
  | inf =>
    cases hg : g v with
    | fin t => obtain ⟨e2, a1, _⟩ := h2 t hg; rw [hE] at a1; cases a1
    | inf => rfl
    | ago => rfl
  | ago =>
    cases hg : g v with
    | fin t => obtain ⟨e2, a1, _⟩ := h2 t hg; rw [hE] at a1; cases a1
    | inf => rfl
    | ago => rfl
def fdOk (xs : List I5) (f n u : Int) : Bool := okP xs && decide (0 ≤ f ∧ f ≤ 7) && decide (0 ≤ n ∧ n ≤ 1000) && decide (0 ≤ u ∧ u ≤ 1000)
def fdL (xs : List I5) (f n u : Int) : List Int := if fdOk xs f n u = true then frL (eaW xs f n) u 8 else []
theorem fdL_len (xs : List I5) (f n u : Int) : (fdL xs f n u).length ≤ 8 := by
  unfold fdL; split
  · exact frL_len _ _ _
  · simp
/-- A row of times that the call owns. -/
structure OR (W0 w W : World) (g c : Nat) (G : Nat → Mo) : Prop where
  a : W.ownsRow W0.heap.size 3 1 (.slice (some ⟨g, 0, none⟩) 8 c) 8 (M4.iv (whL G))
  bl : Below w.heap.size w W
theorem OR.cell {W0 w W : World} {g c : Nat} {G : Nat → Mo} (h : OR W0 w W g c G) {i : Nat} (hi : i < 8) : W.cell? ⟨g, i, none⟩ = some (.int .i64 (tS (G i))) := by
  rw [h.a.cellAt i (by omega)]; exact M4.iv_get _ _ _ (whL_get _ hi)
theorem OR.lt {W0 w W : World} {g c : Nat} {G : Nat → Mo} (h : OR W0 w W g c G) : W0.heap.size ≤ g ∧ g < W.heap.size := h.a.lt g rfl
theorem OR.put {W0 w W : World} {g c : Nat} {G : Nat → Mo} (h : OR W0 w W g c G) (hw : w.heap.size ≤ W0.heap.size) {i : Nat} (hi : i < 8) (m : Mo) : OR W0 w (W.setCell ⟨g, i, none⟩ (.int .i64 (tS m))) g c (PN.put G i m) := by
  have hs := h.a.stored i (.int .i64 (tS m))
  rw [M4.iv_set, whL_set _ _ hi] at hs
  exact ⟨hs.1, h.bl.setCell (p := ⟨g, i, none⟩) (by have := h.lt; show w.heap.size ≤ g; omega) _⟩
theorem OR.kept {W0 w W W' : World} {g c : Nat} {G : Nat → Mo} (h : OR W0 w W g c G) (hb : Below W.heap.size W W') : OR W0 w W' g c G := ⟨M5.own_below h.a hb, h.bl.trans (hb.mono h.bl.size)⟩
theorem OR.mu {W0 w W : World} {g c : Nat} {G : Nat → Mo} (h : OR W0 w W g c G) (hs : okS G) : MU g W = PN.mu G := by
  unfold MU PN.mu
  rw [h.cell (i := 0) (by omega), h.cell (i := 1) (by omega), h.cell (i := 2) (by omega), h.cell (i := 3) (by omega), h.cell (i := 4) (by omega), h.cell (i := 5) (by omega), h.cell (i := 6) (by omega), h.cell (i := 7) (by omega)]
  rw [wC_tS (hs 0), wC_tS (hs 1), wC_tS (hs 2), wC_tS (hs 3), wC_tS (hs 4), wC_tS (hs 5), wC_tS (hs 6), wC_tS (hs 7)]
/-- Still going: a pass that changed something. -/
def bN : Value → Nat
  | .bool true => 1
  | _ => 0
theorem Qd.less {xs : List I5} {lo a b : Int} {g : Nat → Mo} (h : Qd xs lo b g) (hab : a ≤ b) : Qd xs lo a g := fun k hk τ h1 h2 => h k hk τ h1 (by omega)
/-- What a pass has done so far. -/
structure PS (xs : List I5) (f : Nat) (n now : Int) (E G0 G : Nat → Mo) (k : Nat) (b : Bool) : Prop where
  fi : FI xs f n E G
  qd : Qd xs n (now - 1) G
  no : b = false → G = G0 ∧ ∀ j, j < k → fl1 xs now G0 j = none
  yes : b = true → PN.mu G < PN.mu G0
theorem PS.skip {xs : List I5} {f : Nat} {n now : Int} {E G0 G : Nat → Mo} {k : Nat} {b : Bool} (h : PS xs f n now E G0 G k b) (hs : fl1 xs now G k = none) : PS xs f n now E G0 G (k + 1) b :=
  ⟨h.fi, h.qd, fun e => by
    obtain ⟨h1, h2⟩ := h.no e
    refine ⟨h1, fun j hj => ?_⟩
    by_cases ej : j = k
    · subst ej; rw [← h1]; exact hs
    · exact h2 j (by omega), h.yes⟩
theorem PS.take {xs : List I5} (hok : okP xs = true) {f n : Int} (n0 : 0 ≤ n) (n1 : n ≤ 1000) {now : Int} {G0 G : Nat → Mo} {k : Nat} {b : Bool} (h : PS xs f.toNat n now (eaW xs f n) G0 G k b) (h0 : n ≤ now) (h1 : now ≤ 1000) (hk : k < xs.length) {t : Int} (hs : fl1 xs now G k = some t) : PS xs f.toNat n now (eaW xs f n) G0 (PN.put G (MI5.at_ xs k).a1.toNat (.fin t)) (k + 1) true := by
  obtain ⟨a1, a2⟩ := FI.step hok n0 n1 h.fi h0 h1 hk hs
  refine ⟨a1, Qd.step hok h.qd hk hs, fun e => (by cases e), fun _ => ?_⟩
  cases b with
  | false => rw [← (h.no rfl).1]; exact a2
  | true => have := h.yes rfl; omega
theorem fi_start {xs : List I5} {f n : Int} (hok : okP xs = true) (n0 : 0 ≤ n) (n1 : n ≤ 1000) : FI xs f.toNat n (eaW xs f n) (st0 f n).wh := by
  have hO := ord_st0 hok (f := f) (n := n)
  have hX := vix_fin hok (st0_ok (f := f) n0 n1) hO (vix_st0 xs (f := f) (n := n))
  refine ⟨st0_ok n0 n1, fun v => ?_, ⟨n, by simp [st0, PN.put], by omega⟩, fun v t ht => ?_⟩
  · show PN.put (fun _ => Mo.inf) f.toNat (.fin n) v ≠ .ago
    unfold PN.put; split <;> exact fun e => by cases e
  · have ht' : PN.put (fun _ => Mo.inf) f.toNat (.fin n) v = .fin t := ht
    unfold PN.put at ht'
    split at ht'
    · rename_i hv
      cases ht'
      subst hv
      exact ⟨n, hX.src, by omega⟩
    · cases ht'
theorem fl1_inf {xs : List I5} {now : Int} {G : Nat → Mo} {k i : Nat} (hi : (MI5.at_ xs k).a0.toNat = i) (h : G i = .inf) : fl1 xs now G k = none := by
  unfold fl1; rw [hi, h]
theorem fl1_shut {xs : List I5} {now : Int} {G : Nat → Mo} {k i : Nat} {p : Int} (hi : (MI5.at_ xs k).a0.toNat = i) (h : G i = .fin p) (hc : ¬ (p ≤ now ∧ (MI5.at_ xs k).a2 ≤ now ∧ now < (MI5.at_ xs k).a3)) : fl1 xs now G k = none := by
  unfold fl1; rw [hi, h]
  exact if_neg (fun h => hc h.1)
theorem fl1_late {xs : List I5} {now : Int} {G : Nat → Mo} {k i j : Nat} {p q : Int} (hi : (MI5.at_ xs k).a0.toNat = i) (h : G i = .fin p) (hj : (MI5.at_ xs k).a1.toNat = j) (hq : G j = .fin q) (hl : ¬ now + (MI5.at_ xs k).a4 < q) : fl1 xs now G k = none := by
  unfold fl1; rw [hi, h, hj, hq]
  exact if_neg (fun h => hl (of_decide_eq_true h.2))
theorem fl1_new {xs : List I5} {now : Int} {G : Nat → Mo} {k i j : Nat} {p : Int} (hi : (MI5.at_ xs k).a0.toNat = i) (h : G i = .fin p) (hc : p ≤ now ∧ (MI5.at_ xs k).a2 ≤ now ∧ now < (MI5.at_ xs k).a3) (hj : (MI5.at_ xs k).a1.toNat = j) (hq : early (now + (MI5.at_ xs k).a4) (G j) = true) : fl1 xs now G k = some (now + (MI5.at_ xs k).a4) := by
  unfold fl1; rw [hi, h, hj]
  exact if_pos ⟨hc, hq⟩
theorem iv_snoc2 (L : List Int) (z : Int) : M4.iv L ++ [.int .i64 z] = M4.iv (L ++ [z]) := by simp [M4.iv]
end PN
end Go.Proofs.Ytdimdhiknjimaaa
