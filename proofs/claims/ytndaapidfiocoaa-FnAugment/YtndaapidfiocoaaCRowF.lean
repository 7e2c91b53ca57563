/- Rows of pipes by closures, as they lie in memory: what keeps them. -/
import Derived.Test.YtndaapidfiocoaaRows
import Derived.Test.YtndaapidfiocoaaCTake
import Derived.Test.YtndaapidfiocoaaMA
import Derived.WalkKit
namespace Go.Proofs.Ytndaapidfiocoaa
open Go.RowKit
def FL.nils : List Value := List.replicate 8 Value.nilFunc
namespace FL
/-- A row of pipes: the function and what it has caught; its steps. -/
inductive RowF (lo : Nat) (W : World) : Nat → Array Value → List Stp → Prop
  | nil : RowF lo W 60 #[] []
  | and {F : Nat} {cs : Array Value} {l : List Stp} (s : Stp) {b1 b2 : Nat} (h : RowF lo W F cs l) (l1 : lo ≤ b1) (l2 : lo ≤ b2)
      (h1 : W.heap[b1]? = some (.cells #[.func (.func F) #[] cs] 69 (0, 0)))
      (h2 : W.heap[b2]? = some (.cells #[.int .i64 (s.k : Int), .bool s.back, .int .i64 s.to, .int .i64 s.room] 82 (0, 0))) :
      RowF lo W 68 #[.pointer (some ⟨b1, 0, none⟩), .pointer (some ⟨b2, 0, none⟩)] (l ++ [s])
theorem RowF.keep {lo : Nat} {W W' : World} {F : Nat} {cs : Array Value} {l : List Stp} (h : RowF lo W F cs l) (hb : ∀ k, k < W.heap.size → lo ≤ k → (∀ cs fr, W.heap[k]? ≠ some (.cells cs 3 fr)) → W'.heap[k]? = W.heap[k]?) : RowF lo W' F cs l := by
  induction h with
  | nil => exact .nil
  | and s h l1 l2 h1 h2 ih =>
    refine .and s ih l1 l2 ?_ ?_
    · rw [hb _ (lt_of_block h1) l1 (fun c r e => by rw [h1] at e; simp only [Option.some.injEq, Obj.cells.injEq] at e; exact absurd e.2.1 (by decide))]; exact h1
    · rw [hb _ (lt_of_block h2) l2 (fun c r e => by rw [h2] at e; simp only [Option.some.injEq, Obj.cells.injEq] at e; exact absurd e.2.1 (by decide))]; exact h2
theorem RowF.mono {lo lo' : Nat} {W : World} {F : Nat} {cs : Array Value} {l : List Stp} (h : RowF lo W F cs l) (hl : lo' ≤ lo) : RowF lo' W F cs l := by
  induction h with
  | nil => exact .nil
  | and s h l1 l2 h1 h2 ih => exact .and s ih (by omega) (by omega) h1 h2
def vl (vf : Nat → Value) : List Value := (List.range 8).map vf
theorem vl_len (vf : Nat → Value) : (vl vf).length = 8 := by simp [vl]
theorem vl_get (vf : Nat → Value) {m : Nat} (h : m < 8) : (vl vf)[m]? = some (vf m) := by simp [vl, h]
def putF (vf : Nat → Value) (t : Nat) (v : Value) : Nat → Value := fun m => if m = t then v else vf m
theorem vl_set (vf : Nat → Value) (t : Nat) (v : Value) : (vl vf).set t v = vl (putF vf t v) := by
  unfold vl
  rw [MA.range_set]
  refine List.map_congr_left fun p _ => ?_
  unfold putF; split <;> rfl
/-- The search of the program in memory. -/
structure RS (w W : World) (B : Nat) (s : St) (ys : List Int) (vf : Nat → Value) : Prop where
  res : MA.Rg W B 0 FL.nils
  rows : MA.Rg W (B + 1) 0 (vl vf)
  q : Qu W (B + 2) (B + 3) ys
  sz : B + 3 ≤ W.heap.size
  bl : Below B w W
  fn : ∀ m, m < 8 → (s.by_.getD m 0 = -1 ∧ vf m = .nilFunc) ∨ (s.by_.getD m 0 ≠ -1 ∧ ∃ F cs, vf m = .func (.func F) #[] cs ∧ RowF (B + 3) W F cs (s.L m))
theorem RS.below {w W W' : World} {B : Nat} {s : St} {ys : List Int} {vf : Nat → Value} (h : RS w W B s ys vf) (hb : Below W.heap.size W W') : RS w W' B s ys vf := by
  have hs := h.sz
  refine ⟨h.res.below hb (by omega), h.rows.below hb (by omega), h.q.below hb, Nat.le_trans hs hb.size, h.bl.trans (hb.mono (by omega)), fun m hm => ?_⟩
  rcases h.fn m hm with h1 | ⟨h1, F, cs, h2, h3⟩
  · exact .inl h1
  · exact .inr ⟨h1, F, cs, h2, h3.keep fun k hk _ _ => hb.block k hk⟩
theorem Rg_block {W W' : World} {k o : Nat} {cs : List Value} (h : MA.Rg W k o cs) (hb : W'.heap[k]? = W.heap[k]?) : MA.Rg W' k o cs := by
  have hlt : k < W'.heap.size := by
    rcases Nat.lt_or_ge k W'.heap.size with h1 | h1
    · exact h1
    · have := h.lt
      rw [Array.getElem?_eq_none h1, Array.getElem?_eq_getElem this] at hb; cases hb
  refine ⟨hlt, ?_, ?_⟩
  · intro j v hj
    exact (World.cell?_of_block (a := ⟨k, o + j, none⟩) hb).trans (h.rng j v hj)
  · intro j hj
    have := h.ok j hj
    rw [World.cell?_of_block (a := ⟨k, o + j, none⟩) hb, World.frozen?_of_block (a := ⟨k, o + j, none⟩) hb]; exact this
theorem RS.kp {w W W' : World} {B : Nat} {s : St} {ys ys' : List Int} {vf : Nat → Value} (h : RS w W B s ys vf) (hk : Kp (B + 2) (B + 3) W W') (hq : Qu W' (B + 2) (B + 3) ys') : RS w W' B s ys' vf := by
  have hs := h.sz
  refine ⟨Rg_block h.res (hk.block B (by omega) (by omega) (.inl (by omega))), Rg_block h.rows (hk.block (B + 1) (by omega) (by omega) (.inl (by omega))), hq, Nat.le_trans hs hk.size, h.bl.trans ⟨hk.os, hk.tape, hk.output, hk.size, fun k h1 => hk.block k (by omega) (by omega) (.inl (by omega))⟩, fun m hm => ?_⟩
  rcases h.fn m hm with h1 | ⟨h1, F, cs, h2, h3⟩
  · exact .inl h1
  · exact .inr ⟨h1, F, cs, h2, h3.keep fun k a b c => hk.block k a (by omega) (.inr c)⟩
/-- A row is written for a node that was not reached. -/
theorem RS.put {w W : World} {B : Nat} {s s' : St} {ys : List Int} {vf : Nat → Value} {t : Nat} {F : Nat} {cs : Array Value} (h : RS w W B s ys vf) (ht : t < 8) (hR : RowF (B + 3) W F cs (s'.L t)) (hn : s'.by_.getD t 0 ≠ -1) (ho : ∀ m, m < 8 → m ≠ t → s'.by_.getD m 0 = s.by_.getD m 0 ∧ s'.L m = s.L m) : RS w (W.setCell ⟨B + 1, 0 + t, none⟩ (.func (.func F) #[] cs)) B s' ys (putF vf t (.func (.func F) #[] cs)) := by
  have hs := h.sz
  have hb : ∀ k, k ≠ B + 1 → (W.setCell ⟨B + 1, 0 + t, none⟩ (.func (.func F) #[] cs)).heap[k]? = W.heap[k]? := fun k hk => Below.heap_setCell _ _ _ _ hk
  have hp := h.rows.put1 (j := t) (by rw [vl_len]; exact ht) (.func (.func F) #[] cs)
  rw [vl_set] at hp
  refine ⟨Rg_block h.res (hb B (by omega)), hp, h.q.keep (fun k hk ho' => hb k (by rcases ho' with e | e <;> omega)), by rw [set_size]; exact hs, h.bl.trans ⟨rfl, rfl, rfl, by rw [set_size]; exact Nat.le_refl _, fun k hk => hb k (by omega)⟩, fun m hm => ?_⟩
  by_cases e : m = t
  · subst e
    exact .inr ⟨hn, F, cs, by simp [putF], hR.keep fun k _ hk _ => hb k (by omega)⟩
  · obtain ⟨o1, o2⟩ := ho m hm e
    rw [o1, o2, show putF vf t (.func (.func F) #[] cs) m = vf m from by simp [putF, e]]
    rcases h.fn m hm with h1 | ⟨h1, F', cs', h2, h3⟩
    · exact .inl h1
    · exact .inr ⟨h1, F', cs', h2, h3.keep fun k _ hk _ => hb k (by omega)⟩
end FL
end Go.Proofs.Ytndaapidfiocoaa
