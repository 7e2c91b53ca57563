import Derived.Test.YtpabhjnpbnabiaaRows
import Derived.Test.YtpabhjnpbnabiaaCRowA
import Derived.Test.YtpabhjnpbnabiaaMInfo
import Derived.WalkKit
import Derived.WalkSpells
import Derived.WalkLawsBesides
import Derived.Outline
import Derived.ArgAppend
import Derived.Test.YtpabhjnpbnabiaaMA
/- The queue of the program: put and take. The queue of the program: take. -/
namespace Go.Proofs.Ytpabhjnpbnabiaa
open Go.RowKit
namespace FL
/-- A queue in a box of its own: what waits. -/
structure QuA (W : World) (bx base : Nat) (ys : List Int) (a : Option Addr) (cap : Nat) : Prop where
  box : W.heap[bx]? = some (.cells #[.slice a ys.length cap] 107 (0, 0))
  le : ys.length ≤ cap
  row : cap = 0 ∨ ∃ g off cur, a = some ⟨g, off, none⟩ ∧ base ≤ g ∧ W.heap[g]? = some (.cells cur 3 (0, 0)) ∧ off + cap ≤ cur.size ∧ ∀ j, j < ys.length → cur[off + j]? = some (.int .i64 (ys.getD j 0))
structure Qu (W : World) (bx base : Nat) (ys : List Int) : Prop where
  is : ∃ a cap, QuA W bx base ys a cap
/-- What a queue's change leaves alone. -/
structure Kp (bx base : Nat) (W W' : World) : Prop where
  os : W'.os = W.os
  tape : W'.tape = W.tape
  output : W'.output = W.output
  size : W.heap.size ≤ W'.heap.size
  block : ∀ k, k < W.heap.size → k ≠ bx → (k < base ∨ ∀ cs fr, W.heap[k]? ≠ some (.cells cs 3 fr)) → W'.heap[k]? = W.heap[k]?
theorem lt_of_block {W : World} {k : Nat} {o : Obj} (h : W.heap[k]? = some o) : k < W.heap.size := (Array.getElem?_eq_some_iff.1 h).1
theorem Qu.keep {W W' : World} {bx base : Nat} {ys : List Int} (h : Qu W bx base ys) (hb : ∀ k, k < W.heap.size → (k = bx ∨ base ≤ k ∧ ∃ cs fr, W.heap[k]? = some (.cells cs 3 fr)) → W'.heap[k]? = W.heap[k]?) : Qu W' bx base ys := by
  obtain ⟨a, cap, q⟩ := h.is
  refine ⟨a, cap, (hb bx (lt_of_block q.box) (.inl rfl)).trans q.box, q.le, ?_⟩
  rcases q.row with h0 | ⟨g, off, cur, h1, h2, h3, h4, h5⟩
  · exact .inl h0
  · exact .inr ⟨g, off, cur, h1, h2, (hb g (lt_of_block h3) (.inr ⟨h2, _, _, h3⟩)).trans h3, h4, h5⟩
theorem Qu.below {W W' : World} {bx base : Nat} {ys : List Int} (h : Qu W bx base ys) (hb : Below W.heap.size W W') : Qu W' bx base ys := h.keep fun k hk _ => hb.block k hk
theorem cell_block {W : World} {b o : Nat} {cur : Array Value} {t : TypeId} (h : W.heap[b]? = some (.cells cur t (0, 0))) : W.cell? ⟨b, o, none⟩ = cur[o]? := by simp [World.cell?, h]
theorem free_block {W : World} {b o : Nat} {cur : Array Value} {t : TypeId} (h : W.heap[b]? = some (.cells cur t (0, 0))) : W.frozen? ⟨b, o, none⟩ = false := by simp [World.frozen?, h]
theorem set_block {W : World} {b o : Nat} {cur : Array Value} {t : TypeId} (v : Value) (h : W.heap[b]? = some (.cells cur t (0, 0))) : (W.setCell ⟨b, o, none⟩ v).heap[b]? = some (.cells (cur.setIfInBounds o v) t (0, 0)) := by
  obtain ⟨hlt, hk⟩ := Array.getElem?_eq_some_iff.1 h
  show (W.heap.modify b _)[b]? = _
  rw [Array.getElem?_eq_getElem (by rw [Array.size_modify]; exact hlt), Array.getElem_modify_self, hk]
  rfl
theorem set_size (W : World) (p : Addr) (v : Value) : (W.setCell p v).heap.size = W.heap.size := by simp [World.setCell]
/-- The box written anew. -/
theorem Qu.grown {W W' : World} {bx base n : Nat} {ys : List Int} {x : Int} {v' : Value} {c0 : Array Value} (hb : base ≤ W.heap.size) (hbx : bx < base) (hn : ys.length = n) (hbox : W.heap[bx]? = some (.cells c0 107 (0, 0))) (h1 : c0.size = 1)
    (hown : W'.ownsRow (W.heap.size + 1) 3 1 v' (n + 1) (M4.iv ys ++ [.int .i64 x])) (hg : (W.alloc (.cells #[.int .i64 x] 3)).grownBy W' none) : Qu (W'.setCell ⟨bx, 0, none⟩ v') bx base (ys ++ [x]) ∧ Kp bx base W (W'.setCell ⟨bx, 0, none⟩ v') := by
  have hsz : (W.alloc (.cells #[.int .i64 x] 3)).heap.size = W.heap.size + 1 := by simp
  have hsame : ∀ k, k < W.heap.size → W'.heap[k]? = W.heap[k]? := fun k hk => (hg.block k (by omega) (by simp)).trans (Below.heap_alloc _ _ _ hk)
  have hbb : W'.heap[bx]? = some (.cells c0 107 (0, 0)) := (hsame bx (by omega)).trans hbox
  have hs := hg.size
  constructor
  · rcases hown.2 with ⟨_, h0⟩ | ⟨g, cap, cur, rfl, g1, g2, g3, g4, g5, g6⟩
    · omega
    · have hgx : g ≠ bx := by omega
      refine ⟨some ⟨g, 0, none⟩, cap, ?_, by simp; omega, .inr ⟨g, 0, cur, rfl, by omega, ?_, by omega, ?_⟩⟩
      · rw [set_block _ hbb]
        have e : c0.setIfInBounds 0 (.slice (some ⟨g, 0, none⟩) (n + 1) cap) = #[.slice (some ⟨g, 0, none⟩) (ys ++ [x]).length cap] := by
          obtain ⟨l⟩ := c0
          match l, h1 with
          | [u], _ => simp [hn]
        rw [e]
      · rw [Below.heap_setCell _ _ _ _ hgx]; exact g2
      · intro j hj
        have hj' : j < n + 1 := by simp [hn] at hj; omega
        have e := congrArg (fun l : List Value => l[j]?) g6
        rw [List.getElem?_take, if_pos (by omega)] at e
        rw [Nat.zero_add, ← Array.getElem?_toList, e, show M4.iv ys ++ [Value.int .i64 x] = M4.iv (ys ++ [x]) from by simp [M4.iv]]
        exact M4.iv_get _ _ _ (get_of _ hj)
  · refine ⟨hg.os, hg.tape, hg.output, by rw [set_size]; omega, fun k hk hkb _ => ?_⟩
    rw [Below.heap_setCell _ _ _ _ hkb]; exact hsame k hk
theorem Qu.room {W : World} {bx base n g off cap : Nat} {ys : List Int} {x : Int} {cur : Array Value} (_hb : base ≤ W.heap.size) (hbx : bx < base) (hn : ys.length = n) (hbox : W.heap[bx]? = some (.cells #[.slice (some ⟨g, off, none⟩) n cap] 107 (0, 0)))
    (g1 : base ≤ g) (g2 : W.heap[g]? = some (.cells cur 3 (0, 0))) (g3 : off + cap ≤ cur.size) (g4 : ∀ j, j < n → cur[off + j]? = some (.int .i64 (ys.getD j 0))) (hr : n + 1 ≤ cap) :
    Qu (((W.alloc (.cells #[.int .i64 x] 3)).setCells g (off + n) [.int .i64 x]).setCell ⟨bx, 0, none⟩ (.slice (some ⟨g, off, none⟩) (n + 1) cap)) bx base (ys ++ [x]) ∧ Kp bx base W (((W.alloc (.cells #[.int .i64 x] 3)).setCells g (off + n) [.int .i64 x]).setCell ⟨bx, 0, none⟩ (.slice (some ⟨g, off, none⟩) (n + 1) cap)) := by
  have hgl := lt_of_block g2
  have hgx : g ≠ bx := by omega
  show Qu (((W.alloc (.cells #[.int .i64 x] 3)).setCell ⟨g, off + n, none⟩ (.int .i64 x)).setCell ⟨bx, 0, none⟩ _) bx base _ ∧ Kp bx base W (((W.alloc (.cells #[.int .i64 x] 3)).setCell ⟨g, off + n, none⟩ (.int .i64 x)).setCell ⟨bx, 0, none⟩ _)
  have hA : (W.alloc (.cells #[.int .i64 x] 3)).heap[g]? = some (.cells cur 3 (0, 0)) := (Below.heap_alloc _ _ _ hgl).trans g2
  have hB : ((W.alloc (.cells #[.int .i64 x] 3)).setCell ⟨g, off + n, none⟩ (.int .i64 x)).heap[bx]? = some (.cells #[.slice (some ⟨g, off, none⟩) n cap] 107 (0, 0)) := by
    rw [Below.heap_setCell _ _ _ _ (fun e => hgx e.symm), Below.heap_alloc _ _ _ (by omega)]; exact hbox
  constructor
  · refine ⟨some ⟨g, off, none⟩, cap, ?_, by simp [hn]; omega, .inr ⟨g, off, cur.setIfInBounds (off + n) (.int .i64 x), rfl, g1, ?_, by simp; omega, ?_⟩⟩
    · rw [set_block _ hB]; simp [hn]
    · rw [Below.heap_setCell _ _ _ _ hgx]; exact set_block _ hA
    · intro j hj
      have hj' : j < n + 1 := by simp [hn] at hj; omega
      rw [Array.getElem?_setIfInBounds]
      by_cases e : j = n
      · subst e
        rw [if_pos rfl, if_pos (by omega)]
        rw [List.getD_eq_getElem?_getD, ← hn, List.getElem?_append_right (Nat.le_refl _)]; simp
      · rw [if_neg (by omega), g4 j (by omega), List.getD_eq_getElem?_getD, List.getD_eq_getElem?_getD, List.getElem?_append_left (by omega)]
  · refine ⟨rfl, rfl, rfl, by rw [set_size, set_size]; simp, fun k hk hkb ht => ?_⟩
    have hkg : k ≠ g := by
      intro e; subst e
      rcases ht with h | h
      · omega
      · exact h _ _ g2
    rw [Below.heap_setCell _ _ _ _ hkb, Below.heap_setCell _ _ _ _ hkg]; exact Below.heap_alloc _ _ _ hk
end FL
set_option linter.unusedSimpArgs false in
set_option maxHeartbeats 1600000 in
set_option maxRecDepth 100000 in
theorem put_any (bx base : Nat) (ys : List Int) (x : Int) (w : World) (hq : FL.Qu w bx base ys) (hl : ys.length ≤ 1000) (hb : base ≤ w.heap.size) (hbx : bx < base) :
    Calls Try.prog 80 #[.pointer (some ⟨bx, 0, none⟩), .int .i64 x] w fun e w' => e = .returned (.tuple #[]) ∧ FL.Qu w' bx base (ys ++ [x]) ∧ FL.Kp bx base w w' := by
  obtain ⟨i0, hi, hz0, hz1, hz2⟩ := info_parts Try.info3
  obtain ⟨a, cap, Q⟩ := hq.is
  have c0 : w.cell? ⟨bx, 0, none⟩ = some (.slice a ys.length cap) := by rw [FL.cell_block Q.box]; rfl
  have z0 : w.frozen? ⟨bx, 0, none⟩ = false := FL.free_block Q.box
  have l0 : bx < w.heap.size := by omega
  have hle := Q.le
  have HBX : Hid _ := Q.box
  have HRW : Hid _ := Q.row
  clear hq Q
  by_cases hr : ys.length + 1 ≤ cap
  · obtain ⟨g, off, cur, ha, g1, g2, g3, g4⟩ : ∃ g off cur, a = some ⟨g, off, none⟩ ∧ base ≤ g ∧ w.heap[g]? = some (.cells cur 3 (0, 0)) ∧ off + cap ≤ cur.size ∧ ∀ j, j < ys.length → cur[off + j]? = some (.int .i64 (ys.getD j 0)) := by
      rcases HRW.out with h | h
      · omega
      · exact h
    subst ha
    have hgl := FL.lt_of_block g2
    have hgx : g ≠ bx := by
      intro e; subst e
      have h5 := HBX.out; rw [g2] at h5
      simp only [Option.some.injEq, Obj.cells.injEq] at h5
      exact absurd h5.2.1 (by decide)
    generalize hyl : ys.length = n at *
    have FIN : Hid _ := FL.Qu.room (x := x) hb hbx hyl HBX.out g1 g2 g3 g4 hr
    have D1 : Hid (∀ j u, (M4.iv ys)[j]? = some u → (w.alloc (.cells #[.int .i64 x] 3)).cell? ⟨g, off + j, none⟩ = some u) := fun j u hj => by
      have hjl : j < ys.length := by have := (List.getElem?_eq_some_iff.1 hj).1; simpa [M4.iv] using this
      rw [World.cell?_alloc_lt _ _ _ hgl, FL.cell_block g2, g4 j (by omega)]
      rw [M4.iv_get _ _ _ (FL.get_of _ hjl)] at hj; exact hj
    have D2 : Hid (∀ j, j < 1 → ((w.alloc (.cells #[.int .i64 x] 3)).cell? ⟨g, off + n * 1 + j, none⟩).isSome = true ∧ (w.alloc (.cells #[.int .i64 x] 3)).frozen? ⟨g, off + n * 1 + j, none⟩ = false) := fun j hj => by
      have hA : (w.alloc (.cells #[.int .i64 x] 3)).heap[g]? = some (.cells cur 3 (0, 0)) := (Below.heap_alloc _ _ _ hgl).trans g2
      refine ⟨?_, FL.free_block hA⟩
      rw [FL.cell_block hA, Array.getElem?_eq_getElem (by omega)]; rfl
    have bA : ((w.alloc (.cells #[.int .i64 x] 3)).setCells g (off + n) [.int .i64 x]).heap[bx]? = w.heap[bx]? := by
      show ((w.alloc (.cells #[.int .i64 x] 3)).setCell ⟨g, off + n, none⟩ (.int .i64 x)).heap[bx]? = _
      rw [Below.heap_setCell _ _ _ _ (fun e => hgx e.symm)]; exact Below.heap_alloc _ _ _ l0
    have cA : ((w.alloc (.cells #[.int .i64 x] 3)).setCells g (off + n) [.int .i64 x]).cell? ⟨bx, 0, none⟩ = some (.slice (some ⟨g, off, none⟩) n cap) := (World.cell?_of_block (a := ⟨bx, 0, none⟩) bA).trans c0
    have zA : ((w.alloc (.cells #[.int .i64 x] 3)).setCells g (off + n) [.int .i64 x]).frozen? ⟨bx, 0, none⟩ = false := (World.frozen?_of_block (a := ⟨bx, 0, none⟩) bA).trans z0
    have HYL : Hid (ys.length = n) := hyl
    clear hyl HRW g2 g3 g4 bA HBX
    go_enter Try.func80, Try.ntmps80
    go_wp2_with (at_builtin; refine wpList_append_arg _ rfl _ _ 29 rfl 3 i0 (.int .i64 0) 1 8 Try.underlying29 hi hz0 hz1 hz2 rfl (by decide) g off n cap (M4.iv ys) rfl ?b1 ?b2 ⟨w.heap.size, 0, none⟩ 1 1 [.int .i64 x] rfl rfl ?b3 ?b4 ?b5 ?b6 ?b7 ?b8 ?b9)
    case b1 => simp [M4.iv, HYL.out]
    case b2 => exact D1.out
    case b3 => exact M2.new1 _ _ _
    case b4 => exact M2.one1 _ _
    case b5 => intro _ j hj; exact D2.out j (by simpa using hj)
    case b6 => unfold maxLen; omega
    case b7 => omega
    case b9 => intro h; omega
    exact bodyPost_end (results_none rfl _ _ _) rfl ⟨rfl, FIN.out⟩
  · have hca : cap < ys.length + 1 := by omega
    have hnone : a = none → ys.length = 0 ∧ cap = 0 := fun h => by
      rcases HRW.out with h0 | ⟨g, off, cur, h1, _⟩
      · omega
      · rw [h] at h1; cases h1
    have D1 : Hid (∀ b, a = some b → ∀ j u, (M4.iv ys)[j]? = some u → (w.alloc (.cells #[.int .i64 x] 3)).cell? (b.add j) = some u) := fun b hab j u hj => by
      have hjl : j < ys.length := by have := (List.getElem?_eq_some_iff.1 hj).1; simpa [M4.iv] using this
      rcases HRW.out with h0 | ⟨g, off, cur, h1, h2, h3, h4, h5⟩
      · omega
      · rw [hab] at h1; cases h1
        have hgl := FL.lt_of_block h3
        rw [Addr.add_lit, World.cell?_alloc_lt _ _ _ hgl, FL.cell_block h3, h5 j hjl]
        rw [M4.iv_get _ _ _ (FL.get_of _ hjl)] at hj; exact hj
    have HNN : Hid _ := hnone
    have HBX2 := HBX.out
    generalize hyl : ys.length = n at *
    have FIN : Hid (∀ v' w', w'.ownsRow (w.heap.size + 1) 3 1 v' (n + 1) (M4.iv ys ++ [.int .i64 x]) → (w.alloc (.cells #[.int .i64 x] 3)).grownBy w' none → FL.Qu (w'.setCell ⟨bx, 0, none⟩ v') bx base (ys ++ [x]) ∧ FL.Kp bx base w (w'.setCell ⟨bx, 0, none⟩ v')) := fun v' w' h1 h2 => FL.Qu.grown hb hbx hyl HBX2 (by simp) h1 h2
    have HYL : Hid (ys.length = n) := hyl
    clear hyl HRW hnone HBX HBX2
    go_enter Try.func80, Try.ntmps80
    go_wp2_with (at_builtin; go_loud (refine wpList_append_grows _ rfl _ _ 29 rfl 3 i0 (.int .i64 0) 1 8 Try.underlying29 hi hz0 hz1 hz2 rfl (by decide) a n cap (M4.iv ys) rfl ?e1 ?e2 ?e3 ⟨w.heap.size, 0, none⟩ 1 1 [.int .i64 x] rfl rfl ?e4 ?e5 ?e6 ?e7 ?e8 ?e9))
    case e1 => exact HNN.out
    case e2 => simp [M4.iv, HYL.out]
    case e3 => exact D1.out
    case e4 => exact M2.new1 _ _ _
    case e5 => exact M2.one1 _ _
    case e6 => omega
    case e7 => unfold maxLen; omega
    case e8 => omega
    intro v' w' hown hgrow
    have hown' : w'.ownsRow (w.heap.size + 1) 3 1 v' (n + 1) (M4.iv ys ++ [.int .i64 x]) := by simpa using hown
    have F2 : Hid _ := FIN.out v' w' hown' hgrow
    have bA : w'.heap[bx]? = w.heap[bx]? := (hgrow.block bx (by simp; omega) (by simp)).trans (Below.heap_alloc _ _ _ l0)
    have cA : w'.cell? ⟨bx, 0, none⟩ = some (.slice a n cap) := (World.cell?_of_block (a := ⟨bx, 0, none⟩) bA).trans c0
    have zA : w'.frozen? ⟨bx, 0, none⟩ = false := (World.frozen?_of_block (a := ⟨bx, 0, none⟩) bA).trans z0
    have lA : bx < w'.heap.size := by have := hgrow.size; simp at this; omega
    obtain ⟨g', cap', hv', _, _⟩ : ∃ g cap, v' = .slice (some ⟨g, 0, none⟩) (n + 1) cap ∧ True ∧ True := by
      rcases hown'.2 with ⟨_, h0⟩ | ⟨g, cap, cur, h1, _⟩
      · omega
      · exact ⟨g, cap, h1, trivial, trivial⟩
    subst hv'
    clear hown hown' hgrow FIN D1 HNN bA
    go_wp2
    exact bodyPost_end (results_none rfl _ _ _) rfl ⟨rfl, F2.out⟩
end Go.Proofs.Ytpabhjnpbnabiaa
namespace Go.Proofs.Ytpabhjnpbnabiaa
open Go.RowKit
namespace FL
theorem Qu.taken {W : World} {bx base cap cap' : Nat} {y : Int} {ys : List Int} {a a' : Option Addr} (h : QuA W bx base (y :: ys) a cap) (hc : cap' + 1 = cap) (ha : cap' = 0 ∨ ∃ g off, a = some ⟨g, off, none⟩ ∧ a' = some ⟨g, off + 1, none⟩) (v : Value) (hv : v = .slice a' ys.length cap') : Qu (W.setCell ⟨bx, 0, none⟩ v) bx base ys ∧ Kp bx base W (W.setCell ⟨bx, 0, none⟩ v) := by
  subst hv
  have hle := h.le
  simp only [List.length_cons] at hle
  constructor
  · refine ⟨a', cap', by rw [set_block _ h.box]; simp, by omega, ?_⟩
    rcases ha with h0 | ⟨g, off, rfl, rfl⟩
    · exact .inl h0
    · rcases h.row with h0 | ⟨g', off', cur, h1, h2, h3, h4, h5⟩
      · omega
      · cases h1
        have hgx : g ≠ bx := by
          intro e; subst e
          have h6 := h.box; rw [h3] at h6
          simp only [Option.some.injEq, Obj.cells.injEq] at h6
          exact absurd h6.2.1 (by decide)
        refine .inr ⟨g, off + 1, cur, rfl, h2, by rw [Below.heap_setCell _ _ _ _ hgx]; exact h3, by omega, fun j hj => ?_⟩
        have := h5 (j + 1) (by simp; omega)
        rw [show off + 1 + j = off + (j + 1) from by omega, this]; simp
  · exact ⟨rfl, rfl, rfl, by rw [set_size]; exact Nat.le_refl _, fun k _ hkb _ => Below.heap_setCell _ _ _ _ hkb⟩
end FL
set_option linter.unusedSimpArgs false in
set_option maxHeartbeats 1600000 in
set_option maxRecDepth 100000 in
theorem takeNil_any (bx base : Nat) (w : World) (hq : FL.Qu w bx base []) :
    Calls Try.prog 81 #[.pointer (some ⟨bx, 0, none⟩)] w fun e w' => e = .returned (.tuple #[.int .i64 0, .bool false]) ∧ w = w' := by
  obtain ⟨a, cap, Q⟩ := hq.is
  have c0 : w.cell? ⟨bx, 0, none⟩ = some (.slice a 0 cap) := by rw [FL.cell_block Q.box]; rfl
  have l0 : bx < w.heap.size := FL.lt_of_block Q.box
  clear hq Q
  go_enter Try.func81, Try.ntmps81
  go_wp2
  go_ret2
  exact ⟨rfl, rfl⟩
set_option linter.unusedSimpArgs false in
set_option maxHeartbeats 1600000 in
set_option maxRecDepth 100000 in
theorem takeCons_any (bx base : Nat) (y : Int) (ys : List Int) (w : World) (hq : FL.Qu w bx base (y :: ys)) (hl : ys.length ≤ 1000) :
    Calls Try.prog 81 #[.pointer (some ⟨bx, 0, none⟩)] w fun e w' => e = .returned (.tuple #[.int .i64 y, .bool true]) ∧ FL.Qu w' bx base ys ∧ FL.Kp bx base w w' := by
  obtain ⟨a, cap, Q⟩ := hq.is
  have hle := Q.le
  simp only [List.length_cons] at hle
  obtain ⟨cap', rfl⟩ : ∃ c, cap = c + 1 := ⟨cap - 1, by omega⟩
  obtain ⟨g, off, cur, ha, g1, g2, g3, g4⟩ : ∃ g off cur, a = some ⟨g, off, none⟩ ∧ base ≤ g ∧ w.heap[g]? = some (.cells cur 3 (0, 0)) ∧ off + (cap' + 1) ≤ cur.size ∧ ∀ j, j < (y :: ys).length → cur[off + j]? = some (.int .i64 ((y :: ys).getD j 0)) := by
    rcases Q.row with h | h
    · omega
    · exact h
  subst ha
  have c0 : w.cell? ⟨bx, 0, none⟩ = some (.slice (some ⟨g, off, none⟩) (ys.length + 1) (cap' + 1)) := by rw [FL.cell_block Q.box]; rfl
  have z0 : w.frozen? ⟨bx, 0, none⟩ = false := FL.free_block Q.box
  have l0 : bx < w.heap.size := FL.lt_of_block Q.box
  have lg : g < w.heap.size := FL.lt_of_block g2
  have cy : w.cell? ⟨g, off, none⟩ = some (.int .i64 y) := by rw [FL.cell_block g2]; have := g4 0 (by simp); simpa using this
  have HQ : Hid _ := Q
  generalize hyl : ys.length = n at *
  have HYL : Hid (ys.length = n) := hyl
  clear hq Q hyl g4 g2 g3
  by_cases hc : cap' = 0
  · have FIN : Hid _ := FL.Qu.taken HQ.out rfl (a' := some ⟨g, off, none⟩) (.inl hc) (.slice (some ⟨g, off, none⟩) n 0) (by rw [HYL.out, hc])
    subst hc
    obtain rfl : n = 0 := by omega
    clear HQ
    go_enter Try.func81, Try.ntmps81
    go_wp2
    go_ret2
    exact ⟨rfl, FIN.out⟩
  · have FIN : Hid _ := FL.Qu.taken HQ.out rfl (a' := some ⟨g, off + 1, none⟩) (.inr ⟨g, off, rfl, rfl⟩) (.slice (some ⟨g, off + 1, none⟩) n cap') (by rw [HYL.out])
    clear HQ
    go_enter Try.func81, Try.ntmps81
    go_wp2
    go_ret2
    exact ⟨rfl, FIN.out⟩
end Go.Proofs.Ytpabhjnpbnabiaa

/- Rows of pipes by closures, as they lie in memory: what keeps them. -/
namespace Go.Proofs.Ytpabhjnpbnabiaa
open Go.RowKit
def FL.nils : List Value := List.replicate 8 Value.nilFunc
namespace FL
/-- A row of pipes: the function and what it has caught; its steps. -/
inductive RowF (lo : Nat) (W : World) : Nat → Array Value → List Stp → Prop
  | nil : RowF lo W 79 #[] []
  | and {F : Nat} {cs : Array Value} {l : List Stp} (s : Stp) {b1 b2 : Nat} (h : RowF lo W F cs l) (l1 : lo ≤ b1) (l2 : lo ≤ b2)
      (h1 : W.heap[b1]? = some (.cells #[.func (.func F) #[] cs] 87 (0, 0)))
      (h2 : W.heap[b2]? = some (.cells #[.int .i64 (s.k : Int), .bool s.back, .int .i64 s.to, .int .i64 s.room] 111 (0, 0))) :
      RowF lo W 93 #[.pointer (some ⟨b1, 0, none⟩), .pointer (some ⟨b2, 0, none⟩)] (l ++ [s])
theorem RowF.keep {lo : Nat} {W W' : World} {F : Nat} {cs : Array Value} {l : List Stp} (h : RowF lo W F cs l) (hb : ∀ k, k < W.heap.size → lo ≤ k → (∀ cs fr, W.heap[k]? ≠ some (.cells cs 3 fr)) → W'.heap[k]? = W.heap[k]?) : RowF lo W' F cs l := by
  induction h with
  | nil => exact .nil
  | and s h l1 l2 h1 h2 ih =>
    refine .and s ih l1 l2 ?_ ?_
    · rw [hb _ (lt_of_block h1) l1 (fun c r e => by rw [h1] at e; simp only [Option.some.injEq, Obj.cells.injEq] at e; exact absurd e.2.1 (by decide))]; exact h1
    · rw [hb _ (lt_of_block h2) l2 (fun c r e => by rw [h2] at e; simp only [Option.some.injEq, Obj.cells.injEq] at e; exact absurd e.2.1 (by decide))]; exact h2
theorem RowF.mono {lo lo' : Nat} {W : World} {F : Nat} {cs : Array Value} {l : List Stp} (h : RowF lo W F cs l) (hl : lo' ≤ lo) : RowF lo' W F cs l := by
  induction h with
  | nil => exact .nil
  | and s h l1 l2 h1 h2 ih => exact .and s ih (by omega) (by omega) h1 h2
def vl (vf : Nat → Value) : List Value := (List.range 8).map vf
theorem vl_len (vf : Nat → Value) : (vl vf).length = 8 := by simp [vl]
theorem vl_get (vf : Nat → Value) {m : Nat} (h : m < 8) : (vl vf)[m]? = some (vf m) := by simp [vl, h]
def putF (vf : Nat → Value) (t : Nat) (v : Value) : Nat → Value := fun m => if m = t then v else vf m
theorem vl_set (vf : Nat → Value) (t : Nat) (v : Value) : (vl vf).set t v = vl (putF vf t v) := by
  unfold vl
  rw [MA.range_set]
  refine List.map_congr_left fun p _ => ?_
  unfold putF; split <;> rfl
/-- The search of the program in memory. -/
structure RS (w W : World) (B : Nat) (s : St) (ys : List Int) (vf : Nat → Value) : Prop where
  res : MA.Rg W B 0 FL.nils
  rows : MA.Rg W (B + 1) 0 (vl vf)
  q : Qu W (B + 2) (B + 3) ys
  sz : B + 3 ≤ W.heap.size
  bl : Below B w W
  fn : ∀ m, m < 8 → (s.by_.getD m 0 = -1 ∧ vf m = .nilFunc) ∨ (s.by_.getD m 0 ≠ -1 ∧ ∃ F cs, vf m = .func (.func F) #[] cs ∧ RowF (B + 3) W F cs (s.L m))
theorem RS.below {w W W' : World} {B : Nat} {s : St} {ys : List Int} {vf : Nat → Value} (h : RS w W B s ys vf) (hb : Below W.heap.size W W') : RS w W' B s ys vf := by
  have hs := h.sz
  refine ⟨h.res.below hb (by omega), h.rows.below hb (by omega), h.q.below hb, Nat.le_trans hs hb.size, h.bl.trans (hb.mono (by omega)), fun m hm => ?_⟩
  rcases h.fn m hm with h1 | ⟨h1, F, cs, h2, h3⟩
  · exact .inl h1
  · exact .inr ⟨h1, F, cs, h2, h3.keep fun k hk _ _ => hb.block k hk⟩
theorem Rg_block {W W' : World} {k o : Nat} {cs : List Value} (h : MA.Rg W k o cs) (hb : W'.heap[k]? = W.heap[k]?) : MA.Rg W' k o cs := by
  have hlt : k < W'.heap.size := by
    rcases Nat.lt_or_ge k W'.heap.size with h1 | h1
    · exact h1
    · have := h.lt
      rw [Array.getElem?_eq_none h1, Array.getElem?_eq_getElem this] at hb; cases hb
  refine ⟨hlt, ?_, ?_⟩
  · intro j v hj
    exact (World.cell?_of_block (a := ⟨k, o + j, none⟩) hb).trans (h.rng j v hj)
  · intro j hj
    have := h.ok j hj
    rw [World.cell?_of_block (a := ⟨k, o + j, none⟩) hb, World.frozen?_of_block (a := ⟨k, o + j, none⟩) hb]; exact this
theorem RS.kp {w W W' : World} {B : Nat} {s : St} {ys ys' : List Int} {vf : Nat → Value} (h : RS w W B s ys vf) (hk : Kp (B + 2) (B + 3) W W') (hq : Qu W' (B + 2) (B + 3) ys') : RS w W' B s ys' vf := by
  have hs := h.sz
  refine ⟨Rg_block h.res (hk.block B (by omega) (by omega) (.inl (by omega))), Rg_block h.rows (hk.block (B + 1) (by omega) (by omega) (.inl (by omega))), hq, Nat.le_trans hs hk.size, h.bl.trans ⟨hk.os, hk.tape, hk.output, hk.size, fun k h1 => hk.block k (by omega) (by omega) (.inl (by omega))⟩, fun m hm => ?_⟩
  rcases h.fn m hm with h1 | ⟨h1, F, cs, h2, h3⟩
  · exact .inl h1
  · exact .inr ⟨h1, F, cs, h2, h3.keep fun k a b c => hk.block k a (by omega) (.inr c)⟩
/-- A row is written for a node that was not reached. -/
theorem RS.put {w W : World} {B : Nat} {s s' : St} {ys : List Int} {vf : Nat → Value} {t : Nat} {F : Nat} {cs : Array Value} (h : RS w W B s ys vf) (ht : t < 8) (hR : RowF (B + 3) W F cs (s'.L t)) (hn : s'.by_.getD t 0 ≠ -1) (ho : ∀ m, m < 8 → m ≠ t → s'.by_.getD m 0 = s.by_.getD m 0 ∧ s'.L m = s.L m) : RS w (W.setCell ⟨B + 1, 0 + t, none⟩ (.func (.func F) #[] cs)) B s' ys (putF vf t (.func (.func F) #[] cs)) := by
  have hs := h.sz
  have hb : ∀ k, k ≠ B + 1 → (W.setCell ⟨B + 1, 0 + t, none⟩ (.func (.func F) #[] cs)).heap[k]? = W.heap[k]? := fun k hk => Below.heap_setCell _ _ _ _ hk
  have hp := h.rows.put1 (j := t) (by rw [vl_len]; exact ht) (.func (.func F) #[] cs)
  rw [vl_set] at hp
  refine ⟨Rg_block h.res (hb B (by omega)), hp, h.q.keep (fun k hk ho' => hb k (by rcases ho' with e | e <;> omega)), by rw [set_size]; exact hs, h.bl.trans ⟨rfl, rfl, rfl, by rw [set_size]; exact Nat.le_refl _, fun k hk => hb k (by omega)⟩, fun m hm => ?_⟩
  by_cases e : m = t
  · subst e
    exact .inr ⟨hn, F, cs, by simp [putF], hR.keep fun k _ hk _ => hb k (by omega)⟩
  · obtain ⟨o1, o2⟩ := ho m hm e
    rw [o1, o2, show putF vf t (.func (.func F) #[] cs) m = vf m from by simp [putF, e]]
    rcases h.fn m hm with h1 | ⟨h1, F', cs', h2, h3⟩
    · exact .inl h1
    · exact .inr ⟨h1, F', cs', h2, h3.keep fun k _ hk _ => hb k (by omega)⟩
end FL
end Go.Proofs.Ytpabhjnpbnabiaa
