/- Rows of queues in which nothing waits: three cells each, the first of them an empty list. Plain facts. -/
import Derived.Test.YtobldjmllhemlaaMCur
import Derived.Test.YtobldjmllhemlaaM5
import Derived.Below
import Derived.WalkKit
import Derived.OwnWalk
namespace Go.Proofs.Ytobldjmllhemlaa
namespace TQ
open Go.RowKit
def cs (x : Int × Int) : List Value := [.slice none 0 0, .int .i64 x.1, .int .i64 x.2]
def flat (xs : List (Int × Int)) : List Value := xs.flatMap cs
theorem flat_len (xs : List (Int × Int)) : (flat xs).length = xs.length * 3 := by
  induction xs with
  | nil => rfl
  | cons x xs ih => simp only [flat, List.flatMap_cons, List.length_append, List.length_cons] at *; rw [ih]; simp [cs]; omega
theorem flat_app (xs ys : List (Int × Int)) : flat (xs ++ ys) = flat xs ++ flat ys := by simp [flat]
def at_ (xs : List (Int × Int)) (j : Nat) : Int × Int := xs[j]?.getD (0, 0)
theorem flat_get (xs : List (Int × Int)) (j i : Nat) (h : j < xs.length) (hi : i < 3) : (flat xs)[3 * j + i]? = (cs (at_ xs j))[i]? := by
  induction xs generalizing j with
  | nil => simp at h
  | cons x xs ih =>
    have hx : (cs x).length = 3 := rfl
    cases j with
    | zero =>
      show (cs x ++ flat xs)[3 * 0 + i]? = _
      rw [List.getElem?_append_left (by omega)]
      simp [at_]
    | succ j =>
      show (cs x ++ flat xs)[3 * (j + 1) + i]? = _
      rw [List.getElem?_append_right (by omega), hx, show 3 * (j + 1) + i - 3 = 3 * j + i from by omega, ih j (by simpa using h)]
      simp [at_]
/-- n queues that have nothing; marked up to i, from k on. -/
def zs (n : Nat) : List (Int × Int) := List.replicate n (0, 0)
def mk1 (k : Int) (i : Nat) : Int × Int := (k + 2 * i, k + 2 * i + 1)
def mkN (k : Int) (n i : Nat) : List (Int × Int) := (List.range i).map (mk1 k) ++ List.replicate (n - i) (0, 0)
theorem mkN_zero (k : Int) (n : Nat) : mkN k n 0 = zs n := by simp [mkN, zs]
theorem mkN_len (k : Int) (n i : Nat) (h : i ≤ n) : (mkN k n i).length = n := by simp [mkN]; omega
theorem mkN_at (k : Int) (n i j : Nat) (h : j < i) : at_ (mkN k n i) j = mk1 k j := by
  rw [at_, mkN, List.getElem?_append_left (by simp; exact h)]
  simp [h]
theorem zs_at (n j : Nat) : at_ (zs n) j = (0, 0) := by
  simp only [at_, zs]
  by_cases h : j < n
  · simp [h]
  · simp [h]
theorem mkN_set (k : Int) (n i : Nat) (h : i < n) : ((flat (mkN k n i)).set (i * 3 + 1) (.int .i64 (k + 2 * i))).set (i * 3 + 2) (.int .i64 (k + 2 * i + 1)) = flat (mkN k n (i + 1)) := by
  have e1 : mkN k n i = (List.range i).map (mk1 k) ++ (0, 0) :: List.replicate (n - (i + 1)) (0, 0) := by
    rw [mkN, show n - i = (n - (i + 1)) + 1 from by omega, List.replicate_succ]
  have e2 : mkN k n (i + 1) = (List.range i).map (mk1 k) ++ mk1 k i :: List.replicate (n - (i + 1)) (0, 0) := by
    rw [mkN, List.range_succ]; simp
  have fl : (flat ((List.range i).map (mk1 k))).length = i * 3 := by rw [flat_len]; simp
  rw [e1, e2, flat_app, flat_app, List.set_append_right _ _ (by omega), List.set_append_right _ _ (by omega), fl, show i * 3 + 1 - i * 3 = 1 from by omega, show i * 3 + 2 - i * 3 = 2 from by omega]
  rfl
/-- The three cells of each of a row that a call owns. -/
theorem own_at {w : World} {base e g n cap : Nat} {xs : List (Int × Int)} (h : w.ownsRow base e 3 (.slice (some ⟨g, 0, none⟩) n cap) n (flat xs)) {j : Nat} (hj : j < n) :
    g < w.heap.size ∧ w.cell? ⟨g, j * 3, none⟩ = some (.slice none 0 0) ∧ w.cell? ⟨g, j * 3 + 1, none⟩ = some (.int .i64 (at_ xs j).1) ∧ w.cell? ⟨g, j * 3 + 2, none⟩ = some (.int .i64 (at_ xs j).2) := by
  have hlen : xs.length = n := by have := h.1; rw [flat_len] at this; omega
  have hc : ∀ i, i < 3 → w.cell? ⟨g, j * 3 + i, none⟩ = (cs (at_ xs j))[i]? := fun i hi => by
    rw [h.cellAt (j * 3 + i) (by omega), ← flat_get xs j i (by omega) hi, Nat.mul_comm]
  exact ⟨(h.lt g rfl).2, hc 0 (by omega), hc 1 (by omega), hc 2 (by omega)⟩
/-- A row of n queues that have nothing, wherever it lies: what eqQueueS reads. -/
structure ZAt (w : World) (v : Value) (n : Nat) : Prop where
  is : (n = 0 ∧ v = .slice none 0 0) ∨ ∃ g, v = .slice (some ⟨g, 0, none⟩) n n ∧ g < w.heap.size ∧ ∀ j, j < n → w.cell? ⟨g, j * 3, none⟩ = some (.slice none 0 0) ∧ w.cell? ⟨g, j * 3 + 1, none⟩ = some (.int .i64 0) ∧ w.cell? ⟨g, j * 3 + 2, none⟩ = some (.int .i64 0)
theorem ZAt.below {w w' : World} {v : Value} {n b : Nat} (h : ZAt w v n) (hb : Below b w w') (hs : w.heap.size ≤ b) : ZAt w' v n := by
  rcases h.is with h0 | ⟨g, rfl, hlt, hc⟩
  · exact ⟨.inl h0⟩
  · refine ⟨.inr ⟨g, rfl, Nat.lt_of_lt_of_le hlt hb.size, fun j hj => ?_⟩⟩
    obtain ⟨c0, c1, c2⟩ := hc j hj
    exact ⟨(hb.cell (p := ⟨g, _, none⟩) (Nat.lt_of_lt_of_le hlt hs)).trans c0, (hb.cell (p := ⟨g, _, none⟩) (Nat.lt_of_lt_of_le hlt hs)).trans c1, (hb.cell (p := ⟨g, _, none⟩) (Nat.lt_of_lt_of_le hlt hs)).trans c2⟩
theorem own_base {w : World} {B B' e sz n : Nat} {v : Value} {xs : List Value} (h : w.ownsRow B e sz v n xs) (hb : B' ≤ B) : w.ownsRow B' e sz v n xs := by
  refine ⟨h.1, ?_⟩
  rcases h.2 with h' | ⟨g', cap, cur, hv, hB, rest⟩
  · exact .inl h'
  · exact .inr ⟨g', cap, cur, hv, by omega, rest⟩
theorem free_new (w : World) (c : Array Value) (t : TypeId) (j : Nat) : (w.alloc (.cells c t)).frozen? ⟨w.heap.size, j, none⟩ = false := by
  unfold World.frozen?; rw [show (w.alloc (.cells c t)).heap[w.heap.size]? = some (.cells c t) from heap_alloc_new w _]; simp
/-- What a new row is: n queues in a block of their own, or no queue at all. -/
structure New (w : World) (base e : Nat) (v : Value) (n i : Nat) (k : Int) : Prop where
  is : (n = 0 ∧ v = .slice none 0 0) ∨ ∃ g, v = .slice (some ⟨g, 0, none⟩) n n ∧ w.ownsRow base e 3 v n (flat (mkN k n i))
theorem New.zat {w : World} {base e : Nat} {v : Value} {n : Nat} {k : Int} (h : New w base e v n 0 k) : ZAt w v n := by
  rcases h.is with h0 | ⟨g, rfl, ho⟩
  · exact ⟨.inl h0⟩
  · refine ⟨.inr ⟨g, rfl, (ho.lt g rfl).2, fun j hj => ?_⟩⟩
    have := own_at ho hj
    rw [mkN_zero, zs_at] at this
    exact this.2
theorem New.below {w w' : World} {base e : Nat} {v : Value} {n i : Nat} {k : Int} (h : New w base e v n i k) (hb : Below w.heap.size w w') : New w' base e v n i k := by
  rcases h.is with h0 | ⟨g, rfl, ho⟩
  · exact ⟨.inl h0⟩
  · exact ⟨.inr ⟨g, rfl, M5.own_below ho hb⟩⟩
theorem New.alloc {w : World} {base e : Nat} {v : Value} {n i : Nat} {k : Int} (h : New w base e v n i k) (o : Obj) : New (w.alloc o) base e v n i k := h.below ((Below.refl _ w).alloc (Nat.le_refl _) o)
theorem New.base {w : World} {base base' e : Nat} {v : Value} {n i : Nat} {k : Int} (h : New w base e v n i k) (hb : base' ≤ base) : New w base' e v n i k := by
  rcases h.is with h0 | ⟨g, rfl, ho⟩
  · exact ⟨.inl h0⟩
  · exact ⟨.inr ⟨g, rfl, own_base ho hb⟩⟩
theorem New.form {w : World} {base e : Nat} {v : Value} {n i : Nat} {k : Int} (h : New w base e v n i k) : ∃ a, v = .slice a n n := by
  rcases h.is with ⟨rfl, rfl⟩ | ⟨g, rfl, ho⟩
  · exact ⟨_, rfl⟩
  · exact ⟨_, rfl⟩
theorem only_below {g : Nat} {w w1 w2 : World} (h : MC.Only g w w1) (hb : Below w1.heap.size w1 w2) : MC.Only g w w2 :=
  h.trans (MC.Only.of_below hb)
/-- All blocks but the row's own are as they were. -/
structure OnlyV (v : Value) (w w' : World) : Prop where
  size : w.heap.size ≤ w'.heap.size
  block : ∀ k, k < w.heap.size → (∀ n c, v ≠ .slice (some ⟨k, 0, none⟩) n c) → w'.heap[k]? = w.heap[k]?
theorem only_v {g n c : Nat} {w w' : World} (h : MC.Only g w w') : OnlyV (.slice (some ⟨g, 0, none⟩) n c) w w' :=
  ⟨h.size, fun k hk hn => h.block k hk fun e => hn n c (by rw [e])⟩
theorem OnlyV.up {v : Value} {w w1 w2 : World} (hb : Below w.heap.size w w1) (h : OnlyV v w1 w2) : OnlyV v w w2 :=
  ⟨Nat.le_trans hb.size h.size, fun k hk hn => (h.block k (Nat.lt_of_lt_of_le hk hb.size) hn).trans (hb.block k hk)⟩
theorem New.lt {w : World} {base e : Nat} {v : Value} {n i : Nat} {k : Int} (h : New w base e v n i k) {g m c : Nat} (hv : v = .slice (some ⟨g, 0, none⟩) m c) : base ≤ g ∧ g < w.heap.size := by
  rcases h.is with ⟨-, rfl⟩ | ⟨g', rfl, ho⟩
  · cases hv
  · have e := hv
    simp only [Value.slice.injEq, Option.some.injEq, Addr.mk.injEq] at e
    obtain ⟨⟨rfl, -⟩, rfl, -⟩ := e
    exact ho.lt _ rfl
theorem made0 : (madeCells (Value.cells (.agg #[.slice none 0 0, .int .i64 0, .int .i64 0])) (0 * 3)).toList = flat (zs 0) := by kernel_rfl
theorem made1 : (madeCells (Value.cells (.agg #[.slice none 0 0, .int .i64 0, .int .i64 0])) (1 * 3)).toList = flat (zs 1) := by kernel_rfl
theorem made2 : (madeCells (Value.cells (.agg #[.slice none 0 0, .int .i64 0, .int .i64 0])) (2 * 3)).toList = flat (zs 2) := by kernel_rfl
theorem made3 : (madeCells (Value.cells (.agg #[.slice none 0 0, .int .i64 0, .int .i64 0])) (3 * 3)).toList = flat (zs 3) := by kernel_rfl
theorem made4 : (madeCells (Value.cells (.agg #[.slice none 0 0, .int .i64 0, .int .i64 0])) (4 * 3)).toList = flat (zs 4) := by kernel_rfl
theorem made5 : (madeCells (Value.cells (.agg #[.slice none 0 0, .int .i64 0, .int .i64 0])) (5 * 3)).toList = flat (zs 5) := by kernel_rfl
theorem made6 : (madeCells (Value.cells (.agg #[.slice none 0 0, .int .i64 0, .int .i64 0])) (6 * 3)).toList = flat (zs 6) := by kernel_rfl
theorem made_zs (n : Nat) (h : n ≤ 6) : (madeCells (Value.cells (.agg #[.slice none 0 0, .int .i64 0, .int .i64 0])) (n * 3)).toList = flat (zs n) := by
  have : n = 0 ∨ n = 1 ∨ n = 2 ∨ n = 3 ∨ n = 4 ∨ n = 5 ∨ n = 6 := by omega
  rcases this with rfl | rfl | rfl | rfl | rfl | rfl | rfl
  · exact made0
  · exact made1
  · exact made2
  · exact made3
  · exact made4
  · exact made5
  · exact made6
end TQ
end Go.Proofs.Ytobldjmllhemlaa
