/- Nodes handed out one by one, and sprays: plain facts. -/
import Derived.Test.YtdimdhiknjimaaaM5
import Derived.Test.YtdimdhiknjimaaaMCur
import Derived.RowKit
import Derived.RangeFuncNested
namespace Go.Proofs.Ytdimdhiknjimaaa
open Go.RowKit
namespace SP
/-- A spray as a value. -/
abbrev sv (v : Value) (t : Int) (th : Bool) : Value := .agg #[v, .int .i64 t, .bool th]
/-- The nodes below k, of m, that f says yes to. -/
def up (m : Nat) (f : Nat → Bool) : Nat → List (Fin m)
  | 0 => []
  | k + 1 => if h : k < m then (if f k = true then up m f k ++ [⟨k, h⟩] else up m f k) else up m f k
theorem up_yes {m : Nat} {f : Nat → Bool} {k : Nat} (h : k < m) (hf : f k = true) : up m f (k + 1) = up m f k ++ [⟨k, h⟩] := by simp [up, h, hf]
theorem up_no {m : Nat} {f : Nat → Bool} {k : Nat} (hf : f k = false) : up m f (k + 1) = up m f k := by simp [up, hf]
theorem up_le (m : Nat) (f : Nat → Bool) (k : Nat) : (up m f k).length ≤ k := by
  induction k with
  | zero => simp [up]
  | succ k ih =>
    rw [up]
    split
    · split
      · simp; omega
      · omega
    · omega
theorem up_pre (m : Nat) (f : Nat → Bool) (k d : Nat) : up m f k <+: up m f (k + d) := by
  induction d with
  | zero => exact List.prefix_refl _
  | succ d ih =>
    refine ih.trans ?_
    show up m f (k + d) <+: up m f (k + d + 1)
    rw [up]
    split
    · split
      · exact ⟨_, rfl⟩
      · exact List.prefix_refl _
    · exact List.prefix_refl _
theorem up_pre' {m : Nat} {f : Nat → Bool} {k : Nat} (h : k ≤ m) : up m f k <+: up m f m := by
  have := up_pre m f k (m - k)
  rwa [show k + (m - k) = m by omega] at this
/-- All blocks below N but a and b are as they were. -/
def KP (a b N : Nat) (W W' : World) : Prop := ∀ k, k < N → k ≠ a → k ≠ b → W'.heap[k]? = W.heap[k]?
theorem KP.refl (a b N : Nat) (W : World) : KP a b N W W := fun _ _ _ _ => rfl
theorem KP.trans {a b N : Nat} {A B C : World} (h : KP a b N A B) (k : KP a b N B C) : KP a b N A C := fun j h1 h2 h3 => (k j h1 h2 h3).trans (h j h1 h2 h3)
theorem KP.of_below {a b N : Nat} {A B : World} (h : Below A.heap.size A B) (hN : N ≤ A.heap.size) : KP a b N A B := fun k h1 _ _ => h.block k (by omega)
theorem KP.below {a b N B0 : Nat} {A B : World} (h : Below B0 A B) (hN : N ≤ B0) : KP a b N A B := fun k h1 _ _ => h.block k (by omega)
theorem KP.put {a b N : Nat} (W : World) (l : Nat) (o : Obj) (h : N ≤ l) : KP a b N W (W.putObj l o) := fun k h1 _ _ => World.putObj_heap_other (fun e => by omega)
theorem KP.cell {a b N : Nat} {W W' : World} (h : KP a b N W W') {p : Addr} (h1 : p.block < N) (h2 : p.block ≠ a) (h3 : p.block ≠ b) : W'.cell? p = W.cell? p := World.cell?_of_block (w := W) (h p.block h1 h2 h3)
theorem KP.ints {a b N : Nat} {W W' : World} {x : Option Addr} {zs : List Int} (h : KP a b N W W') (hi : M4.IntsAt W x zs) (hs : W.heap.size ≤ W'.heap.size) (hx : ∀ g off, x = some ⟨g, off, none⟩ → g < N ∧ g ≠ a ∧ g ≠ b) : M4.IntsAt W' x zs := by
  rcases hi with rfl | ⟨g, off, rfl, hg, hc⟩
  · exact .inl rfl
  · obtain ⟨h1, h2, h3⟩ := hx g off rfl
    exact .inr ⟨g, off, rfl, Nat.lt_of_lt_of_le hg hs, fun j hj => (h.cell (p := ⟨g, off + j, none⟩) h1 h2 h3).trans (hc j hj)⟩
theorem KP.setA {a b N : Nat} (W : World) (j : Nat) (v : Value) : KP a b N W (W.setCell ⟨a, j, none⟩ v) := fun k _ h2 _ => Below.heap_setCell _ _ _ k (fun e => h2 (by rw [e]))
theorem KP.setB {a b N : Nat} (W : World) (j : Nat) (v : Value) : KP a b N W (W.setCell ⟨b, j, none⟩ v) := fun k _ _ h3 => Below.heap_setCell _ _ _ k (fun e => h3 (by rw [e]))
theorem cell_at {w : World} {vs : Array Value} {t : TypeId} {B j : Nat} {v : Value} (h : B = w.heap.size) (hv : vs[j]? = some v) : (w.alloc (.cells vs t)).cell? ⟨B, j, none⟩ = some v := by
  subst h
  simp [hv]
theorem cell_old {w : World} {o : Obj} {p : Addr} (h : p.block < w.heap.size) : (w.alloc o).cell? p = w.cell? p := ((Below.refl w.heap.size w).alloc (Nat.le_refl _) o).cell h
theorem own_le {w : World} {base base' e sz n : Nat} {v : Value} {xs : List Value} (h : w.ownsRow base' e sz v n xs) (hb : base ≤ base') : w.ownsRow base e sz v n xs := by
  refine ⟨h.1, ?_⟩
  rcases h.2 with hn | ⟨g', cap', cur, e1, e2, rest⟩
  · exact .inl hn
  · exact .inr ⟨g', cap', cur, e1, Nat.le_trans hb e2, rest⟩
theorem own_lo {w : World} {base n sz e : Nat} {v : Value} {xs : List Value} (h : w.ownsRow base e sz v n xs) {k : Nat} (hk : v.ownBlock = some k) : base ≤ k := by
  rcases h.2 with ⟨rfl, _⟩ | ⟨g, c, cur, rfl, hb, hg, _⟩
  · cases hk
  · simp [Value.ownBlock] at hk
    subst hk
    exact hb
theorem own_slice {w : World} {base e sz n : Nat} {v : Value} {xs : List Value} (h : w.ownsRow base e sz v n xs) : ∃ a c, v = .slice a n c := by
  rcases h.2 with ⟨rfl, h0⟩ | ⟨g', cap', cur, e1, _⟩
  · exact ⟨none, 0, by rw [h0]⟩
  · exact ⟨_, _, e1⟩
/-- A box of three cells. -/
structure B3 (w : World) (k : Nat) (a b c : Value) (t : TypeId) : Prop where
  is : w.heap[k]? = some (.cells #[a, b, c] t (0, 0))
theorem B3.new (w : World) (a b c : Value) (t : TypeId) {k : Nat} (hk : k = w.heap.size) : B3 (w.alloc (.cells #[a, b, c] t)) k a b c t := ⟨by rw [hk]; exact World.alloc_heap_new w _⟩
theorem B3.lt {w : World} {k : Nat} {a b c : Value} {t : TypeId} (h : B3 w k a b c t) : k < w.heap.size := (Array.getElem?_eq_some_iff.1 h.is).1
theorem B3.below {w w' : World} {k n : Nat} {a b c : Value} {t : TypeId} (h : B3 w k a b c t) (hb : Below n w w') (hk : k < n) : B3 w' k a b c t := ⟨(hb.block k hk).trans h.is⟩
theorem B3.only {w w' : World} {k p : Nat} {a b c : Value} {t : TypeId} (h : B3 w k a b c t) (ho : MC.Only p w w') (hk : k ≠ p) : B3 w' k a b c t := ⟨(ho.block k h.lt hk).trans h.is⟩
theorem B3.alloc {w : World} {k : Nat} {a b c : Value} {t : TypeId} (h : B3 w k a b c t) (o : Obj) : B3 (w.alloc o) k a b c t := h.below ((Below.refl _ w).alloc (Nat.le_refl _) o) h.lt
theorem B3.cells {w : World} {k : Nat} {a b c : Value} {t : TypeId} (h : B3 w k a b c t) : w.cell? ⟨k, 0, none⟩ = some a ∧ w.cell? ⟨k, 1, none⟩ = some b ∧ w.cell? ⟨k, 2, none⟩ = some c := by
  refine ⟨?_, ?_, ?_⟩ <;> simp [World.cell?, h.is]
theorem B3.free {w : World} {k : Nat} {a b c : Value} {t : TypeId} (h : B3 w k a b c t) (j : Nat) : w.frozen? ⟨k, j, none⟩ = false := by unfold World.frozen?; rw [h.is]; simp
theorem B3.set0 {w : World} {k : Nat} {a b c : Value} {t : TypeId} (h : B3 w k a b c t) (x : Value) : B3 (w.setCell ⟨k, 0, none⟩ x) k x b c t := by
  obtain ⟨hlt, hk⟩ := Array.getElem?_eq_some_iff.1 h.is
  refine ⟨?_⟩
  show (w.heap.modify k _)[k]? = _
  rw [Array.getElem?_eq_getElem (by rw [Array.size_modify]; exact hlt), Array.getElem_modify_self, hk]
  rfl
theorem B3.set1 {w : World} {k : Nat} {a b c : Value} {t : TypeId} (h : B3 w k a b c t) (x : Value) : B3 (w.setCell ⟨k, 1, none⟩ x) k a x c t := by
  obtain ⟨hlt, hk⟩ := Array.getElem?_eq_some_iff.1 h.is
  refine ⟨?_⟩
  show (w.heap.modify k _)[k]? = _
  rw [Array.getElem?_eq_getElem (by rw [Array.size_modify]; exact hlt), Array.getElem_modify_self, hk]
  rfl
theorem B3.set2 {w : World} {k : Nat} {a b c : Value} {t : TypeId} (h : B3 w k a b c t) (x : Value) : B3 (w.setCell ⟨k, 2, none⟩ x) k a b x t := by
  obtain ⟨hlt, hk⟩ := Array.getElem?_eq_some_iff.1 h.is
  refine ⟨?_⟩
  show (w.heap.modify k _)[k]? = _
  rw [Array.getElem?_eq_getElem (by rw [Array.size_modify]; exact hlt), Array.getElem_modify_self, hk]
  rfl
/-- Numbers of nodes. -/
def nv {m : Nat} (l : List (Fin m)) : List Int := l.map fun x => (x.val : Int)
theorem nv_snoc {m : Nat} (l : List (Fin m)) (x : Fin m) : nv (l ++ [x]) = nv l ++ [(x.val : Int)] := by simp [nv]
theorem nv_len {m : Nat} (l : List (Fin m)) : (nv l).length = l.length := by simp [nv]
end SP
end Go.Proofs.Ytdimdhiknjimaaa
