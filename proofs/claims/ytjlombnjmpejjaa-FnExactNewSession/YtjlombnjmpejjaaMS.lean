/- Sessions: plain facts, over whatever program. -/
import Derived.Test.YtjlombnjmpejjaaMCB
import Derived.Test.YtjlombnjmpejjaaMCur
import Derived.Conc.LoneSelectN
namespace Go.Proofs.Ytjlombnjmpejjaa
namespace SE
open Go.RowKit
/-- How many segments a block has. -/
def many (b : ByteArray) : Nat := (b.size + 7) / 8
theorem many_le {b : ByteArray} (h : b.size ≤ 40) : many b ≤ 5 := by unfold many; omega
theorem many_pos {b : ByteArray} (h : 1 ≤ b.size) : 1 ≤ many b := by unfold many; omega
/-- A block that a session may have. -/
def okB (b : ByteArray) : Bool := inB (b.size : Int) 1 40
theorem okB_is {b : ByteArray} (h : okB b = true) : 1 ≤ b.size ∧ b.size ≤ 40 := by
  simp only [okB, inB, decide_eq_true_eq] at h; omega
theorem okB_no {b : ByteArray} (h : okB b = false) : b.size < 1 ∨ 40 < b.size := by
  simp only [okB, inB, decide_eq_false_iff_not] at h; omega
def bl (l : List Bool) : List Value := l.map Value.bool
theorem bl_len (l : List Bool) : (bl l).length = l.length := by simp [bl]
theorem bl_get {l : List Bool} {j : Nat} (h : j < l.length) : (bl l)[j]? = some (.bool (l.getD j false)) := by
  simp [bl, List.getElem?_eq_getElem h]
theorem bl_one (l : List Bool) : ∀ v ∈ bl l, v.oneCell' = true := by
  intro v hv
  simp only [bl, List.mem_map] at hv
  obtain ⟨b, _, rfl⟩ := hv
  rfl
/-- A tally's five cells. -/
def t5 (f : Nat → Bool) : List Value := bl ((List.range 5).map f)
theorem t5_len (f : Nat → Bool) : (t5 f).length = 5 := by simp [t5, bl]
theorem t5_one (f : Nat → Bool) : ∀ v ∈ t5 f, v.oneCell' = true := bl_one _
theorem t5_is (f : Nat → Bool) : t5 f = [.bool (f 0), .bool (f 1), .bool (f 2), .bool (f 3), .bool (f 4)] := rfl
/-- A talk's cells. -/
def tk (b : ByteArray) (f g : Nat → Bool) (p q : Nat) : List Value := .string b :: (t5 f ++ (t5 g ++ [.chan (some p), .chan (some q)]))
/-- Truth values that lie at a slice's address. -/
def BoolsAt (w : World) (a : Option Addr) (l : List Bool) : Prop := l = [] ∨ ∃ b, a = some ⟨b, 0, none⟩ ∧ MA.Rg w b 0 (bl l)
theorem BoolsAt.below {w w' : World} {a : Option Addr} {l : List Bool} (h : BoolsAt w a l) (hb : Below w.heap.size w w') : BoolsAt w' a l := by
  rcases h with h | ⟨b, h1, h2⟩
  · exact .inl h
  · exact .inr ⟨b, h1, h2.below hb h2.lt⟩
theorem BoolsAt.at {w : World} {a : Option Addr} {l : List Bool} (h : BoolsAt w a l) {k : Nat} (hk : k < l.length) : ∃ b, a = some ⟨b, 0, none⟩ ∧ b < w.heap.size ∧ w.cell? ⟨b, k, none⟩ = some (.bool (l.getD k false)) ∧ w.frozen? ⟨b, k, none⟩ = false := by
  rcases h with rfl | ⟨b, h1, h2⟩
  · simp at hk
  · exact ⟨b, h1, h2.lt, CB.c_of h2 (bl_get hk), CB.f_of h2 (by rw [bl_len]; exact hk)⟩
theorem t5_set (f : Nat → Bool) {j : Nat} (h : j < 5) : (t5 f).set j (.bool true) = t5 fun p => if p = j then true else f p := by
  match j, h with
  | 0, _ => rfl
  | 1, _ => rfl
  | 2, _ => rfl
  | 3, _ => rfl
  | 4, _ => rfl
theorem t5_ext {f g : Nat → Bool} (h : ∀ p, p < 5 → f p = g p) : t5 f = t5 g := by
  rw [t5_is, t5_is, h 0 (by omega), h 1 (by omega), h 2 (by omega), h 3 (by omega), h 4 (by omega)]
theorem t5_upto {j : Nat} (h : j < 5) : (t5 fun p => decide (p < j)).set j (.bool true) = t5 fun p => decide (p < j + 1) := by
  rw [t5_set _ h]
  refine t5_ext fun p _ => ?_
  by_cases hp : p = j
  · subst hp; simp
  · rw [if_neg hp]
    exact decide_eq_decide.2 (by omega)
theorem t5_get (f : Nat → Bool) {j : Nat} (h : j < 5) : (t5 f)[j]? = some (.bool (f j)) := by
  unfold t5
  rw [bl_get (by simpa using h)]
  simp [h]
/-- Whether five places are as five others. -/
def same5 (f g : Nat → Bool) : Bool := (List.range 5).all fun p => f p == g p
/-- The first n are there. -/
def upTo (n : Nat) : Nat → Bool := fun p => decide (p < n)
/-- A talk lies at k. -/
structure Tk (w : World) (k : Nat) (b : ByteArray) (f g : Nat → Bool) (p q : Nat) (xs ys : Array Value) : Prop where
  lt : k < w.heap.size
  c0 : w.cell? ⟨k, 0, none⟩ = some (.string b)
  ra : w.rangeAt k 1 (t5 f)
  rg : w.rangeAt k 6 (t5 g)
  c11 : w.cell? ⟨k, 11, none⟩ = some (.chan (some p))
  c12 : w.cell? ⟨k, 12, none⟩ = some (.chan (some q))
  lp : p < w.heap.size
  lq : q < w.heap.size
  way : ∃ s r, w.heap[p]? = some (.chan 30 xs false s r false)
  back : ∃ s r, w.heap[q]? = some (.chan 30 ys false s r false)
theorem Tk.below {w w' : World} {k : Nat} {b : ByteArray} {f g : Nat → Bool} {p q : Nat} {xs ys : Array Value} (h : Tk w k b f g p q xs ys) (hb : Below w.heap.size w w') : Tk w' k b f g p q xs ys where
  lt := Nat.lt_of_lt_of_le h.lt hb.size
  c0 := (hb.cell (p := ⟨k, 0, none⟩) h.lt).trans h.c0
  ra := MA.range_below h.ra hb h.lt
  rg := MA.range_below h.rg hb h.lt
  c11 := (hb.cell (p := ⟨k, 11, none⟩) h.lt).trans h.c11
  c12 := (hb.cell (p := ⟨k, 12, none⟩) h.lt).trans h.c12
  lp := Nat.lt_of_lt_of_le h.lp hb.size
  lq := Nat.lt_of_lt_of_le h.lq hb.size
  way := let ⟨s, r, e⟩ := h.way; ⟨s, r, (hb.block p h.lp).trans e⟩
  back := let ⟨s, r, e⟩ := h.back; ⟨s, r, (hb.block q h.lq).trans e⟩
theorem tk_new (w : World) (b : ByteArray) (t : TypeId) : Tk (((w.alloc (.chan 30 #[] false 0 0 false)).alloc (.chan 30 #[] false 0 0 false)).alloc (.cells (tk b (fun _ => false) (fun _ => false) w.heap.size (w.heap.size + 1)).toArray t)) (w.heap.size + 1 + 1) b (fun _ => false) (fun _ => false) w.heap.size (w.heap.size + 1) #[] #[] := by
  have r := MA.Rg.new' ((w.alloc (.chan 30 #[] false 0 0 false)).alloc (.chan 30 #[] false 0 0 false)) (tk b (fun _ => false) (fun _ => false) w.heap.size (w.heap.size + 1)) t (w.heap.size + 1 + 1) (by simp)
  have h5 : ∀ (j : Nat) (v : Value), (t5 fun _ => false)[j]? = some v → j < 5 ∧ v = .bool false := fun j v hv => by
    have hj : j < 5 := by have := (List.getElem?_eq_some_iff.1 hv).1; rwa [t5_len] at this
    rw [t5_get _ hj] at hv
    exact ⟨hj, (Option.some.inj hv).symm⟩
  refine ⟨r.lt, CB.c_of r rfl, fun j v hv => ?_, fun j v hv => ?_, CB.c_of r (j := 11) rfl, CB.c_of r (j := 12) rfl, by simp; omega, by simp, ⟨0, 0, ?_⟩, ⟨0, 0, ?_⟩⟩
  · obtain ⟨hj, rfl⟩ := h5 j v hv
    refine CB.c_of r ?_
    match j, hj with
    | 0, _ => rfl
    | 1, _ => rfl
    | 2, _ => rfl
    | 3, _ => rfl
    | 4, _ => rfl
  · obtain ⟨hj, rfl⟩ := h5 j v hv
    refine CB.c_of r ?_
    match j, hj with
    | 0, _ => rfl
    | 1, _ => rfl
    | 2, _ => rfl
    | 3, _ => rfl
    | 4, _ => rfl
  · have e1 := heap_alloc_last w (.chan 30 #[] false 0 0 false)
    have e2 := (((Below.refl _ (w.alloc (.chan 30 #[] false 0 0 false))).alloc (Nat.le_refl _) (.chan 30 #[] false 0 0 false)).block w.heap.size (by simp)).trans e1
    exact (((Below.refl _ ((w.alloc (.chan 30 #[] false 0 0 false)).alloc (.chan 30 #[] false 0 0 false))).alloc (Nat.le_refl _) (.cells (tk b (fun _ => false) (fun _ => false) w.heap.size (w.heap.size + 1)).toArray t)).block w.heap.size (by simp; omega)).trans e2
  · have e1 := heap_alloc_last (w.alloc (.chan 30 #[] false 0 0 false)) (.chan 30 #[] false 0 0 false)
    rw [MA.sz_alloc] at e1
    exact (((Below.refl _ ((w.alloc (.chan 30 #[] false 0 0 false)).alloc (.chan 30 #[] false 0 0 false))).alloc (Nat.le_refl _) (.cells (tk b (fun _ => false) (fun _ => false) w.heap.size (w.heap.size + 1)).toArray t)).block (w.heap.size + 1) (by simp)).trans e1
/-- A session's cells. -/
def sv (b : ByteArray) (v1 v2 : Value) (y : ByteArray) (d : Bool) (v5 v6 : Value) : List Value := [.string b, v1, v2, .string y, .bool d, v5, v6]
theorem sv_one (b : ByteArray) (v1 v2 : Value) (y : ByteArray) (d : Bool) (v5 v6 : Value) (h1 : v1.oneCell' = true) (h2 : v2.oneCell' = true) (h5 : v5.oneCell' = true) (h6 : v6.oneCell' = true) : ∀ v ∈ sv b v1 v2 y d v5 v6, v.oneCell' = true := by
  intro v hv
  simp only [sv, List.mem_cons, List.not_mem_nil, or_false] at hv
  rcases hv with rfl | rfl | rfl | rfl | rfl | rfl | rfl
  · rfl
  · exact h1
  · exact h2
  · rfl
  · rfl
  · exact h5
  · exact h6
theorem only_cells (k : Nat) : ∀ (vs : List Value) (o : Nat) (w : World), MC.Only k w (w.setCells k o vs)
  | [], _, w => MC.Only.refl k w
  | v :: r, o, w => ((MC.Only.refl k w).setCell o v).trans (only_cells k r (o + 1) _)
theorem own_only {w w' : World} {base e sz n cap k : Nat} {a : Option Addr} {xs : List Value} (h : w.ownsRow base e sz (.slice a n cap) n xs) (ho : MC.Only k w w') (hn : ∀ g, a = some ⟨g, 0, none⟩ → g ≠ k) : w'.ownsRow base e sz (.slice a n cap) n xs := by
  refine ⟨h.1, ?_⟩
  rcases h.2 with h' | ⟨g, cap', cur, hv, hb, hg, rest⟩
  · exact .inl h'
  · refine .inr ⟨g, cap', cur, hv, hb, (ho.block g (Array.getElem?_eq_some_iff.1 hg).1 (hn g ?_)).trans hg, rest⟩
    simp only [Value.slice.injEq] at hv
    exact hv.1
theorem own_set {w : World} {base e sz n cap k o : Nat} {a : Option Addr} {xs vs : List Value} (h : w.ownsRow base e sz (.slice a n cap) n xs) (hn : ∀ g, a = some ⟨g, 0, none⟩ → g ≠ k) : (w.setCells k o vs).ownsRow base e sz (.slice a n cap) n xs := own_only h (only_cells k vs o w) hn
theorem own_lt {w : World} {base e sz n cap : Nat} {a : Option Addr} {xs : List Value} (h : w.ownsRow base e sz (.slice a n cap) n xs) {g : Nat} (hg : a = some ⟨g, 0, none⟩) : base ≤ g ∧ g < w.heap.size := h.lt g (by rw [hg]; rfl)
end SE
end Go.Proofs.Ytjlombnjmpejjaa
