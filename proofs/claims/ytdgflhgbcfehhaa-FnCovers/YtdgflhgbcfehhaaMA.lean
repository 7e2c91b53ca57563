/- Arrays of sixty cells by value, out of and into memory: plain laws, over whatever program. -/
import Derived.Test.YtdgflhgbcfehhaaMPL
import Derived.Deep.MidRow
import Derived.Deep.WholeRow
import Derived.ChangeKeysEq
import Derived.Below
import Derived.WalkKit
import Derived.Laws.ResultCell
namespace Go.Proofs.Ytdgflhgbcfehhaa
namespace MA
open Go.RowKit
theorem sz_alloc (w : World) (o : Obj) : (w.alloc o).heap.size = w.heap.size + 1 := by simp
theorem setCells_size (k : Nat) : ∀ (vs : List Value) (o : Nat) (w : World), (w.setCells k o vs).heap.size = w.heap.size
  | [], _, _ => rfl
  | v :: r, o, w => by
    show ((w.setCell ⟨k, o, none⟩ v).setCells k (o + 1) r).heap.size = _
    rw [setCells_size k r (o + 1)]; simp
/-- The cells cs lie in block k from o on, and may be written. -/
structure Rg (w : World) (k o : Nat) (cs : List Value) : Prop where
  lt : k < w.heap.size
  rng : w.rangeAt k o cs
  ok : w.there k o cs.length
theorem Rg.below {w w' : World} {k o B : Nat} {cs : List Value} (h : Rg w k o cs) (hb : Below B w w') (hk : k < B) : Rg w' k o cs := by
  obtain ⟨h0, h1, h2⟩ := h
  refine ⟨Nat.lt_of_lt_of_le h0 hb.size, fun j v hv => (hb.cell (p := ⟨k, o + j, none⟩) hk).trans (h1 j v hv), fun j hj => ?_⟩
  obtain ⟨q1, q2⟩ := h2 j hj
  exact ⟨by rw [hb.cell (p := ⟨k, o + j, none⟩) hk]; exact q1, by rw [hb.frozen (p := ⟨k, o + j, none⟩) hk]; exact q2⟩
theorem Rg.alloc {w : World} {k o : Nat} {cs : List Value} (h : Rg w k o cs) (ob : Obj) : Rg (w.alloc ob) k o cs := by
  refine h.below ((Below.refl _ w).alloc (Nat.le_refl _) ob) h.1
theorem Rg.drew {w : World} {k o : Nat} {cs : List Value} (h : Rg w k o cs) : Rg w.drew k o cs := h.below (Below.refl _ w).drew h.1
theorem Rg.new (w : World) (cs : List Value) (t : TypeId) : Rg (w.alloc (.cells cs.toArray t)) w.heap.size 0 cs := by
  have hb : (w.alloc (.cells cs.toArray t)).heap[w.heap.size]? = some (.cells cs.toArray t) := heap_alloc_last w _
  refine ⟨by simp, fun j v hv => ?_, fun j hj => ⟨?_, ?_⟩⟩
  · rw [Nat.zero_add, cell_of_row _ _ j _ t (0, 0) hb]
    simpa using hv
  · rw [Nat.zero_add, cell_of_row _ _ j _ t (0, 0) hb]
    simp [hj]
  · unfold World.frozen?
    rw [hb]
    simp
theorem Rg.new' (w : World) (cs : List Value) (t : TypeId) (k : Nat) (hk : k = w.heap.size) : Rg (w.alloc (.cells cs.toArray t)) k 0 cs := hk ▸ Rg.new w cs t
theorem Rg.app {w : World} {k o : Nat} {xs ys : List Value} (h : Rg w k o (xs ++ ys)) : Rg w k o xs ∧ Rg w k (o + xs.length) ys := by
  obtain ⟨h0, h1, h2⟩ := h
  refine ⟨⟨h0, fun j v hv => h1 j v ?_, fun j hj => h2 j (by simp; omega)⟩, ⟨h0, fun j v hv => ?_, fun j hj => ?_⟩⟩
  · rw [List.getElem?_append_left (List.getElem?_eq_some_iff.1 hv).1]; exact hv
  · rw [Nat.add_assoc]
    refine h1 (xs.length + j) v ?_
    rw [List.getElem?_append_right (by omega)]
    simpa using hv
  · rw [Nat.add_assoc]
    exact h2 (xs.length + j) (by simp; omega)
theorem Rg.join {w : World} {k o : Nat} {xs ys : List Value} (h : Rg w k o xs) (h' : Rg w k (o + xs.length) ys) : Rg w k o (xs ++ ys) := by
  obtain ⟨h0, h1, h2⟩ := h
  obtain ⟨_, g1, g2⟩ := h'
  refine ⟨h0, fun j v hv => ?_, fun j hj => ?_⟩
  · by_cases hj : j < xs.length
    · rw [List.getElem?_append_left hj] at hv; exact h1 j v hv
    · rw [List.getElem?_append_right (by omega)] at hv
      have := g1 _ v hv
      rwa [Nat.add_assoc, show xs.length + (j - xs.length) = j from by omega] at this
  · by_cases hj' : j < xs.length
    · exact h2 j hj'
    · have := g2 (j - xs.length) (by simp at hj; omega)
      rwa [Nat.add_assoc, show xs.length + (j - xs.length) = j from by omega] at this
theorem Rg.other {w : World} {k k' o o' : Nat} {cs vs : List Value} (h : Rg w k o cs) (hap : k ≠ k' ∨ o + cs.length ≤ o' ∨ o' + vs.length ≤ o) : Rg (w.setCells k' o' vs) k o cs :=
  ⟨by have := setCells_size k' vs o' w; have := h.1; omega, World.rangeAt_setCells_apart h.rng k' o' vs hap, World.there_setCells h.ok k' o' vs⟩
theorem Rg.put {w : World} {k o : Nat} {cs vs : List Value} (h : Rg w k o cs) (hl : vs.length = cs.length) : Rg (w.setCells k o vs) k o vs :=
  ⟨by have := setCells_size k vs o w; have := h.1; omega, World.rangeAt_setCells_same w k o vs (hl ▸ h.ok), World.there_setCells (hl ▸ h.ok) k o vs⟩
theorem Rg.put1 {w : World} {k o : Nat} {cs : List Value} (h : Rg w k o cs) {j : Nat} (hj : j < cs.length) (v : Value) : Rg (w.setCell ⟨k, o + j, none⟩ v) k o (cs.set j v) := by
  have e : cs.set j v = cs.take j ++ ([v] ++ cs.drop (j + 1)) := by rw [List.set_eq_take_append_cons_drop, if_pos hj]; rfl
  have e0 : cs = cs.take j ++ ([cs[j]] ++ cs.drop (j + 1)) := by simp
  have hl : (cs.take j).length = j := by simp; omega
  have h' := h
  rw [e0] at h'
  obtain ⟨a1, a2⟩ := h'.app
  obtain ⟨a2, a3⟩ := a2.app
  rw [hl] at a2 a3
  have r2 := a2.put (vs := [v]) rfl
  have r1 := a1.other (k' := k) (o' := o + j) (vs := [v]) (.inr (.inl (by rw [hl]; omega)))
  have r3 := a3.other (k' := k) (o' := o + j) (vs := [v]) (.inr (.inr (by simp)))
  rw [e]
  exact r1.join (by rw [hl]; exact r2.join r3)
/-- Some cells in the midst. -/
theorem Rg.mid {w : World} {k o : Nat} {cs vs : List Value} (h : Rg w k o cs) {p : Nat} (hp : p + vs.length ≤ cs.length) : Rg (w.setCells k (o + p) vs) k o (cs.take p ++ (vs ++ cs.drop (p + vs.length))) := by
  have e0 : cs = cs.take p ++ ((cs.drop p).take vs.length ++ cs.drop (p + vs.length)) := by rw [← List.drop_drop, List.take_append_drop, List.take_append_drop]
  have hl : (cs.take p).length = p := by simp; omega
  have hm : ((cs.drop p).take vs.length).length = vs.length := by simp; omega
  have h' := h
  rw [e0] at h'
  obtain ⟨a1, a2⟩ := h'.app
  obtain ⟨a2, a3⟩ := a2.app
  rw [hl] at a2 a3
  rw [hm] at a3
  have r2 := a2.put (vs := vs) hm.symm
  have r1 := a1.other (k' := k) (o' := o + p) (vs := vs) (.inr (.inl (by rw [hl]; omega)))
  have r3 := a3.other (k' := k) (o' := o + p) (vs := vs) (.inr (.inr (by omega)))
  exact r1.join (by rw [hl]; exact r2.join r3)
theorem Rg.cell {w : World} {k o : Nat} {cs : List Value} (h : Rg w k o cs) {j : Nat} {v : Value} (hv : cs[j]? = some v) : w.cell? ⟨k, o + j, none⟩ = some v := h.rng j v hv
theorem Rg.free {w : World} {k o : Nat} {cs : List Value} (h : Rg w k o cs) {j : Nat} (hj : j < cs.length) : w.frozen? ⟨k, o + j, none⟩ = false := (h.ok j hj).2
theorem below_cells {B b : Nat} {a : World} (hb : B ≤ b) : ∀ (vs : List Value) (o : Nat) (w : World), Below B a w → Below B a (w.setCells b o vs)
  | [], _, _, h => h
  | v :: r, o, w, h => below_cells hb r (o + 1) _ (h.setCell (by exact hb) v)
/-- Sixty marks, sixty bytes. -/
def tF (f : Nat → Bool) : List Value := (List.range 60).map fun p => .bool (f p)
def yF (g : Nat → Nat) : List Value := (List.range 60).map fun p => .int .u8 (g p : Int)
def sF (s : PL.Sh) : List Value := tF s.th ++ yF s.by_
theorem tF_len (f : Nat → Bool) : (tF f).length = 60 := by simp [tF]
theorem yF_len (g : Nat → Nat) : (yF g).length = 60 := by simp [yF]
theorem sF_len (s : PL.Sh) : (sF s).length = 120 := by simp [sF, tF_len, yF_len]
theorem tF_get (f : Nat → Bool) {p : Nat} (h : p < 60) : (tF f)[p]? = some (.bool (f p)) := by simp [tF, h]
theorem yF_get (g : Nat → Nat) {p : Nat} (h : p < 60) : (yF g)[p]? = some (.int .u8 (g p : Int)) := by simp [yF, h]
theorem tF_ext {f f' : Nat → Bool} (h : ∀ p, p < 60 → f p = f' p) : tF f = tF f' := by
  unfold tF; apply List.map_congr_left; intro p hp; rw [h p (by simpa using hp)]
theorem yF_ext {g g' : Nat → Nat} (h : ∀ p, p < 60 → g p = g' p) : yF g = yF g' := by
  unfold yF; apply List.map_congr_left; intro p hp; rw [h p (by simpa using hp)]
theorem range_set {α : Type} (n : Nat) (f : Nat → α) (j : Nat) (v : α) : ((List.range n).map f).set j v = (List.range n).map fun p => if p = j then v else f p := by
  apply List.ext_getElem?
  intro i
  rw [List.getElem?_set]
  by_cases hi : i < n
  · by_cases e : j = i
    · subst e; simp [hi]
    · have e' : ¬ i = j := fun h => e h.symm
      simp [hi, e, e']
  · simp [hi]; omega
theorem tF_set (f : Nat → Bool) (j : Nat) (b : Bool) : (tF f).set j (.bool b) = tF fun p => if p = j then b else f p := by
  unfold tF
  rw [range_set]
  apply List.map_congr_left; intro p _
  by_cases e : p = j <;> simp [e]
theorem yF_set (g : Nat → Nat) (j : Nat) (b : Nat) : (yF g).set j (.int .u8 (b : Int)) = yF fun p => if p = j then b else g p := by
  unfold yF
  rw [range_set]
  apply List.map_congr_left; intro p _
  by_cases e : p = j <;> simp [e]
/-- A text's bytes, put in the midst of sixty. -/
theorem yF_copy (g : Nat → Nat) (t : ByteArray) (o : Nat) (h : o + t.size ≤ 60) :
    (yF g).take o ++ ((t.data.toList.map fun x => Value.int .u8 (x.toNat : Int)) ++ (yF g).drop (o + t.size)) = yF fun p => if o ≤ p ∧ p < o + t.size then M3.gb t (p - o) else g p := by
  have hl : (t.data.toList.map fun x => Value.int .u8 (x.toNat : Int)).length = t.size := by simp
  have ht : ((yF g).take o).length = o := by rw [List.length_take, yF_len]; omega
  apply List.ext_getElem?
  intro i
  by_cases h1 : i < o
  · rw [List.getElem?_append_left (by omega), List.getElem?_take_of_lt h1, yF_get _ (by omega), yF_get _ (by omega), if_neg (by omega)]
  · rw [List.getElem?_append_right (by omega), ht]
    by_cases h2 : i < o + t.size
    · rw [List.getElem?_append_left (by omega), yF_get _ (by omega), if_pos (by omega)]
      have hi : i - o < t.size := by omega
      have hi2 : i - o < t.data.toList.length := by simpa using hi
      rw [List.getElem?_map, List.getElem?_eq_getElem hi2]
      simp [M3.gb, hi]
      rfl
    · rw [List.getElem?_append_right (by omega), hl, List.getElem?_drop]
      rw [show o + t.size + (i - o - t.size) = i from by omega]
      by_cases h3 : i < 60
      · rw [yF_get _ h3, yF_get _ h3, if_neg (by omega)]
      · rw [List.getElem?_eq_none (by rw [yF_len]; omega), List.getElem?_eq_none (by rw [yF_len]; omega)]
theorem tF_one (f : Nat → Bool) : ∀ v ∈ tF f, v.oneCell' = true := by
  intro v hv; obtain ⟨p, _, rfl⟩ := List.mem_map.1 hv; rfl
theorem yF_one (g : Nat → Nat) : ∀ v ∈ yF g, v.oneCell' = true := by
  intro v hv; obtain ⟨p, _, rfl⟩ := List.mem_map.1 hv; rfl
theorem Rg.sheet {w : World} {k o : Nat} {s : PL.Sh} (h : Rg w k o (sF s)) : Rg w k o (tF s.th) ∧ Rg w k (o + 60) (yF s.by_) := by
  have := h.app
  rwa [tF_len] at this
theorem Rg.sheet' {w : World} {k o : Nat} {s : PL.Sh} (h : Rg w k o (tF s.th)) (h' : Rg w k (o + 60) (yF s.by_)) : Rg w k o (sF s) := h.join (by rwa [tF_len])
theorem sF_one (s : PL.Sh) : ∀ v ∈ sF s, v.oneCell' = true := by
  intro v hv
  rcases List.mem_append.1 hv with h | h
  · exact tF_one _ v h
  · exact yF_one _ v h
section
variable {P : Program}
/-- A result that lies in cells. -/
theorem ret_cell {fn : Func} {p : Tmp} {ty : TypeId} {tmps : Array Value} {w : World} {v : Value} {k o : Nat} (h : fn.results = #[.cell p ty]) (hp : tmps.getD p undef = .pointer (some ⟨k, o, none⟩)) (hl : (loadVar ty ⟨k, o, none⟩).run P w = .ok v w) :
    (results fn tmps).run P w = .ok v w := by
  simp only [results, h]
  have e : ∀ d, tmps[p]?.getD d = tmps.getD p d := fun d => by simp [Array.getD_eq_getD_getElem?]
  simp [e, hp, asAddr, hl]
theorem ret_cell2 {fn : Func} {p u : Tmp} {ty : TypeId} {tmps : Array Value} {w : World} {v x : Value} {k o : Nat} (h : fn.results = #[.cell p ty, .tmp u]) (hp : tmps.getD p undef = .pointer (some ⟨k, o, none⟩)) (hu : tmps.getD u undef = x) (hl : (loadVar ty ⟨k, o, none⟩).run P w = .ok v w) :
    (results fn tmps).run P w = .ok (.tuple #[v, x]) w := by
  rw [results_cell_tmp h, hp, hu]
  simp [asAddr, hl]
theorem load_rg {w : World} {k o : Nat} {cs : List Value} {ty : TypeId} {d : TypeDesc} (h : Rg w k o cs) (hu : P.underlying ty = some d) (hd : d.isRow = true) {n : Nat} (hi : (P.info? ty).map (·.size) = some n) (hn : cs.length = n) : (loadVar ty ⟨k, o, none⟩).run P w = .ok (.agg cs.toArray) w :=
  run_loadVar_mid w k o ty cs d h.rng hu hd (hn ▸ hi)
/-- A new variable of many cells. -/
theorem alloc_z {ops : Array Oper} {rest : List Oper} {o : Oper} {a : Act} {w : World} {Q : Exit → Act → World → Prop} (hg : o.guard = none) (t : TypeId) (ho : o.op = .alloc t) (cs : List Value) (n : Nat)
    (hz : (P.info? t).map (fun i => (i.zero, i.size)) = some (some (.agg cs.toArray), n))
    (h : wpList P ops Q rest (a.put o.dst (.pointer (some ⟨w.heap.size, 0, none⟩))) (w.alloc (.cells cs.toArray t))) : wpList P ops Q (o :: rest) a w := by
  refine wpList_plain hg fun K hK => ?_
  have hrun : (execOp a.eval o).run P w = .ok (.value (.pointer (some ⟨w.heap.size, 0, none⟩))) (w.alloc (.cells cs.toArray t)) := by
    unfold execOp
    rw [ho]
    simp [Instr.alloc, (zero_of_info hz).1, newVar, Value.cells, go_sem]
  unfold Oper.wp
  rw [hrun, Oper.upon_value]
  exact hK _ _ h
theorem load_m {ops : Array Oper} {rest : List Oper} {op : Oper} {a : Act} {w : World} {Q : Exit → Act → World → Prop} (hgd : op.guard = none) (ty : TypeId) (x : Operand) (ho : op.op = .load ty x)
    {b o : Nat} (hx : a.eval x = .pointer (some ⟨b, o, none⟩)) {cs : List Value} {d : TypeDesc} (hc : Rg w b o cs)
    (hu : P.underlying ty = some d) (hd : d.isRow = true) {n : Nat} (hi : (P.info? ty).map (·.size) = some n) (hn : cs.length = n)
    (h : wpList P ops Q rest (a.put op.dst (.agg cs.toArray)) w) : wpList P ops Q (op :: rest) a w :=
  wpList_load_mid hgd ty x ho b o hx cs d hc.rng hu hd (hn ▸ hi) h
theorem load_r {ops : Array Oper} {rest : List Oper} {op : Oper} {a : Act} {w : World} {Q : Exit → Act → World → Prop} (hgd : op.guard = none) (ty : TypeId) (x : Operand) (ho : op.op = .load ty x)
    {b o : Nat} (hx : a.eval x = .pointer (some ⟨b, o, none⟩)) {cs : List Value} {d : TypeDesc} (hc : w.rangeAt b o cs)
    (hu : P.underlying ty = some d) (hd : d.isRow = true) {n : Nat} (hi : (P.info? ty).map (·.size) = some n) (hn : cs.length = n)
    (h : wpList P ops Q rest (a.put op.dst (.agg cs.toArray)) w) : wpList P ops Q (op :: rest) a w :=
  wpList_load_mid hgd ty x ho b o hx cs d hc hu hd (hn ▸ hi) h
theorem build_m {ops : Array Oper} {rest : List Oper} {op : Oper} {a : Act} {w : World} {Q : Exit → Act → World → Prop} (hgd : op.guard = none) (ty : TypeId) {parts : Array (Nat × Operand)} (ho : op.op = .build ty parts)
    {cs : List Value} (hb : P.built ty (parts.map fun (i, x) => (i, a.eval x)).toList = some cs.toArray)
    (h : wpList P ops Q rest (a.put op.dst (.agg cs.toArray)) w) : wpList P ops Q (op :: rest) a w := by
  refine wpList_plain hgd fun K hK => ?_
  have hrun : (execOp a.eval op).run P w = .ok (.value (.agg cs.toArray)) w := by
    unfold execOp
    rw [ho]
    simp only [run_build w ty (parts.map fun (i, x) => (i, a.eval x)) cs.toArray hb, Sem.run_bind, Result.andThen_ok, Sem.run_pure]
  unfold Oper.wp
  rw [hrun, Oper.upon_value]
  exact hK _ _ h
theorem store_m {ops : Array Oper} {rest : List Oper} {op : Oper} {a : Act} {w : World} {Q : Exit → Act → World → Prop} (hgd : op.guard = none) (ty : TypeId) (x y : Operand) (ho : op.op = .store ty x y)
    {b o : Nat} {vs cs : List Value} (hx : a.eval x = .pointer (some ⟨b, o, none⟩)) (hy : a.eval y = .agg vs.toArray)
    (hc : Rg w b o cs) {n : Nat} (hi : (P.info? ty).map (·.size) = some n) (hn : cs.length = n) (hv : vs.length = n) (h1 : ∀ v ∈ vs, v.oneCell' = true)
    (h : wpList P ops Q rest (a.put op.dst undef) (w.setCells b o vs)) : wpList P ops Q (op :: rest) a w := by
  refine wpList_store_mid hgd ty x y ho b o vs.toArray hx hy ?_ ?_ (all_oneCell_toArray h1) ?_
  · simp only [List.size_toArray]; rw [hv, ← hn]; exact hc.ok
  · simp only [List.size_toArray]; rw [hv]; exact hi
  · simpa using h
/-- A cell of an array that is a value. -/
theorem run_index {w : World} {t e : TypeId} {n k : Nat} {cs : List Value} {v : Value} (hu : P.underlying t = some (.array n e)) (hag : ∀ w, (isAgg e).run P w = .ok false w) (hsz : ∀ w, (sizeOf e).run P w = .ok 1 w) (hk : k < n) (hv : cs[k]? = some v) :
    (Instr.index t (.agg cs.toArray) (.int .i64 (k : Int))).run P w = .ok v w := by
  have h1 : (0 : Int) ≤ (k : Int) ∧ (k : Int) < (n : Int) := by omega
  simp [Instr.index, asIntOf, run_underlying hu, h1, hsz, part, hag, hv]
  omega
/-- An array's cells from o on, as a slice. -/
theorem run_sliceArr {w : World} {t e : TypeId} {n o b f : Nat} (hu : P.underlying t = some (.array n e)) (hsz : ∀ w, (sizeOf e).run P w = .ok 1 w) (ho : o < n) :
    (Instr.sliceAt t (.pointer (some ⟨b, f, none⟩)) (some (.int .i64 (o : Int))) none none).run P w = .ok (.slice (some ⟨b, f + o, none⟩) (n - o) (n - o)) w := by
  have h1 : (0 : Int) ≤ (o : Int) := by omega
  have h2 : (o : Int) ≤ (n : Int) := by omega
  have h3 : ¬ (n = o) := by omega
  simp [Instr.sliceAt, run_underlying hu, Instr.sureAddr, Instr.sliceBounds, go_sem, h1, h2, h3, hsz, Addr.add_mid]
theorem ex_load {op : Oper} {a : Act} {w : World} {ty : TypeId} {x : Operand} {b o n : Nat} {cs : List Value} {d : TypeDesc} (ho : op.op = .load ty x) (hx : a.eval x = .pointer (some ⟨b, o, none⟩)) (hc : w.rangeAt b o cs)
    (hu : P.underlying ty = some d) (hd : d.isRow = true) (hi : (P.info? ty).map (·.size) = some n) (hn : cs.length = n) : (execOp a.eval op).run P w = .ok (.value (.agg cs.toArray)) w := by
  unfold execOp
  simp only [ho, hx, Instr.loadAt, Instr.sureAddr, Sem.run_bind, Sem.run_pure, Result.andThen_ok, run_loadVar_mid w b o ty cs d hc hu hd (hn ▸ hi)]
theorem ex_store {op : Oper} {a : Act} {w : World} {ty : TypeId} {x y : Operand} {b o n : Nat} {vs : List Value} (ho : op.op = .store ty x y) (hx : a.eval x = .pointer (some ⟨b, o, none⟩)) (hy : a.eval y = .agg vs.toArray) (ht : w.there b o n)
    (hi : (P.info? ty).map (·.size) = some n) (hn : vs.length = n) (h1 : ∀ v ∈ vs, v.oneCell' = true) : (execOp a.eval op).run P w = .ok .skip (w.setCells b o vs) := by
  unfold execOp
  simp only [ho, hx, hy, Instr.storeAt, Instr.sureAddr, Sem.run_bind, Sem.run_pure, Result.andThen_ok, run_storeVar_mid w b o ty vs.toArray (by simpa [hn] using ht) (by simpa [hn] using hi) (all_oneCell_toArray h1)]
theorem eqItems_run {w : World} {d : Nat} {e : TypeId} {xs ys : List Value} (hag : ∀ w, (isAgg e).run P w = .ok false w) (q : Nat → Bool) : ∀ is : List Nat, (∀ i ∈ is, ∃ x y, xs[i]? = some x ∧ ys[i]? = some y ∧ (Op.equalIn d e x y).run P w = .ok (q i) w) →
    (Op.eqItems d e 1 xs.toArray ys.toArray is).run P w = .ok (is.all q) w
  | [], _ => by simp [Op.eqItems]
  | i :: is, h => by
    obtain ⟨x, y, hx, hy, hq⟩ := h i (by simp)
    have ih := eqItems_run hag q is (fun j hj => h j (by simp [hj]))
    have p1 : (part e xs.toArray (i * 1)).run P w = .ok x w := by simp [part, Sem.run_bind, hag, hx]
    have p2 : (part e ys.toArray (i * 1)).run P w = .ok y w := by simp [part, Sem.run_bind, hag, hy]
    simp only [Op.eqItems, Sem.run_bind, p1, p2, hq, Result.andThen_ok]
    cases h' : q i <;> simp [h', ih]
theorem eql_arr {w : World} {t e : TypeId} {n : Nat} {i : TypeInfo} {xs ys : List Value} (hu : P.underlying t = some (.array n e)) (hi : P.info? e = some i) (hc : P.cellsOf e = 1) (hag : ∀ w, (isAgg e).run P w = .ok false w) (q : Nat → Bool)
    (h : ∀ i, i < n → ∃ x y, xs[i]? = some x ∧ ys[i]? = some y ∧ (Op.equalIn 9999 e x y).run P w = .ok (q i) w) :
    (binOp .eql t (.agg xs.toArray) (.agg ys.toArray)).run P w = .ok (.bool (PL.upto q n)) w := by
  rw [run_eql_struct, run_equalIn_array w 9999 xs.toArray ys.toArray hu hi, hc, eqItems_run hag q _ (fun i hi => h i (by simpa using hi))]
  rfl
end
theorem cs_one (x : Bd) : ∀ v ∈ x.cs, v.oneCell' = true := by
  intro v hv
  simp only [Bd.cs, List.mem_cons, List.not_mem_nil, or_false] at hv
  rcases hv with rfl | rfl | rfl | rfl | rfl | rfl | rfl | rfl | rfl | rfl <;> rfl
theorem Rg.bd {w : World} {k : Nat} {x : Bd} (h : Rg w k 0 x.cs) : BdAt w k x := by
  have c : ∀ j v, x.cs[j]? = some v → w.cell? ⟨k, j, none⟩ = some v := fun j v hv => by have := h.cell hv; rwa [Nat.zero_add] at this
  exact ⟨h.lt, c 0 _ rfl, c 1 _ rfl, c 2 _ rfl, c 3 _ rfl, c 4 _ rfl, c 5 _ rfl, c 6 _ rfl, c 7 _ rfl, c 8 _ rfl, c 9 _ rfl⟩
theorem range_of {w : World} {b o : Nat} {x : Bd} (h0 : w.cell? ⟨b, o, none⟩ = some (.int .i64 x.fr)) (h1 : w.cell? ⟨b, o + 1, none⟩ = some (.int .i64 x.to)) (h2 : w.cell? ⟨b, o + 2, none⟩ = some (.bool x.gr)) (h3 : w.cell? ⟨b, o + 3, none⟩ = some (.int .i64 x.md)) (h4 : w.cell? ⟨b, o + 4, none⟩ = some (.int .i64 x.no)) (h5 : w.cell? ⟨b, o + 5, none⟩ = some (.int .i64 x.lf)) (h6 : w.cell? ⟨b, o + 6, none⟩ = some (.int .i64 x.hp)) (h7 : w.cell? ⟨b, o + 7, none⟩ = some (.int .i64 x.of)) (h8 : w.cell? ⟨b, o + 8, none⟩ = some (.int .i64 x.tl)) (h9 : w.cell? ⟨b, o + 9, none⟩ = some (.string x.py)) : w.rangeAt b o x.cs := by
  intro j v hv
  match j, hv with
  | 0, hv => simp only [Bd.cs] at hv; cases hv; exact h0
  | 1, hv => simp only [Bd.cs] at hv; cases hv; exact h1
  | 2, hv => simp only [Bd.cs] at hv; cases hv; exact h2
  | 3, hv => simp only [Bd.cs] at hv; cases hv; exact h3
  | 4, hv => simp only [Bd.cs] at hv; cases hv; exact h4
  | 5, hv => simp only [Bd.cs] at hv; cases hv; exact h5
  | 6, hv => simp only [Bd.cs] at hv; cases hv; exact h6
  | 7, hv => simp only [Bd.cs] at hv; cases hv; exact h7
  | 8, hv => simp only [Bd.cs] at hv; cases hv; exact h8
  | 9, hv => simp only [Bd.cs] at hv; cases hv; exact h9
  | n + 10, hv => simp [Bd.cs] at hv
theorem row_range {w : World} {a : Option Addr} {xs : List Bd} (h : MP.BsAt w a xs) {k : Nat} (hk : k < xs.length) : ∃ b off, a = some ⟨b, off, none⟩ ∧ b < w.heap.size ∧ w.rangeAt b (off + k * 10) (MP.at_ xs k).cs := by
  obtain ⟨b, off, rfl, hlt, c0, c1, c2, c3, c4, c5, c6, c7, c8, c9⟩ := h.at hk
  exact ⟨b, off, rfl, hlt, range_of c0 c1 c2 c3 c4 c5 c6 c7 c8 c9⟩
theorem range_below {w w' : World} {b o B : Nat} {cs : List Value} (h : w.rangeAt b o cs) (hb : Below B w w') (hk : b < B) : w'.rangeAt b o cs := fun j v hv => (hb.cell (p := ⟨b, o + j, none⟩) hk).trans (h j v hv)
end MA
end Go.Proofs.Ytdgflhgbcfehhaa
