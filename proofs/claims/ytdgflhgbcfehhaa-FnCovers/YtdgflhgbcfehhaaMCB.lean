/- The pieces that CutBundle makes: plain facts, over whatever program. -/
import Derived.Test.YtdgflhgbcfehhaaMA
namespace Go.Proofs.Ytdgflhgbcfehhaa
namespace CB
open Go.RowKit
def ok (b : Bd) (m : Int) : Bool := B1.good b && decide (b.tl = 0) && decide (0 < b.py.size) && inB m 1 60
/-- The j-th piece of m bytes. -/
def pc (b : Bd) (m j : Nat) : Bd := ⟨b.fr, b.to, b.gr, b.md, b.no, b.lf, b.hp, ((j * m : Nat) : Int), ((b.py.size : Nat) : Int), b.py.extract (j * m) (min (j * m + m) b.py.size)⟩
def ls (b : Bd) (m k : Nat) : List Bd := (List.range k).map (pc b m)
def num (b : Bd) (m : Nat) : Nat := (b.py.size + m - 1) / m
def res (b : Bd) (m : Int) : List Bd := if ok b m = true then ls b m.toNat (num b m.toNat) else []
theorem ls_len (b : Bd) (m k : Nat) : (ls b m k).length = k := by simp [ls]
theorem ls_succ (b : Bd) (m k : Nat) : ls b m (k + 1) = ls b m k ++ [pc b m k] := by simp [ls, List.range_succ]
theorem num_lt {b : Bd} {m k : Nat} (hm : 0 < m) (h : k * m < b.py.size) : k < num b m := by
  unfold num
  refine (Nat.le_div_iff_mul_le hm).2 ?_
  rw [Nat.succ_mul]; omega
theorem num_ge {b : Bd} {m k : Nat} (hm : 0 < m) (h : ¬ k * m < b.py.size) : num b m ≤ k := by
  unfold num
  have : (b.py.size + m - 1) / m < k + 1 := by
    refine (Nat.div_lt_iff_lt_mul hm).2 ?_
    rw [Nat.succ_mul]; omega
  omega
theorem num_le {b : Bd} {m : Nat} (hm : 0 < m) : num b m ≤ b.py.size := by
  have h := num_ge (b := b) (m := m) (k := b.py.size) hm (by have : b.py.size * 1 ≤ b.py.size * m := Nat.mul_le_mul_left _ hm; omega)
  exact h
theorem ok_is {b : Bd} {m : Int} (h : ok b m = true) : B1.good b = true ∧ b.tl = 0 ∧ 0 < b.py.size ∧ 1 ≤ m ∧ m ≤ 60 := by
  simp only [ok, inB, Bool.and_eq_true, decide_eq_true_eq] at h
  obtain ⟨⟨⟨h1, h2⟩, h3⟩, h4, h5⟩ := h
  exact ⟨h1, h2, h3, h4, h5⟩
theorem good_of {b : Bd} (h : B1.good b = true) (ht : b.tl = 0) : b.of = 0 ∧ b.py.size ≤ 60 := by
  have := B1.good_is h
  unfold B1.good at h
  simp [B1.placed, ht] at h
  omega
theorem res_no {b : Bd} {m : Int} (h : ok b m = false) : res b m = [] := by simp [res, h]
theorem res_yes {b : Bd} {m : Nat} (h : ok b (m : Int) = true) : res b (m : Int) = ls b m (num b m) := by simp [res, h]
theorem grow {e base : Nat} {x : Bd} {w wr w1 : World} {u v' : Value} {o : Obj} {xs : List Bd} (hown : wr.ownsRow base e 10 u xs.length (MP.flat xs)) (hb : Below base w wr) (hB : base ≤ wr.heap.size)
    (hown1 : w1.ownsRow base e 10 v' (xs.length + 1) (MP.flat xs ++ x.cs)) (hgrow : (wr.alloc o).grownBy w1 u.ownBlock) :
    w1.ownsRow base e 10 v' (xs ++ [x]).length (MP.flat (xs ++ [x])) ∧ Below base w w1 := by
  refine ⟨?_, (hb.alloc hB o).grown hgrow (by simp; omega) (fun j hj => (hown.lt j hj).1)⟩
  simpa [MP.flat] using hown1
theorem newN (W : World) (cs : List Value) (e : TypeId) : ∀ (j : Nat) (u : Value), cs[j]? = some u → (W.alloc (.cells cs.toArray e)).cell? ((⟨W.heap.size, 0, none⟩ : Addr).add j) = some u := by
  intro j u hj
  have hadd : (⟨W.heap.size, 0, none⟩ : Addr).add j = ⟨W.heap.size, j, none⟩ := by unfold Addr.add; split <;> simp_all
  rw [hadd, World.cell?_alloc_at _ _ _ _ (by rfl)]
  simpa using hj
theorem new_bd (w : World) (x : Bd) (t : TypeId) : Below w.heap.size w ((w.alloc (.cells (Bd.cs B1.zero).toArray t)).setCells w.heap.size 0 x.cs) ∧ MA.Rg ((w.alloc (.cells (Bd.cs B1.zero).toArray t)).setCells w.heap.size 0 x.cs) w.heap.size 0 x.cs :=
  ⟨MA.below_cells (Nat.le_refl _) _ _ _ ((Below.refl _ w).alloc (Nat.le_refl _) _), (MA.Rg.new w (Bd.cs B1.zero) t).put rfl⟩
theorem own_mono {w : World} {B B' e sz n : Nat} {v : Value} {xs : List Value} (h : w.ownsRow B e sz v n xs) (hB : B' ≤ B) : w.ownsRow B' e sz v n xs := by
  refine ⟨h.1, ?_⟩
  rcases h.2 with h' | ⟨g, cap, cur, h1, h2, h3, h4⟩
  · exact .inl h'
  · exact .inr ⟨g, cap, cur, h1, Nat.le_trans hB h2, h3, h4⟩
theorem view {w : World} {base e : Nat} {v : Value} {xs : List Bd} (h : w.ownsRow base e 10 v xs.length (MP.flat xs)) : ∃ a cap, v = .slice a xs.length cap ∧ MP.BsAt w a xs := by
  rcases h.2 with ⟨rfl, h0⟩ | ⟨g, cap, cur, rfl, hb, hg, hc1, hc2, hc3, hc4⟩
  · obtain rfl : xs = [] := List.eq_nil_of_length_eq_zero h0
    exact ⟨none, 0, rfl, .inl rfl⟩
  · exact ⟨_, cap, rfl, MP.BsAt.of_own h⟩
theorem pc_cs {b : Bd} {m k p e : Nat} (hp : p = k * m) (he : e = min (p + m) b.py.size) : ((b.cs.set 7 (.int .i64 (p : Int))).set 8 (.int .i64 (b.py.size : Int))).set 9 (.string (b.py.extract p e)) = (pc b m k).cs := by
  subst hp he
  simp [Bd.cs, pc]
theorem put789 {W : World} {q : Nat} {cs : List Value} (h : MA.Rg W q 0 cs) (hl : cs.length = 10) (v7 v8 v9 : Value) : MA.Rg (((W.setCell ⟨q, 7, none⟩ v7).setCell ⟨q, 8, none⟩ v8).setCell ⟨q, 9, none⟩ v9) q 0 (((cs.set 7 v7).set 8 v8).set 9 v9) := by
  have := ((h.put1 (j := 7) (by omega) v7).put1 (j := 8) (by simp; omega) v8).put1 (j := 9) (by simp; omega) v9
  simpa only [Nat.zero_add] using this
theorem c_of {W : World} {q j : Nat} {cs : List Value} {v : Value} (h : MA.Rg W q 0 cs) (hv : cs[j]? = some v) : W.cell? ⟨q, j, none⟩ = some v := by have := h.cell hv; rwa [Nat.zero_add] at this
theorem f_of {W : World} {q j : Nat} {cs : List Value} (h : MA.Rg W q 0 cs) (hj : j < cs.length) : W.frozen? ⟨q, j, none⟩ = false := by have := h.free hj; rwa [Nat.zero_add] at this
theorem empty_of {b : ByteArray} (h : b.size = 0) : b.toList.isEmpty = true := by rw [B1.empty_iff, decide_eq_true h]
theorem full_of {b : ByteArray} (h : ¬ b.size = 0) : b.toList.isEmpty = false := by rw [B1.empty_iff, decide_eq_false h]
theorem bslice_m {P : Program} {ops : Array Oper} {rest : List Oper} {op : Oper} {a : Act} {w : World} {Q : Exit → Act → World → Prop} (hgd : op.guard = none) (t : TypeId) (x : Operand) (ho : op.op = .buildSlice t 1 #[(0, x)]) {cs : List Value} (hx : a.eval x = .agg cs.toArray) (e : TypeId)
    (hr : ∀ W : World, (Instr.buildSlice t 1 #[(0, .agg cs.toArray)]).run P W = .ok (.slice (some ⟨W.heap.size, 0, none⟩) 1 1) (W.alloc (.cells cs.toArray e)))
    (h : wpList P ops Q rest (a.put op.dst (.slice (some ⟨w.heap.size, 0, none⟩) 1 1)) (w.alloc (.cells cs.toArray e))) : wpList P ops Q (op :: rest) a w := by
  refine wpList_plain hgd fun K hK => ?_
  have hrun : (execOp a.eval op).run P w = .ok (.value (.slice (some ⟨w.heap.size, 0, none⟩) 1 1)) (w.alloc (.cells cs.toArray e)) := by
    unfold execOp
    rw [ho]
    have e0 : (#[((0 : Nat), x)]).map (fun (i, x) => (i, a.eval x)) = #[(0, .agg cs.toArray)] := by simp [hx]
    simp only [e0, hr, Sem.run_bind, Result.andThen_ok, Sem.run_pure]
  unfold Oper.wp
  rw [hrun, Oper.upon_value]
  exact hK _ _ h
def prt (b : Bd) (x y : Nat) : Bd := ⟨b.fr, b.to, b.gr, b.md, b.no, b.lf, b.hp, b.of + x, b.tl, b.py.extract x y⟩
/-- The bundle with its Total set. -/
def tot (b : Bd) : Bd := ⟨b.fr, b.to, b.gr, b.md, b.no, b.lf, b.hp, b.of, ((b.py.size : Nat) : Int), b.py⟩
theorem tot_cs (b : Bd) : b.cs.set 8 (.int .i64 (b.py.size : Int)) = (tot b).cs := by simp [Bd.cs, tot]
theorem prt_pc {b : Bd} {m k p e : Nat} (hp : p = k * m) (he : e = min (p + m) b.py.size) (ho : b.of = 0) : prt (tot b) p e = pc b m k := by
  subst hp he
  simp [prt, tot, pc, ho]
theorem prt_size {b : Bd} {x y : Nat} (h : y ≤ b.py.size) : (prt b x y).py.size ≤ b.py.size := by simp [prt]; omega
theorem prt_cs (b : Bd) (x y : Nat) : (b.cs.set 7 (.int .i64 (b.of + (x : Int)))).set 9 (.string (b.py.extract x y)) = (prt b x y).cs := by simp [Bd.cs, prt]
theorem put1 {W : World} {q j : Nat} {cs : List Value} (h : MA.Rg W q 0 cs) (hj : j < cs.length) (v : Value) : MA.Rg (W.setCell ⟨q, j, none⟩ v) q 0 (cs.set j v) := by
  have := h.put1 hj v
  rwa [Nat.zero_add] at this
theorem off1 {W : World} {q q' j : Nat} {cs : List Value} (h : MA.Rg W q 0 cs) (hq : q ≠ q') (v : Value) : MA.Rg (W.setCell ⟨q', j, none⟩ v) q 0 cs := h.other (k' := q') (o' := j) (vs := [v]) (.inl hq)
theorem own_rg {w : World} {base e sz n cap : Nat} {a : Option Addr} {xs : List Value} (h : w.ownsRow base e sz (.slice a n cap) n xs) : ∃ g, base ≤ g ∧ (n = 0 ∨ (a = some ⟨g, 0, none⟩ ∧ MA.Rg w g 0 xs)) := by
  rcases h.2 with ⟨_, h0⟩ | ⟨g, cap', cur, hv, hb, hg, h1, h2, h3, h4⟩
  · exact ⟨base, Nat.le_refl _, .inl h0⟩
  · simp only [Value.slice.injEq] at hv
    obtain ⟨rfl, _, rfl⟩ := hv
    have hlt : g < w.heap.size := (Array.getElem?_eq_some_iff.1 hg).1
    have hx := h.1
    have hc : ∀ j, j < n * sz → w.cell? ⟨g, j, none⟩ = xs[j]? := fun j hj => h.cellAt j hj
    refine ⟨g, hb, .inr ⟨rfl, hlt, fun j v hv => ?_, fun j hj => ⟨?_, ?_⟩⟩⟩
    · have hj : j < n * sz := by rw [← hx]; exact (List.getElem?_eq_some_iff.1 hv).1
      rw [Nat.zero_add, hc j hj]; exact hv
    · rw [Nat.zero_add, hc j (by rw [← hx]; exact hj), List.getElem?_eq_getElem hj]; rfl
    · unfold World.frozen?
      rw [hg]
      simp
end CB
end Go.Proofs.Ytdgflhgbcfehhaa
