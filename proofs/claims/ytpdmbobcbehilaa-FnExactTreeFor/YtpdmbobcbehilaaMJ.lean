/- A journey's cells: plain facts. -/
import Derived.Test.YtpdmbobcbehilaaM6W
import Derived.Test.YtpdmbobcbehilaaMA
namespace Go.Proofs.Ytpdmbobcbehilaa
open Go.RowKit
namespace PN
def fl (wf : Nat → Nat) : List Value := (List.range 8).map fun i => .float .f64 (wf i)
def il (lf : Nat → Int) : List Value := (List.range 8).map fun i => .int .i64 (lf i)
def jc (f : Int) (wf : Nat → Nat) (lf : Nat → Int) : List Value := .int .i64 f :: (fl wf ++ il lf)
theorem fl_len (wf : Nat → Nat) : (fl wf).length = 8 := by simp [fl]
theorem il_len (lf : Nat → Int) : (il lf).length = 8 := by simp [il]
theorem jc_len (f : Int) (wf : Nat → Nat) (lf : Nat → Int) : (jc f wf lf).length = 17 := by simp [jc, fl_len, il_len]
theorem fl_get (wf : Nat → Nat) {i : Nat} (h : i < 8) : (fl wf)[i]? = some (.float .f64 (wf i)) := by simp [fl, h]
theorem il_get (lf : Nat → Int) {i : Nat} (h : i < 8) : (il lf)[i]? = some (.int .i64 (lf i)) := by simp [il, h]
theorem jc_f (f : Int) (wf : Nat → Nat) (lf : Nat → Int) : (jc f wf lf)[0]? = some (.int .i64 f) := rfl
theorem jc_w (f : Int) (wf : Nat → Nat) (lf : Nat → Int) {i : Nat} (h : i < 8) : (jc f wf lf)[1 + i]? = some (.float .f64 (wf i)) := by
  unfold jc
  rw [Nat.add_comm, List.getElem?_cons_succ, List.getElem?_append_left (by rw [fl_len]; exact h), fl_get wf h]
theorem jc_l (f : Int) (wf : Nat → Nat) (lf : Nat → Int) {i : Nat} (h : i < 8) : (jc f wf lf)[9 + i]? = some (.int .i64 (lf i)) := by
  unfold jc
  rw [show 9 + i = (8 + i) + 1 from by omega, List.getElem?_cons_succ, List.getElem?_append_right (by rw [fl_len]; omega), fl_len, show 8 + i - 8 = i from by omega, il_get lf h]
theorem fl_set (wf : Nat → Nat) {i : Nat} (b : Nat) : (fl wf).set i (.float .f64 b) = fl (put wf i b) := by
  unfold fl
  rw [MA.range_set]
  refine List.map_congr_left fun p _ => ?_
  unfold put; split <;> rfl
theorem il_set (lf : Nat → Int) {i : Nat} (b : Int) : (il lf).set i (.int .i64 b) = il (put lf i b) := by
  unfold il
  rw [MA.range_set]
  refine List.map_congr_left fun p _ => ?_
  unfold put; split <;> rfl
theorem jc_setw (f : Int) (wf : Nat → Nat) (lf : Nat → Int) {i : Nat} (h : i < 8) (b : Nat) : (jc f wf lf).set (1 + i) (.float .f64 b) = jc f (put wf i b) lf := by
  unfold jc
  rw [Nat.add_comm, List.set_cons_succ, List.set_append, if_pos (by rw [fl_len]; exact h), fl_set]
theorem jc_setl (f : Int) (wf : Nat → Nat) (lf : Nat → Int) {i : Nat} (b : Int) : (jc f wf lf).set (9 + i) (.int .i64 b) = jc f wf (put lf i b) := by
  unfold jc
  rw [show 9 + i = (8 + i) + 1 from by omega, List.set_cons_succ, List.set_append, if_neg (by rw [fl_len]; omega), fl_len, show 8 + i - 8 = i from by omega, il_set]
theorem fl_one (wf : Nat → Nat) : ∀ v ∈ fl wf, v.oneCell' = true := by
  intro v hv; simp only [fl, List.mem_map] at hv; obtain ⟨i, _, rfl⟩ := hv; rfl
theorem il_one (lf : Nat → Int) : ∀ v ∈ il lf, v.oneCell' = true := by
  intro v hv; simp only [il, List.mem_map] at hv; obtain ⟨i, _, rfl⟩ := hv; rfl
theorem jc_one (f : Int) (wf : Nat → Nat) (lf : Nat → Int) : ∀ v ∈ jc f wf lf, v.oneCell' = true := by
  intro v hv
  simp only [jc, List.mem_cons, List.mem_append] at hv
  rcases hv with rfl | h | h
  · rfl
  · exact fl_one wf v h
  · exact il_one lf v h
theorem jc_ext {f : Int} {wf wf' : Nat → Nat} {lf lf' : Nat → Int} (h1 : ∀ i, i < 8 → wf i = wf' i) (h2 : ∀ i, i < 8 → lf i = lf' i) : jc f wf lf = jc f wf' lf' := by
  unfold jc fl il
  congr 1
  congr 1
  · exact List.map_congr_left fun p hp => by rw [h1 p (by simpa using hp)]
  · exact List.map_congr_left fun p hp => by rw [h2 p (by simpa using hp)]
/-- The bits of the times, the numbers of the contacts. -/
def wb (s : St) : Nat → Nat := fun i => (s.wh i).b
def lb (s : St) : Nat → Int := fun i => kI (s.la i)
theorem wb_put (s : St) (i : Nat) (m : FL.Mo) (la : Nat → Option Nat) : put (wb s) i m.b = wb ⟨put s.wh i m, la⟩ := by
  funext p; simp only [wb, put]; split <;> rfl
theorem lb_put (s : St) (i : Nat) (k : Nat) (wh : Nat → FL.Mo) : put (lb s) i (k : Int) = lb ⟨wh, put s.la i (some k)⟩ := by
  funext p; simp only [lb, put]; split <;> rfl
/-- A journey that lies in memory. -/
abbrev JR (W : World) (q : Nat) (f : Int) (s : St) : Prop := MA.Rg W q 0 (jc f (wb s) (lb s))
theorem rg_w {W : World} {q : Nat} {f : Int} {wf : Nat → Nat} {lf : Nat → Int} (h : MA.Rg W q 0 (jc f wf lf)) {i : Nat} (hi : i < 8) : W.cell? ⟨q, 1 + i, none⟩ = some (.float .f64 (wf i)) ∧ W.frozen? ⟨q, 1 + i, none⟩ = false := by
  have h1 := h.cell (jc_w f wf lf hi)
  have h2 := h.free (j := 1 + i) (by rw [jc_len]; omega)
  rw [Nat.zero_add] at h1 h2
  exact ⟨h1, h2⟩
theorem rg_l {W : World} {q : Nat} {f : Int} {wf : Nat → Nat} {lf : Nat → Int} (h : MA.Rg W q 0 (jc f wf lf)) {i : Nat} (hi : i < 8) : W.cell? ⟨q, 9 + i, none⟩ = some (.int .i64 (lf i)) ∧ W.frozen? ⟨q, 9 + i, none⟩ = false := by
  have h1 := h.cell (jc_l f wf lf hi)
  have h2 := h.free (j := 9 + i) (by rw [jc_len]; omega)
  rw [Nat.zero_add] at h1 h2
  exact ⟨h1, h2⟩
theorem rg_setw {W : World} {q : Nat} {f : Int} {wf : Nat → Nat} {lf : Nat → Int} (h : MA.Rg W q 0 (jc f wf lf)) {i : Nat} (hi : i < 8) (b : Nat) : MA.Rg (W.setCell ⟨q, 1 + i, none⟩ (.float .f64 b)) q 0 (jc f (put wf i b) lf) := by
  have := h.put1 (j := 1 + i) (by rw [jc_len]; omega) (.float .f64 b)
  rw [Nat.zero_add, jc_setw _ _ _ hi] at this; exact this
theorem rg_setl {W : World} {q : Nat} {f : Int} {wf : Nat → Nat} {lf : Nat → Int} (h : MA.Rg W q 0 (jc f wf lf)) {i : Nat} (hi : i < 8) (b : Int) : MA.Rg (W.setCell ⟨q, 9 + i, none⟩ (.int .i64 b)) q 0 (jc f wf (put lf i b)) := by
  have := h.put1 (j := 9 + i) (by rw [jc_len]; omega) (.int .i64 b)
  rw [Nat.zero_add, jc_setl] at this; exact this
/-- The measure of the search, read out of a journey's cells. -/
def wF : Option Value → Nat
  | some (.float _ b) => match (FloatKind.f64.decode b).toInt .zero with
    | some n => n.toNat
    | none => 1048577
  | _ => 0
def MJ (q : Nat) (W : World) : Nat := wF (W.cell? ⟨q, 1 + 0, none⟩) + wF (W.cell? ⟨q, 1 + 1, none⟩) + wF (W.cell? ⟨q, 1 + 2, none⟩) + wF (W.cell? ⟨q, 1 + 3, none⟩) + wF (W.cell? ⟨q, 1 + 4, none⟩) + wF (W.cell? ⟨q, 1 + 5, none⟩) + wF (W.cell? ⟨q, 1 + 6, none⟩) + wF (W.cell? ⟨q, 1 + 7, none⟩)
theorem wF_b {m : FL.Mo} (h : okT m) : wF (some (.float .f64 m.b)) = wt m := by
  cases m with
  | fin n =>
    simp only [okT] at h
    have := FL.toInt_bits n (by omega)
    simp only [wF, FL.Mo.b, wt, this]
  | inf => decide
  | ago => exact absurd h id
theorem JR.mu {W : World} {q : Nat} {f : Int} {s : St} (h : JR W q f s) (hs : okS s.wh) : MJ q W = mu s.wh := by
  unfold MJ PN.mu
  rw [(rg_w h (i := 0) (by omega)).1, (rg_w h (i := 1) (by omega)).1, (rg_w h (i := 2) (by omega)).1, (rg_w h (i := 3) (by omega)).1, (rg_w h (i := 4) (by omega)).1, (rg_w h (i := 5) (by omega)).1, (rg_w h (i := 6) (by omega)).1, (rg_w h (i := 7) (by omega)).1]
  simp only [wb]
  rw [wF_b (hs 0), wF_b (hs 1), wF_b (hs 2), wF_b (hs 3), wF_b (hs 4), wF_b (hs 5), wF_b (hs 6), wF_b (hs 7)]
/-- The best so far, as the program has it. -/
def BJ : Option (Nat × Int) → Int → FL.Mo → Prop
  | none, b, m => b = 0 ∧ m = .inf
  | some (k, u), b, m => b = k ∧ m = .fin u
end PN
end Go.Proofs.Ytpdmbobcbehilaa
