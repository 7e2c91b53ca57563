/- What leaks and what is due tell the same: plain facts, over whatever program. -/
import Derived.Test.YteedppngiknjlaaDoorMBT
namespace Go.Proofs.YteedppngiknjlaaDoor
namespace BK
/-- A bucket and a cell that tell the same. -/
structure EQ (p u : Int) (b : Bk) (c : Ce) : Prop where
  bp : b.p = p
  bu : b.u = u
  cp : c.p = p
  cu : c.u = u
  gb : GB b
  gc : GC c
  lv : b.l = if c.d - b.t < 0 then 0 else c.d - b.t
theorem eq_new {p u : Int} (h : okS p u = true) : EQ p u (newB p u) (newC p u) := by
  have hb : newB p u = ⟨p, u, 0, 0⟩ := by simp [newB, h]
  have hc : newC p u = ⟨p, u, 0⟩ := by simp [newC, h]
  have hm := mul_small h
  rw [hb, hc]
  exact ⟨rfl, rfl, rfl, rfl, ⟨h, Int.le_refl _, show (0 : Int) ≤ p * u by omega, Int.le_refl _, show (0 : Int) ≤ 1000000 by omega⟩, ⟨h, Int.le_refl _, show (0 : Int) ≤ 2000000 by omega⟩, by simp⟩
/-- One time more. -/
structure ST (p u : Int) (b : Bk) (c : Ce) (t : Int) : Prop where
  ok : dueOk c t = true
  same : letC c t = letB b t
  next : EQ p u (ask b t) (askC c t)
  okB : levOk (ask b t) t = true
  lev : lev (ask b t) t = if (askC c t).d - t < 0 then 0 else (askC c t).d - t
  t0 : 0 ≤ t
  t1 : t ≤ 1000000
theorem eq_step {p u : Int} {b : Bk} {c : Ce} {t : Int} (h : EQ p u b c) (hk : levOk b t = true) : ST p u b c t := by
  obtain ⟨g, h1, h2⟩ := levOk_iff.1 hk
  have g0 := g.t0
  have hok : dueOk c t = true := dueOk_iff.2 ⟨h.gc, by omega, h1⟩
  obtain ⟨rfl, rfl, hcp, hcu, gb, gc, hl⟩ := h
  obtain ⟨bp, bu, bl, bt⟩ := b
  obtain ⟨cp, cu, cd⟩ := c
  simp only at hcp hcu hl h2 g0
  subst hcp hcu
  have hs : okS cp cu = true := gb.s
  obtain ⟨l0, l1⟩ := mul_small hs
  obtain ⟨e0, e1, e2⟩ := mul_less hs
  obtain ⟨p1, p2, u1, u2⟩ := okS_iff.1 hs
  have q0 : 0 ≤ bl := gb.l0
  have q1 : bl ≤ cp * cu := gb.l1
  have c0 : 0 ≤ cd := gc.d0
  have c1 : cd ≤ 2000000 := gc.d1
  have hv : lvl ⟨cp, cu, bl, bt⟩ t = if cd - t < 0 then 0 else cd - t := by
    show (if bl - (t - bt) < 0 then 0 else bl - (t - bt)) = _
    rw [hl]
    split <;> split <;> split <;> omega
  have hB : letB ⟨cp, cu, bl, bt⟩ t = decide ((if cd - t < 0 then 0 else cd - t) + cp ≤ cp * cu) := by
    simp only [letB, hk, Bool.true_and, hv]
  have hC : letC ⟨cp, cu, cd⟩ t = decide (cd ≤ t + cp * (cu - 1)) := by simp only [letC, hok, Bool.true_and]
  generalize hm : cp * cu = m at *
  generalize hmm : cp * (cu - 1) = m1 at *
  have hsame : letC ⟨cp, cu, cd⟩ t = letB ⟨cp, cu, bl, bt⟩ t := by
    rw [hB, hC, decide_eq_decide]
    split <;> omega
  have ha : ask ⟨cp, cu, bl, bt⟩ t = ⟨cp, cu, if letB ⟨cp, cu, bl, bt⟩ t = true then lvl ⟨cp, cu, bl, bt⟩ t + cp else lvl ⟨cp, cu, bl, bt⟩ t, t⟩ := by simp [ask, hk]
  have hc' : askC ⟨cp, cu, cd⟩ t = ⟨cp, cu, if letB ⟨cp, cu, bl, bt⟩ t = true then (if cd < t then t else cd) + cp else cd⟩ := by
    cases hx : letB ⟨cp, cu, bl, bt⟩ t
    · simp [askC, hok, hsame, hx]
    · simp [askC, hsame, hx, duN]
  have hnx : EQ cp cu (ask ⟨cp, cu, bl, bt⟩ t) (askC ⟨cp, cu, cd⟩ t) := by
    rw [ha, hc', hv]
    cases hx : letB ⟨cp, cu, bl, bt⟩ t
    · simp only [Bool.false_eq_true, if_false]
      refine ⟨rfl, rfl, rfl, rfl, ⟨hs, ?_, ?_, show 0 ≤ t by omega, h1⟩, ⟨hs, c0, c1⟩, rfl⟩
      · show 0 ≤ (if cd - t < 0 then (0 : Int) else cd - t); split <;> omega
      · show (if cd - t < 0 then (0 : Int) else cd - t) ≤ cp * cu
        rw [hm]; rw [hl] at q1; split at q1 <;> split <;> omega
    · rw [hB] at hx
      have hx' := of_decide_eq_true hx
      simp only [if_true]
      refine ⟨rfl, rfl, rfl, rfl, ⟨hs, ?_, ?_, show 0 ≤ t by omega, h1⟩, ⟨hs, ?_, ?_⟩, ?_⟩
      · show 0 ≤ (if cd - t < 0 then (0 : Int) else cd - t) + cp; split <;> omega
      · show (if cd - t < 0 then (0 : Int) else cd - t) + cp ≤ cp * cu; rw [hm]; exact hx'
      · show 0 ≤ (if cd < t then t else cd) + cp; split <;> omega
      · show (if cd < t then t else cd) + cp ≤ 2000000; split at hx' <;> split <;> omega
      · show (if cd - t < 0 then (0 : Int) else cd - t) + cp = if (if cd < t then t else cd) + cp - t < 0 then 0 else (if cd < t then t else cd) + cp - t
        split <;> split <;> split <;> omega
  have hat : (ask ⟨cp, cu, bl, bt⟩ t).t = t := by rw [ha]
  have hokB : levOk (ask ⟨cp, cu, bl, bt⟩ t) t = true := levOk_iff.2 ⟨hnx.gb, h1, by rw [hat]; exact Int.le_refl _⟩
  refine ⟨hok, hsame, hnx, hokB, ?_, by omega, h1⟩
  have e : lev (ask ⟨cp, cu, bl, bt⟩ t) t = (ask ⟨cp, cu, bl, bt⟩ t).l := by
    have := hnx.gb.l0
    simp only [lev, hokB, if_true, lvl, hat, Int.sub_self, Int.sub_zero]
    split <;> omega
  rw [e, hnx.lv, hat]
/-- The cell behind the first k times. -/
def ct (c : Ce) (ts : List Int) : Nat → Ce
  | 0 => c
  | k + 1 => askC (ct c ts k) (ts.getD k 0)
theorem eq_up {p u : Int} {ts : List Int} (h : bothOk p u ts = true) : ∀ k, k ≤ ts.length → EQ p u (st (newB p u) ts k) (ct (newC p u) ts k)
  | 0, _ => eq_new (both_iff.1 h).1
  | k + 1, hk => (eq_step (eq_up h k (by omega)) ((both_iff.1 h).2.2.is k (by omega))).next
end BK
end Go.Proofs.YteedppngiknjlaaDoor
