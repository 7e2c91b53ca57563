/- Roads by potentials cost as they did but for their ends: plain facts. -/
import Derived.Test.YtclhfhjkcocdcaaMRM
namespace Go.Proofs.Ytclhfhjkcocdcaa
namespace RD
open Go.RowKit
/-- Costs seen by potentials, from a. -/
def sh (p : Cs) (a : Nat) (c : Cs) : Cs := fun v => if c v = far then far else c v + p a - p v
theorem pot_fe {xs : List I3} (h : okP xs = true) (hc : calm xs = true) : Fe xs (pot xs) := (settled h (calm_Calm h hc) zero_bd).2.2
theorem pot_road {xs : List I3} (h : okP xs = true) (hc : calm xs = true) {r : I3} (hr : r ∈ xs) : 0 ≤ (rd1 (pot xs) r).a2 := by
  have h1 := pot_fe h hc r hr
  have h2 := pot_bd h r.a0.toNat
  rw [ov, if_neg (by unfold far; omega)] at h1
  show 0 ≤ r.a2 + pot xs r.a0.toNat - pot xs r.a1.toNat
  omega
theorem red_calm {xs : List I3} (h : okP xs = true) (hc : calm xs = true) (h2 : okP (xs.map (rd1 (pot xs))) = true) : fine (xs.map (rd1 (pot xs))) = true := by
  rw [fine, h2, Bool.true_and]
  have hq : Calm (xs.map (rd1 (pot xs))) := ⟨zero, fun r hr => by
    obtain ⟨s, hs, rfl⟩ := List.mem_map.1 hr
    have := pot_road h hc hs
    simp only [zero]; omega⟩
  rw [calm, (settled h2 hq zero_bd).1]
theorem lst_shift (d : Int) : ∀ (os : List Int) (m : Int), lst (m + d) (os.map (· + d)) = lst m os + d := by
  intro os
  induction os with
  | nil => intro m; rfl
  | cons o os ih =>
    intro m
    show lst (min (m + d) (o + d)) (os.map (· + d)) = lst (min m o) os + d
    rw [← ih, show min (m + d) (o + d) = min m o + d from by omega]
theorem start_sh (p : Cs) (a : Nat) : sh p a (start a) = start a := by
  funext v
  unfold sh start put
  by_cases e : v = a
  · rw [if_pos e, if_neg (by unfold far; omega), e]; omega
  · rw [if_neg e, if_pos rfl]
/-- One road on, by potentials: as it was, but for the ends. -/
theorem jac_sh {xs : List I3} (hg : Gd xs) {p : Cs} (hp : ∀ v, -700 ≤ p v ∧ p v ≤ 0) {a : Nat} {B : Int} (hB0 : 0 ≤ B) (hB : B ≤ 100000) {c : Cs} (hc : Bd B c) : jac (xs.map (rd1 p)) (sh p a c) = sh p a (jac xs c) := by
  have hpa := hp a
  have key : ∀ r, r ∈ xs → ov (sh p a c) (rd1 p r) = if ov c r = far then far else ov c r + p a - p r.a1.toNat := fun r hr => by
    have hu := hc r.a0.toNat
    have := hp r.a0.toNat; have := hp r.a1.toNat
    have g := hg r hr; have := g.c0; have := g.c1
    unfold far at *
    by_cases e : c r.a0.toNat = 1000000000
    · rw [show ov (sh p a c) (rd1 p r) = 1000000000 from ov_far (by show sh p a c r.a0.toNat = _; unfold sh far; rw [if_pos e]), ov_far e, if_pos rfl]
    · have e1 : sh p a c r.a0.toNat = c r.a0.toNat + p a - p r.a0.toNat := by unfold sh far; rw [if_neg e]
      have e2 : ¬ sh p a c (rd1 p r).a0.toNat = 1000000000 := by show ¬ sh p a c r.a0.toNat = _; rw [e1]; omega
      rw [ov_add e2, ov_add e, if_neg (by omega)]
      show sh p a c r.a0.toNat + (r.a2 + p r.a0.toNat - p r.a1.toNat) = _
      rw [e1]; omega
  refine Le.anti (fun v => ?_) (fun v => ?_)
  · -- what is told by potentials is no more
    rcases jac_is (xs := xs) c v with e | ⟨r, hr, hv, e⟩
    · refine Int.le_trans (jac_le _ _ v) ?_
      unfold sh; rw [e]; exact Int.le_refl _
    · have hr' : rd1 p r ∈ xs.map (rd1 p) := List.mem_map.2 ⟨r, hr, rfl⟩
      have t0 := (hg r hr).t0
      have h1 : jac (xs.map (rd1 p)) (sh p a c) v ≤ ov (sh p a c) (rd1 p r) := by
        refine lst_le_of _ _ (List.mem_map.2 ⟨rd1 p r, List.mem_filter.2 ⟨hr', ?_⟩, rfl⟩)
        show decide (r.a1 = (v : Int)) = true
        simp; omega
      refine Int.le_trans h1 ?_
      rw [key r hr, hv]
      unfold sh; rw [e]
      exact Int.le_refl _
  · rcases jac_is (xs := xs.map (rd1 p)) (sh p a c) v with e | ⟨s, hs, hv, e⟩
    · rw [e]
      have h1 := jac_le xs c v
      have h2 := jac_bd hg hc v
      have h3 := hc v
      have := hp v
      unfold sh far at *
      by_cases e1 : jac xs c v = 1000000000
      · rw [if_pos e1]
        rw [if_pos (by omega)]; exact Int.le_refl _
      · rw [if_neg e1]
        split <;> omega
    · obtain ⟨r, hr, rfl⟩ := List.mem_map.1 hs
      have hv' : r.a1.toNat = v := hv
      rw [e, key r hr]
      have h1 := jac_ov hg c hr
      rw [hv'] at h1 ⊢
      have h2 := jac_bd hg hc v
      have h3 := ov_bd hc (hg r hr)
      have := hp v
      unfold sh far at *
      by_cases e1 : jac xs c v = 1000000000
      · rw [if_pos e1, if_pos (by omega)]; exact Int.le_refl _
      · rw [if_neg e1]
        split <;> omega
theorem jk_sh {xs : List I3} (hg : Gd xs) {p : Cs} (hp : ∀ v, -700 ≤ p v ∧ p v ≤ 0) (a : Nat) : ∀ n : Nat, n ≤ 100 → jk (xs.map (rd1 p)) n (start a) = sh p a (jk xs n (start a))
  | 0, _ => (start_sh p a).symm
  | n + 1, hn => by
    show jac _ (jk (xs.map (rd1 p)) n (start a)) = sh p a (jac xs (jk xs n (start a)))
    rw [jk_sh hg hp a n (by omega), jac_sh hg hp (B := 100 * n) (by omega) (by omega) (jk_bd hg (start_bd a) n (by omega))]
theorem red_frm {xs : List I3} (h : okP xs = true) (a v : Nat) : frm (xs.map (rd1 (pot xs))) a v = if frm xs a v = far then far else frm xs a v + pot xs a - pot xs v := by
  show jk (xs.map (rd1 (pot xs))) 7 (start a) v = _
  rw [jk_sh (okP_Gd h) (fun v => pot_bd h v) a 7 (by omega)]; rfl
/-- What FnPotentials asks. -/
structure PQ (xs : List I3) (RL : List I3) (PL : List Int) (p : Cs) : Prop where
  pl : PL = li p
  ln : RL.length = xs.length
  pb : ∀ v, -700 ≤ p v ∧ p v ≤ 0
  gd : ∀ k, k < xs.length → Good (MI3.at_ xs k)
  rl : ∀ k, k < xs.length → MI3.at_ RL k = ⟨(MI3.at_ xs k).a0, (MI3.at_ xs k).a1, (MI3.at_ xs k).a2 + p (MI3.at_ xs k).a0.toNat - p (MI3.at_ xs k).a1.toNat⟩ ∧ 0 ≤ (MI3.at_ xs k).a2 + p (MI3.at_ xs k).a0.toNat - p (MI3.at_ xs k).a1.toNat
  fr : ∀ fn : Nat, fn < 8 → ∃ f : Cs, may xs (fn : Int) = true ∧ cfL xs (fn : Int) = li f ∧ (∀ v, f v = far ∨ (-700 ≤ f v ∧ f v ≤ 700)) ∧ may RL (fn : Int) = okP RL ∧ (okP RL = true → cfL RL (fn : Int) = li (fun v => if f v = far then far else f v + p fn - p v))
theorem pq_of {xs : List I3} (h : fine xs = true) : PQ xs (rrL xs) (poL xs) (pot xs) := by
  obtain ⟨h1, h2⟩ := fine_is h
  refine ⟨poL_yes h, by rw [rrL_yes h]; simp, fun v => pot_bd h1 v, fun k hk => okP_good h1 hk, fun k hk => ?_, fun fn hf => ?_⟩
  · have e : MI3.at_ (rrL xs) k = rd1 (pot xs) (MI3.at_ xs k) := by
      rw [rrL_yes h, MI3.at_eq _ k (by simpa using hk), MI3.at_eq xs k hk]; simp
    have hr : MI3.at_ xs k ∈ xs := by rw [MI3.at_eq xs k hk]; exact List.getElem_mem hk
    exact ⟨e, pot_road h1 h2 hr⟩
  · have hn : nodeOk (fn : Int) = true := by simp only [nodeOk, decide_eq_true_eq]; omega
    refine ⟨frm xs fn, by rw [may, h, hn]; rfl, cfL_yes h hf, fun v => frm_bd h1 fn v, ?_, fun ho => ?_⟩
    · rw [may, hn, Bool.and_true]
      cases ho : okP (rrL xs) with
      | true => rw [rrL_yes h] at ho ⊢; exact red_calm h1 h2 ho
      | false => rw [fine, ho]; rfl
    · have hfi : fine (rrL xs) = true := by rw [rrL_yes h] at ho ⊢; exact red_calm h1 h2 ho
      rw [cfL_yes hfi hf, rrL_yes h]
      exact li_ext fun v _ => red_frm h1 fn v
end RD
end Go.Proofs.Ytclhfhjkcocdcaa
