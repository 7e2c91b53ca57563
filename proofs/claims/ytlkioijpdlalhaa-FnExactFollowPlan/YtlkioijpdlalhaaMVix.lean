/- How each is there: plain facts. -/
import Derived.Test.YtlkioijpdlalhaaM6R
namespace Go.Proofs.Ytlkioijpdlalhaa
open Go.RowKit
namespace PN
open FL
/-- How each is there: by the start, or by the contact that is noted. -/
structure Vix (xs : List I5) (f : Nat) (n : Int) (s : St) : Prop where
  src : s.wh f = .fin n
  via : ∀ v, v ≠ f → ∀ u, s.wh v = .fin u → ∃ k, s.la v = some k ∧ k < xs.length ∧ (MI5.at_ xs k).a1.toNat = v ∧ arr (MI5.at_ xs k) (s.wh (MI5.at_ xs k).a0.toNat) = .fin u
theorem vix_step {xs : List I5} (hok : okP xs = true) {f : Nat} {n : Int} {s : St} (hs : okS s.wh) (ho : Ord xs s.wh) (hv : Vix xs f n s) {b : Nat} {t : Int} (hb : best xs s.wh xs.length = some (b, t)) : Vix xs f n (take1 xs s b t) := by
  have hnew := ord_new hs ho hb
  obtain ⟨h1, h2, _⟩ := best_is hb
  have hG := okP_good hok h1
  have hft : (MI5.at_ xs b).a0.toNat ≠ (MI5.at_ xs b).a1.toNat := by
    have := hG.ne
    have := hG.f0
    have := hG.t0
    omega
  have hfb : f ≠ (MI5.at_ xs b).a1.toNat := fun e => by rw [← e, hv.src] at hnew; cases hnew
  refine ⟨?_, fun v hvf u hu => ?_⟩
  · show put s.wh _ _ f = _
    rw [put_ne _ _ hfb]; exact hv.src
  · by_cases hvb : v = (MI5.at_ xs b).a1.toNat
    · subst hvb
      have hu2 : u = t := by
        have : put s.wh (MI5.at_ xs b).a1.toNat (.fin t) (MI5.at_ xs b).a1.toNat = .fin u := hu
        rw [put_at] at this
        cases this; rfl
      subst hu2
      refine ⟨b, ?_, h1, rfl, ?_⟩
      · show put s.la _ _ _ = _
        rw [put_at]
      · show arr _ (put s.wh _ _ _) = _
        rw [put_ne _ _ hft]; exact h2
    · have hu2 : s.wh v = .fin u := by
        have : put s.wh (MI5.at_ xs b).a1.toNat (.fin t) v = .fin u := hu
        rwa [put_ne _ _ hvb] at this
      obtain ⟨k, a1, a2, a3, a4⟩ := hv.via v hvf u hu2
      obtain ⟨p, hp⟩ := arr_fin a4
      have hne : (MI5.at_ xs k).a0.toNat ≠ (MI5.at_ xs b).a1.toNat := fun e => by rw [e, hnew] at hp; cases hp
      refine ⟨k, ?_, a2, a3, ?_⟩
      · show put s.la _ _ _ = _
        rw [put_ne _ _ hvb]; exact a1
      · show arr _ (put s.wh _ _ _) = _
        rw [put_ne _ _ hne]; exact a4
theorem vix_fin {xs : List I5} (hok : okP xs = true) {f : Nat} {n : Int} {s : St} (hs : okS s.wh) (ho : Ord xs s.wh) (hv : Vix xs f n s) : Vix xs f n (fin xs s) := by
  have : ∀ m (s : St), okS s.wh → Ord xs s.wh → Vix xs f n s → Vix xs f n (run xs m s) := by
    intro m
    induction m with
    | zero => exact fun s _ _ h => h
    | succ m ih =>
      intro s hs ho hv
      simp only [run]
      cases hb : best xs s.wh xs.length with
      | none => exact hv
      | some p =>
        obtain ⟨b, t⟩ := p
        exact ih _ (step_ok hok hs hb).1 (ord_step hok ho hb) (vix_step hok hs ho hv hb)
  exact this _ s hs ho hv
theorem vix_st0 (xs : List I5) {f n : Int} : Vix xs f.toNat n (st0 f n) := by
  refine ⟨by simp [st0, put], ?_⟩
  intro v hv u hu
  simp only [st0, put] at hu
  rw [if_neg hv] at hu; cases hu
end PN
end Go.Proofs.Ytlkioijpdlalhaa
