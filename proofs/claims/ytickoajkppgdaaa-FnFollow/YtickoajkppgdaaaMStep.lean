import Derived.Test.YtickoajkppgdaaaM6R
import Derived.Test.YtickoajkppgdaaaMPA
import Derived.Test.YtickoajkppgdaaaMRou
import Derived.Test.YtickoajkppgdaaaMFit
import Derived.Test.YtickoajkppgdaaaCArrO
/- How each is there: plain facts. -/
namespace Go.Proofs.Ytickoajkppgdaaa
open Go.RowKit
namespace PN
open FL
/-- How each is there: by the start, or by the contact that is noted. -/
structure Vix (xs : List I5) (f : Nat) (n : Int) (s : St) : Prop where
  src : s.wh f = .fin n
  via : ∀ v, v ≠ f → ∀ u, s.wh v = .fin u → ∃ k, s.la v = some k ∧ k < xs.length ∧ (MI5.at_ xs k).a1.toNat = v ∧ arr (MI5.at_ xs k) (s.wh (MI5.at_ xs k).a0.toNat) = .fin u
theorem vix_step {xs : List I5} (hok : okP xs = true) {f : Nat} {n : Int} {s : St} (hs : okS s.wh) (ho : Ord xs s.wh) (hv : Vix xs f n s) {b : Nat} {t : Int} (hb : best xs s.wh xs.length = some (b, t)) : Vix xs f n (take1 xs s b t) := by
  have hnew := ord_new hs ho hb
  obtain ⟨h1, h2, _⟩ := best_is hb
  have hG := okP_good hok h1
  have hft : (MI5.at_ xs b).a0.toNat ≠ (MI5.at_ xs b).a1.toNat := by
    have := hG.ne
    have := hG.f0
    have := hG.t0
    omega
  have hfb : f ≠ (MI5.at_ xs b).a1.toNat := fun e => by rw [← e, hv.src] at hnew; cases hnew
  refine ⟨?_, fun v hvf u hu => ?_⟩
  · show put s.wh _ _ f = _
    rw [put_ne _ _ hfb]; exact hv.src
  · by_cases hvb : v = (MI5.at_ xs b).a1.toNat
    · subst hvb
      have hu2 : u = t := by
        have : put s.wh (MI5.at_ xs b).a1.toNat (.fin t) (MI5.at_ xs b).a1.toNat = .fin u := hu
        rw [put_at] at this
        cases this; rfl
      subst hu2
      refine ⟨b, ?_, h1, rfl, ?_⟩
      · show put s.la _ _ _ = _
        rw [put_at]
      · show arr _ (put s.wh _ _ _) = _
        rw [put_ne _ _ hft]; exact h2
    · have hu2 : s.wh v = .fin u := by
        have : put s.wh (MI5.at_ xs b).a1.toNat (.fin t) v = .fin u := hu
        rwa [put_ne _ _ hvb] at this
      obtain ⟨k, a1, a2, a3, a4⟩ := hv.via v hvf u hu2
      obtain ⟨p, hp⟩ := arr_fin a4
      have hne : (MI5.at_ xs k).a0.toNat ≠ (MI5.at_ xs b).a1.toNat := fun e => by rw [e, hnew] at hp; cases hp
      refine ⟨k, ?_, a2, a3, ?_⟩
      · show put s.la _ _ _ = _
        rw [put_ne _ _ hvb]; exact a1
      · show arr _ (put s.wh _ _ _) = _
        rw [put_ne _ _ hne]; exact a4
theorem vix_fin {xs : List I5} (hok : okP xs = true) {f : Nat} {n : Int} {s : St} (hs : okS s.wh) (ho : Ord xs s.wh) (hv : Vix xs f n s) : Vix xs f n (fin xs s) := by
  have : ∀ m (s : St), okS s.wh → Ord xs s.wh → Vix xs f n s → Vix xs f n (run xs m s) := by
    intro m
    induction m with
    | zero => exact fun s _ _ h => h
    | succ m ih =>
      intro s hs ho hv
      simp only [run]
      cases hb : best xs s.wh xs.length with
      | none => exact hv
      | some p =>
        obtain ⟨b, t⟩ := p
        exact ih _ (step_ok hok hs hb).1 (ord_step hok ho hb) (vix_step hok hs ho hv hb)
  exact this _ s hs ho hv
theorem vix_st0 (xs : List I5) {f n : Int} : Vix xs f.toNat n (st0 f n) := by
  refine ⟨by simp [st0, put], ?_⟩
  intro v hv u hu
  simp only [st0, put] at hu
  rw [if_neg hv] at hu; cases hu
end PN
end Go.Proofs.Ytickoajkppgdaaa

/- The way that is noted leads there: plain facts. -/
namespace Go.Proofs.Ytickoajkppgdaaa
open Go.RowKit
namespace PN
open FL
theorem getD_left {os ps : List Int} {i : Nat} (h : i < os.length) : (os ++ ps).getD i 0 = os.getD i 0 := by simp only [List.getD_eq_getElem?_getD]; rw [List.getElem?_append_left h]
theorem mo_app (xs : List I5) (os ps : List Int) (n : Int) : ∀ j, j ≤ os.length → mo xs (os ++ ps) n j = mo xs os n j
  | 0, _ => rfl
  | j + 1, h => by rw [mo, mo, mo_app xs os ps n j (by omega), getD_left (by omega)]
theorem node_app (xs : List I5) (f : Int) (os ps : List Int) : ∀ j, j ≤ os.length → nodeAt xs f (os ++ ps) j = nodeAt xs f os j
  | 0, _ => rfl
  | j + 1, h => by rw [nodeAt, nodeAt, getD_left (by omega)]
/-- The way that is noted leads there, at the time that is told. -/
theorem way_is {xs : List I5} (hok : okP xs = true) {f : Nat} {fi n : Int} (hf : fi = (f : Int)) {s : St} {rk : Nat → Nat} (hx : Vix xs f n s) (hv : Via xs f s rk) : ∀ m v u, s.wh v = .fin u → rk v ≤ m → mo xs (way xs s.la f m v) n (way xs s.la f m v).length = .fin u ∧ inUp xs.length (way xs s.la f m v) (way xs s.la f m v).length ∧ goUp xs fi (way xs s.la f m v) (way xs s.la f m v).length ∧ nodeAt xs fi (way xs s.la f m v) (way xs s.la f m v).length = (v : Int) := by
  intro m
  induction m with
  | zero =>
    intro v u hu hr
    by_cases hvf : v = f
    · subst hvf
      rw [way_end]
      rw [hx.src] at hu
      exact ⟨hu, fun i hi => by simp at hi, fun i hi => by simp at hi, hf⟩
    · obtain ⟨k, _, _, _, h⟩ := hv.via v hvf u hu
      omega
  | succ m ih =>
    intro v u hu hr
    by_cases hvf : v = f
    · subst hvf
      rw [way_end]
      rw [hx.src] at hu
      exact ⟨hu, fun i hi => by simp at hi, fun i hi => by simp at hi, hf⟩
    · obtain ⟨k, a1, a2, a3, a4⟩ := hx.via v hvf u hu
      obtain ⟨k', b1, _, _, b4⟩ := hv.via v hvf u hu
      rw [a1] at b1
      cases b1
      obtain ⟨p, hp⟩ := arr_fin a4
      obtain ⟨i1, i2, i3, i4⟩ := ih (MI5.at_ xs k).a0.toNat p hp (by omega)
      rw [way_step hvf a1]
      generalize way xs s.la f m (MI5.at_ xs k).a0.toNat = W at *
      have eL : (W ++ [(k : Int)]).length = W.length + 1 := by simp
      have eG : (W ++ [(k : Int)]).getD W.length 0 = (k : Int) := by simp [List.getD_eq_getElem?_getD]
      have eO : ofN xs ((W ++ [(k : Int)]).getD W.length 0) = MI5.at_ xs k := by rw [eG, ofN, Int.toNat_natCast]
      have G := okP_good hok a2
      have g1 := G.f0
      have g2 := G.t0
      rw [eL]
      refine ⟨?_, fun i hi => ?_, fun i hi => ?_, ?_⟩
      · rw [mo, eO, mo_app _ _ _ _ _ (Nat.le_refl _), i1, ← hp]; exact a4
      · by_cases e : i = W.length
        · subst e; rw [eG]; omega
        · rw [getD_left (by omega)]; exact i2 i (by omega)
      · by_cases e : i = W.length
        · subst e; rw [eO, node_app _ _ _ _ _ (Nat.le_refl _), i4]; omega
        · rw [getD_left (by omega), node_app _ _ _ _ _ (by omega)]; exact i3 i (by omega)
      · rw [nodeAt, eO]; omega
end PN
end Go.Proofs.Ytickoajkppgdaaa

/- The step that is first on a route: plain facts. -/
namespace Go.Proofs.Ytickoajkppgdaaa
open Go.RowKit
namespace GP
open PN FL
/-- The first contact of a route leads on from where one is, and can be taken then. -/
theorem first_of {xs : List I5} {f n t : Int} (h : tellB (routeM xs f n t) = true) (hne : routeL xs f n t ≠ []) :
    startOk xs f n = true ∧ 0 < (routeL xs f n t).length ∧ (0 ≤ (routeL xs f n t).getD 0 0 ∧ (routeL xs f n t).getD 0 0 < xs.length) ∧ (ofN xs ((routeL xs f n t).getD 0 0)).a0 = f ∧ ¬ (ofN xs ((routeL xs f n t).getD 0 0)).a3 ≤ n ∧ arrM xs f n [(routeL xs f n t).getD 0 0] = .fin (ov (ofN xs ((routeL xs f n t).getD 0 0)) n) := by
  have ha : askOk xs f n t = true := by
    cases c : askOk xs f n t with
    | true => rfl
    | false => rw [route_no c] at h; cases h
  obtain ⟨hst, t0, t1⟩ := ask_is ha
  obtain ⟨hok, f0, f1, n0, n1⟩ := start_is hst
  have hs0 := st0_ok (f := f) n0 n1
  have hO := ord_st0 hok (f := f) (n := n)
  have hX := vix_fin hok hs0 hO (vix_st0 xs (f := f) (n := n))
  obtain ⟨rk, hV⟩ := via_fin hok hs0 hO (via_st0 xs f0 f1 (n := n))
  have hL := routeL_yes h
  rw [route_yes ha] at h
  obtain ⟨u, hu⟩ : ∃ u, (fin xs (st0 f n)).wh t.toNat = .fin u := by
    cases c : (fin xs (st0 f n)).wh t.toNat with
    | fin u => exact ⟨u, rfl⟩
    | inf => rw [c] at h; cases h
    | ago => rw [c] at h; cases h
  obtain ⟨w1, w2, w3, w4⟩ := way_is hok (fi := f) (by omega : f = (f.toNat : Int)) hX hV 8 t.toNat u hu (Nat.le_trans (hV.top _ _ hu) (cnt_le _))
  rw [← hL] at w1 w2 w3
  generalize routeL xs f n t = L at *
  have hl : 0 < L.length := by cases L with | nil => exact absurd rfl hne | cons _ _ => simp
  have hin := w2 0 hl
  have hgo : (ofN xs (L.getD 0 0)).a0 = f := w3 0 hl
  have hmo : mo xs L n 1 = arr (ofN xs (L.getD 0 0)) (.fin n) := rfl
  have hne2 : ¬ (ofN xs (L.getD 0 0)).a3 ≤ n := fun c => by
    have := mo_inf (xs := xs) (os := L) (n := n) (k := 1) (by rw [hmo, (ov_no c).2]) (L.length - 1)
    rw [show 1 + (L.length - 1) = L.length by omega, w1] at this
    cases this
  refine ⟨hst, hl, ⟨hin.1, hin.2⟩, hgo, hne2, ?_⟩
  have hin1 : inUp xs.length [L.getD 0 0] [L.getD 0 0].length := fun i hi => by
    obtain rfl : i = 0 := by simpa using hi
    exact hin
  have hgo1 : goUp xs f [L.getD 0 0] [L.getD 0 0].length := fun i hi => by
    obtain rfl : i = 0 := by simpa using hi
    exact hgo
  rw [arrM_yes (way_go hst ((inP_iff _ _).2 hin1) (by simp) hgo1), ← ov_yes hne2]; rfl
/-- Whether there is a step that is in time; the contact, and when one is there by it. -/
def stepOk (xs : List I5) (b : Bd) (f n t : Int) : Bool := fitsB xs b && tellB (routeM xs f n t) && decide (routeL xs f n t ≠ []) && decide (ov (ofN xs ((routeL xs f n t).getD 0 0)) n ≤ b.md + b.lf)
def stepK (xs : List I5) (b : Bd) (f n t : Int) : Int := if stepOk xs b f n t = true then (routeL xs f n t).getD 0 0 else 0
def stepT (xs : List I5) (b : Bd) (f n t : Int) : Int := if stepOk xs b f n t = true then ov (ofN xs ((routeL xs f n t).getD 0 0)) n else 0
theorem step_no {xs : List I5} {b : Bd} {f n t : Int} (h : stepOk xs b f n t = false) : stepK xs b f n t = 0 ∧ stepT xs b f n t = 0 := by unfold stepK stepT; rw [h]; exact ⟨rfl, rfl⟩
theorem step_yes {xs : List I5} {b : Bd} {f n t : Int} (h : stepOk xs b f n t = true) : stepK xs b f n t = (routeL xs f n t).getD 0 0 ∧ stepT xs b f n t = ov (ofN xs ((routeL xs f n t).getD 0 0)) n := by unfold stepK stepT; rw [h]; exact ⟨rfl, rfl⟩
end GP
end Go.Proofs.Ytickoajkppgdaaa
