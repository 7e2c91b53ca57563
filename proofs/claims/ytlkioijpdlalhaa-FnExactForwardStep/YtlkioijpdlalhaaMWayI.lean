/- The way that is noted leads there: plain facts. -/
import Derived.Test.YtlkioijpdlalhaaMPA
import Derived.Test.YtlkioijpdlalhaaMRou
import Derived.Test.YtlkioijpdlalhaaMVix
namespace Go.Proofs.Ytlkioijpdlalhaa
open Go.RowKit
namespace PN
open FL
theorem getD_left {os ps : List Int} {i : Nat} (h : i < os.length) : (os ++ ps).getD i 0 = os.getD i 0 := by simp only [List.getD_eq_getElem?_getD]; rw [List.getElem?_append_left h]
theorem mo_app (xs : List I5) (os ps : List Int) (n : Int) : ∀ j, j ≤ os.length → mo xs (os ++ ps) n j = mo xs os n j
  | 0, _ => rfl
  | j + 1, h => by rw [mo, mo, mo_app xs os ps n j (by omega), getD_left (by omega)]
theorem node_app (xs : List I5) (f : Int) (os ps : List Int) : ∀ j, j ≤ os.length → nodeAt xs f (os ++ ps) j = nodeAt xs f os j
  | 0, _ => rfl
  | j + 1, h => by rw [nodeAt, nodeAt, getD_left (by omega)]
/-- The way that is noted leads there, at the time that is told. -/
theorem way_is {xs : List I5} (hok : okP xs = true) {f : Nat} {fi n : Int} (hf : fi = (f : Int)) {s : St} {rk : Nat → Nat} (hx : Vix xs f n s) (hv : Via xs f s rk) : ∀ m v u, s.wh v = .fin u → rk v ≤ m → mo xs (way xs s.la f m v) n (way xs s.la f m v).length = .fin u ∧ inUp xs.length (way xs s.la f m v) (way xs s.la f m v).length ∧ goUp xs fi (way xs s.la f m v) (way xs s.la f m v).length ∧ nodeAt xs fi (way xs s.la f m v) (way xs s.la f m v).length = (v : Int) := by
  intro m
  induction m with
  | zero =>
    intro v u hu hr
    by_cases hvf : v = f
    · subst hvf
      rw [way_end]
      rw [hx.src] at hu
      exact ⟨hu, fun i hi => by simp at hi, fun i hi => by simp at hi, hf⟩
    · obtain ⟨k, _, _, _, h⟩ := hv.via v hvf u hu
      omega
  | succ m ih =>
    intro v u hu hr
    by_cases hvf : v = f
    · subst hvf
      rw [way_end]
      rw [hx.src] at hu
      exact ⟨hu, fun i hi => by simp at hi, fun i hi => by simp at hi, hf⟩
    · obtain ⟨k, a1, a2, a3, a4⟩ := hx.via v hvf u hu
      obtain ⟨k', b1, _, _, b4⟩ := hv.via v hvf u hu
      rw [a1] at b1
      cases b1
      obtain ⟨p, hp⟩ := arr_fin a4
      obtain ⟨i1, i2, i3, i4⟩ := ih (MI5.at_ xs k).a0.toNat p hp (by omega)
      rw [way_step hvf a1]
      generalize way xs s.la f m (MI5.at_ xs k).a0.toNat = W at *
      have eL : (W ++ [(k : Int)]).length = W.length + 1 := by simp
      have eG : (W ++ [(k : Int)]).getD W.length 0 = (k : Int) := by simp [List.getD_eq_getElem?_getD]
      have eO : ofN xs ((W ++ [(k : Int)]).getD W.length 0) = MI5.at_ xs k := by rw [eG, ofN, Int.toNat_natCast]
      have G := okP_good hok a2
      have g1 := G.f0
      have g2 := G.t0
      rw [eL]
      refine ⟨?_, fun i hi => ?_, fun i hi => ?_, ?_⟩
      · rw [mo, eO, mo_app _ _ _ _ _ (Nat.le_refl _), i1, ← hp]; exact a4
      · by_cases e : i = W.length
        · subst e; rw [eG]; omega
        · rw [getD_left (by omega)]; exact i2 i (by omega)
      · by_cases e : i = W.length
        · subst e; rw [eO, node_app _ _ _ _ _ (Nat.le_refl _), i4]; omega
        · rw [getD_left (by omega), node_app _ _ _ _ _ (by omega)]; exact i3 i (by omega)
      · rw [nodeAt, eO]; omega
end PN
end Go.Proofs.Ytlkioijpdlalhaa
