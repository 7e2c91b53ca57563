/- Rows of rows that are filled one after another: plain facts. -/
import Derived.Test.YtlcdimiookaefabMNR
namespace Go.Proofs.Ytlcdimiookaefab
namespace NR
open Go.RowKit
/-- The rows that were laid, and what is not yet filled. -/
structure Ws (T : TypeId) (w : World) (B go N : Nat) (ds : List (List Int)) (A : Nat → Option Addr) (C : Nat → Nat) : Prop where
  out : w.ownsRow B T 1 (.slice (some ⟨go, 0, none⟩) N N) N (hd ds A C ++ List.replicate (N - ds.length) (.slice none 0 0))
  row : ∀ j, j < ds.length → In w B (A j) (rw_ ds j)
  far : ∀ i j, i < j → j < ds.length → rw_ ds i ≠ [] → rw_ ds j ≠ [] → A i ≠ A j
theorem Ws.own {T : TypeId} {w : World} {B go N : Nat} {ds : List (List Int)} {A : Nat → Option Addr} {C : Nat → Nat} (h : Ws T w B go N ds A C) (hN : ds.length = N) : Own T w B (.slice (some ⟨go, 0, none⟩) N N) ds A C := by
  refine ⟨?_, h.row, h.far⟩
  have := h.out
  rw [hN, Nat.sub_self, List.replicate_zero, List.append_nil] at this
  rw [hN]; exact this
theorem Ws.only {T : TypeId} {w w' : World} {B go N p : Nat} {ds : List (List Int)} {A : Nat → Option Addr} {C : Nat → Nat} (h : Ws T w B go N ds A C) (ho : MC.Only p w w') (hp : p < B) : Ws T w' B go N ds A C := by
  refine ⟨own_only h.out ho (fun e => by have := (h.out.lt _ e).1; omega), fun j hj => ?_, h.far⟩
  by_cases e : rw_ ds j = []
  · rw [e]; exact .nil _ _ _
  · refine (h.row j hj).only ho (fun ea => ?_)
    have r := h.row j hj
    rw [ea] at r
    have := (r.lt e).1; omega
theorem in_ne {T : TypeId} (hT : T ≠ 3) {w : World} {B go N : Nat} {a : Option Addr} {l : List Int} {vs : List Value} (h : In w B a l) (hl : l ≠ []) (ho : w.ownsRow B T 1 (.slice (some ⟨go, 0, none⟩) N N) N vs) : a ≠ some ⟨go, 0, none⟩ := by
  intro ea
  rcases h.is with e | ⟨g, m, us, ha, hw, _⟩
  · exact hl e
  · rw [ea] at ha
    simp only [Option.some.injEq, Addr.mk.injEq, and_true] at ha
    subst ha
    rcases hw.2 with ⟨h', _⟩ | ⟨g3, cap3, cur3, hv3, _, hg3, _⟩
    · cases h'
    · simp only [Value.slice.injEq, Option.some.injEq, Addr.mk.injEq, and_true] at hv3
      obtain ⟨rfl, _⟩ := hv3
      rcases ho.2 with ⟨h', _⟩ | ⟨g4, cap4, cur4, hv4, _, hg4, _⟩
      · cases h'
      · simp only [Value.slice.injEq, Option.some.injEq, Addr.mk.injEq, and_true] at hv4
        obtain ⟨rfl, _⟩ := hv4
        rw [hg4] at hg3
        simp only [Option.some.injEq, Obj.cells.injEq] at hg3
        exact hT hg3.2.1
theorem Ws.put {T : TypeId} (hT : T ≠ 3) {w : World} {B go N X : Nat} {ds : List (List Int)} {l : List Int} {A : Nat → Option Addr} {C : Nat → Nat} {a : Option Addr} {c : Nat} (h : Ws T w B go N ds A C) (hd : ds.length < N) (hin : In w X a l) (hB : B ≤ X) (hold : ∀ j, j < ds.length → rw_ ds j ≠ [] → ∀ g, A j = some ⟨g, 0, none⟩ → g < X) : Ws T (w.setCell ⟨go, ds.length, none⟩ (.slice a l.length c)) B go N (ds ++ [l]) (setF A ds.length a) (setF C ds.length c) := by
  have st := h.out.stored ds.length (.slice a l.length c)
  have on := (MC.Only.refl go w).setCell ds.length (.slice a l.length c)
  have hin' := hin.mono hB
  refine ⟨?_, fun j hj => ?_, fun i j hij hj hi0 hj0 => ?_⟩
  · have := st.1
    rw [List.set_append_right _ _ (by rw [hd_len]; omega), hd_len, Nat.sub_self, show N - ds.length = (N - (ds.length + 1)) + 1 from by omega, List.replicate_succ, List.set_cons_zero] at this
    rw [hd_snoc, List.append_assoc, List.length_append]
    exact this
  · rw [List.length_append, List.length_singleton] at hj
    by_cases e : j = ds.length
    · subst e
      rw [rw_snoc_eq, setF, if_pos rfl]
      by_cases el : l = []
      · rw [el]; exact .nil _ _ _
      · exact hin'.only on (in_ne hT hin' el h.out)
    · rw [rw_snoc_lt ds l (by omega), setF, if_neg e]
      by_cases el : rw_ ds j = []
      · rw [el]; exact .nil _ _ _
      · exact (h.row j (by omega)).only on (in_ne hT (h.row j (by omega)) el h.out)
  · rw [List.length_append, List.length_singleton] at hj
    have hi : i < ds.length := by omega
    rw [rw_snoc_lt ds l hi] at hi0
    rw [show setF A ds.length a i = A i from by rw [setF, if_neg (by omega)]]
    by_cases e : j = ds.length
    · subst e
      rw [rw_snoc_eq] at hj0
      rw [setF, if_pos rfl]
      intro ea
      obtain ⟨g, hg⟩ := (h.row i hi).some hi0
      have h1 := hold i hi hi0 g hg
      rw [hg] at ea
      rw [← ea] at hin
      have := (hin.lt hj0).1
      omega
    · rw [rw_snoc_lt ds l (by omega)] at hj0
      rw [setF, if_neg e]; exact h.far i j hij (by omega) hi0 hj0
theorem Ws.lt {T : TypeId} {w : World} {B go N : Nat} {ds : List (List Int)} {A : Nat → Option Addr} {C : Nat → Nat} (h : Ws T w B go N ds A C) : ∀ j, j < ds.length → rw_ ds j ≠ [] → ∀ g, A j = some ⟨g, 0, none⟩ → g < w.heap.size := fun j hj h0 g hg => by
  have r := h.row j hj
  rw [hg] at r
  exact (r.lt h0).2
theorem Ws.below {T : TypeId} {w w' : World} {B go N : Nat} {ds : List (List Int)} {A : Nat → Option Addr} {C : Nat → Nat} (h : Ws T w B go N ds A C) (hb : Below w.heap.size w w') : Ws T w' B go N ds A C :=
  ⟨M5.own_below h.out hb, fun j hj => (h.row j hj).below hb, h.far⟩
end NR
end Go.Proofs.Ytlcdimiookaefab
