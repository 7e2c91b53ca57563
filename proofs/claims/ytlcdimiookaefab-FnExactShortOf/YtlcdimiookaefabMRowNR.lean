/- A slice of slices of numbers that came in, opened: plain facts, over whatever program. -/
import Derived.Test.YtlcdimiookaefabMNR
import Derived.Deep.Matrix
import Derived.ChangeSame
import Derived.ChangeArms
import Derived.Lib.SmallJoins
import Derived.OpenShut
namespace Go.Proofs.Ytlcdimiookaefab
open Go.RowKit Go.ChangeShapes Go.WideShapes
theorem rows_open {H : Type} {enc : TypeId × Value → H} {P : Program} {w : World} {base : Nat} {held : Bool} {t e q : TypeId} {fuel len cap : Nat} {a : Option Addr} {x : DataW H × List MemPlace}
    (ht : P.underlying t = some (.slice e)) (he : P.underlying e = some (.slice q)) (hq : P.underlying q = some (.int .i64)) (ce : P.cellsOf e = 1) (cq : P.cellsOf q = 1)
    (h : DataW.trod enc P w base (fun _ => true) held fuel t [.slice a len cap] = some x) :
    len ≤ maxLen ∧ ∃ ws : List (List Int), ws.length = len ∧ NR.RowsAt w a ws := by
  rcases Deep.open_int_rows ht he hq ce cq h with ⟨hcs, _⟩ | ⟨ad, l, c, A, L, C, Z, hcs, hb, hl, hm, _, hx⟩
  · simp at hcs
    obtain ⟨rfl, rfl, rfl⟩ := hcs
    exact ⟨by unfold maxLen; omega, [], rfl, ⟨.inl rfl⟩⟩
  · simp at hcs
    obtain ⟨rfl, rfl, rfl⟩ := hcs
    have hat : ∀ r, r < len → NR.rw_ ((List.range len).map fun r => (Z r).take (L r)) r = (Z r).take (L r) := fun r hr => by simp [NR.rw_, hr]
    have hln : ∀ r, r < len → ((Z r).take (L r)).length = L r := fun r hr => by
      obtain ⟨_, h1, _, h2, _⟩ := hx r (by omega)
      rw [List.length_take, h2]; omega
    refine ⟨by omega, (List.range len).map fun r => (Z r).take (L r), by simp, ?_⟩
    by_cases h0 : len = 0
    · subst h0; exact ⟨.inl rfl⟩
    · obtain ⟨b, off, spot⟩ := ad
      have hc := (hx 0 (by omega)).1
      have hspot : spot = none := by simpa [Addr.add] using World.cell?_spot hc
      subst hspot
      have hadd : ∀ (b off j : Nat), (⟨b, off, none⟩ : Addr).add j = ⟨b, off + j, none⟩ := fun b off j => by unfold Addr.add; split <;> simp_all
      refine ⟨.inr ⟨b, off, rfl, ?_, fun j hj => ?_⟩⟩
      · have := World.block_lt_of_cell? _ _ hc; simpa [Addr.add] using this
      · have hj' : j < len := by simpa using hj
        obtain ⟨k0, k1, k2, k3, _, k5, k6⟩ := hx j (by omega)
        rw [hadd] at k0
        rw [hat j hj']
        refine ⟨A j, C j, by rw [hln j hj']; exact k0, by rw [hln j hj']; omega, ?_⟩
        by_cases hz : L j = 0
        · left; rw [hz]; simp
        · cases hA : A j with
          | none => have := k5 hA; omega
          | some a' =>
            obtain ⟨b', off', spot'⟩ := a'
            have k7 := (k6 _ hA).2
            have c0 := k7 0 (by omega)
            have hsp : spot' = none := by simpa [Addr.add] using World.cell?_spot c0
            subst hsp
            refine .inr ⟨b', off', rfl, ?_, fun i hi => ?_⟩
            · have := World.block_lt_of_cell? _ _ c0; simpa [Addr.add] using this
            · rw [hln j hj'] at hi
              have c1 := k7 i (by omega)
              rw [hadd] at c1
              rw [c1]
              congr 2
              rw [List.getD_eq_getElem?_getD, List.getD_eq_getElem?_getD, List.getElem?_take, if_pos hi]
end Go.Proofs.Ytlcdimiookaefab
