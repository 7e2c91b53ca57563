/- A slice of numbers that came in, opened: plain facts, over whatever program. -/
import Derived.Test.YtfkmnmiolnijaaaM4
import Derived.Deep.Slices
import Derived.ChangeSame
import Derived.ChangeArms
import Derived.Lib.SmallJoins
import Derived.OpenShut
namespace Go.Proofs.Ytfkmnmiolnijaaa
open Go.RowKit Go.ChangeShapes Go.WideShapes
theorem ints_open {H : Type} {enc : TypeId × Value → H} {P : Program} {w : World} {base : Nat} {spare : Nat → Bool} {held : Bool} {t e : TypeId} {fuel len cap : Nat} {a : Option Addr} {x : DataW H × List MemPlace}
    (ht : P.underlying t = some (.slice e)) (he : P.underlying e = some (.int .i64)) (ce : P.cellsOf e = 1)
    (h : DataW.trod enc P w base spare held fuel t [.slice a len cap] = some x) :
    len ≤ maxLen ∧ ∃ zs : List Int, zs.length = len ∧ Hid (∀ x ∈ zs, IntKind.i64.min ≤ x ∧ x ≤ IntKind.i64.max) ∧ M4.IntsAt w a zs := by
  rcases Deep.open_slice ht h with ⟨hcs, _⟩ | ⟨ad, l, c, m, n, D, Pl, hcs, hb, hl, hm, hmm, _, hx⟩
  · simp at hcs
    obtain ⟨rfl, rfl, rfl⟩ := hcs
    exact ⟨by unfold maxLen; omega, [], rfl, fun x hx => by simp at hx, .inl rfl⟩
  · simp at hcs
    obtain ⟨rfl, rfl, rfl⟩ := hcs
    have hlm : len ≤ m := by rw [hmm]; split <;> omega
    have each : ∀ i, i < len → ∃ q : Int, w.cell? (ad.add i) = some (.int .i64 q) ∧ IntKind.i64.min ≤ q ∧ q ≤ IntKind.i64.max := by
      intro i hi
      obtain ⟨cs', h1, h2⟩ := hx i (by omega)
      rw [ce] at h1
      obtain ⟨_, hlen, hcell⟩ := World.cells?_some h1
      match cs', hlen with
      | [v0], _ =>
        obtain ⟨n0, e0, _, w0⟩ := DataW.trod_int he h2
        simp only [List.cons.injEq, and_true] at e0
        subst e0
        have q0 := hcell 0 (by omega)
        rw [Deep.add_add] at q0
        exact ⟨n0, by simpa using q0, (bounds_i64 w0).1, (bounds_i64 w0).2⟩
    obtain ⟨q, hq⟩ := Deep.choose_lt each
    refine ⟨by omega, (List.range len).map q, by simp, fun x hx => ?_, ?_⟩
    · simp only [List.mem_map, List.mem_range] at hx
      obtain ⟨j, hj, rfl⟩ := hx
      exact (hq j hj).2
    · by_cases h0 : len = 0
      · subst h0; exact .inl rfl
      · obtain ⟨b, off, spot⟩ := ad
        have hc := (hq 0 (by omega)).1
        have hspot : spot = none := by simpa [Addr.add] using World.cell?_spot hc
        subst hspot
        have hadd : ∀ j, (⟨b, off, none⟩ : Addr).add j = ⟨b, off + j, none⟩ := fun j => by unfold Addr.add; split <;> simp_all
        refine .inr ⟨b, off, rfl, ?_, fun j hj => ?_⟩
        · have := World.block_lt_of_cell? _ _ hc; simpa [Addr.add] using this
        · have hj' : j < len := by simpa using hj
          have k0 := (hq j hj').1
          rw [hadd] at k0
          rw [k0]; simp [hj']
end Go.Proofs.Ytfkmnmiolnijaaa
