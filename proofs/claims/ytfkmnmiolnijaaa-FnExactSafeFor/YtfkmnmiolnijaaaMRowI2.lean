/- A slice of structs of 2 numbers that came in, opened: plain facts, over whatever program. -/
import Derived.Test.YtfkmnmiolnijaaaMI2
import Derived.Deep.Slices
import Derived.ChangeSame
import Derived.ChangeArms
import Derived.Lib.SmallJoins
import Derived.OpenShut
namespace Go.Proofs.Ytfkmnmiolnijaaa
open Go.RowKit Go.ChangeShapes Go.WideShapes
theorem rowI2_open {H : Type} {enc : TypeId × Value → H} {P : Program} {w : World} {base : Nat} {spare : Nat → Bool} {held : Bool} {t e : TypeId} {f0 f1 : Field} {fuel len cap : Nat} {a : Option Addr} {x : DataW H × List MemPlace}
    (ht : P.underlying t = some (.slice e)) (he : P.underlying e = some (.struct #[f0, f1])) (ce : P.cellsOf e = 2) (o0 : f0.offset = 0) (o1 : f1.offset = 1)
    (t0 : P.underlying f0.type = some (.int .i64)) (t1 : P.underlying f1.type = some (.int .i64))
    (c0 : P.cellsOf f0.type = 1) (c1 : P.cellsOf f1.type = 1)
    (h : DataW.trod enc P w base spare held fuel t [.slice a len cap] = some x) :
    len ≤ maxLen ∧ ∃ xs : List I2, xs.length = len ∧ Hid (∀ x ∈ xs, IntKind.i64.min ≤ x.a0 ∧ x.a0 ≤ IntKind.i64.max ∧ IntKind.i64.min ≤ x.a1 ∧ x.a1 ≤ IntKind.i64.max) ∧ MI2.RowAt w a xs := by
  rcases Deep.open_slice ht h with ⟨hcs, _⟩ | ⟨ad, l, c, m, n, D, Pl, hcs, hb, hl, hm, hmm, _, hx⟩
  · simp at hcs
    obtain ⟨rfl, rfl, rfl⟩ := hcs
    exact ⟨by unfold maxLen; omega, [], rfl, fun x hx => by simp at hx, ⟨.inl rfl⟩⟩
  · simp at hcs
    obtain ⟨rfl, rfl, rfl⟩ := hcs
    have hlm : len ≤ m := by rw [hmm]; split <;> omega
    have each : ∀ i, i < len → ∃ q : I2, w.cell? (ad.add (i * 2)) = some (.int .i64 q.a0) ∧ w.cell? (ad.add (i * 2 + 1)) = some (.int .i64 q.a1) ∧ IntKind.i64.min ≤ q.a0 ∧ q.a0 ≤ IntKind.i64.max ∧ IntKind.i64.min ≤ q.a1 ∧ q.a1 ≤ IntKind.i64.max := by
      intro i hi
      obtain ⟨cs', h1, h2⟩ := hx i (by omega)
      rw [ce] at h1
      obtain ⟨_, hlen, hcell⟩ := World.cells?_some h1
      obtain ⟨xs, k, _, _, _, hlx, hg⟩ := DataW.trod_struct he h2
      match cs', hlen, xs, hlx with
      | [v0, v1], _, [y0, y1], _ =>
        have g0 : _ = some y0 := hg 0 f0 rfl
        have g1 : _ = some y1 := hg 1 f1 rfl
        simp only [o0, o1, c0, c1, List.drop_zero, List.drop_succ_cons, List.take_succ_cons, List.take_zero] at g0 g1
        obtain ⟨n0, e0, _, w0⟩ := DataW.trod_int t0 g0
        obtain ⟨n1, e1, _, w1⟩ := DataW.trod_int t1 g1
        simp only [List.cons.injEq, and_true] at e0 e1
        subst e0 e1
        have q0 := hcell 0 (by omega)
        have q1 := hcell 1 (by omega)
        rw [Deep.add_add] at q0 q1
        exact ⟨⟨n0, n1⟩, by simpa using q0, by simpa using q1, (bounds_i64 w0).1, (bounds_i64 w0).2, (bounds_i64 w1).1, (bounds_i64 w1).2⟩
    obtain ⟨q, hq⟩ := Deep.choose_lt each
    have hat : ∀ j, j < len → MI2.at_ ((List.range len).map q) j = q j := fun j hj => by simp [MI2.at_, hj]
    refine ⟨by omega, (List.range len).map q, by simp, fun x hx => ?_, ?_⟩
    · simp only [List.mem_map, List.mem_range] at hx
      obtain ⟨j, hj, rfl⟩ := hx
      have hj' := hq j hj
      exact hj'.2.2
    · by_cases h0 : len = 0
      · subst h0; exact ⟨.inl rfl⟩
      · obtain ⟨b, off, spot⟩ := ad
        have hc := (hq 0 (by omega)).1
        have hspot : spot = none := by simpa [Addr.add] using World.cell?_spot hc
        subst hspot
        have hadd : ∀ j, (⟨b, off, none⟩ : Addr).add j = ⟨b, off + j, none⟩ := fun j => by unfold Addr.add; split <;> simp_all
        refine ⟨.inr ⟨b, off, rfl, ?_, fun j hj => ?_⟩⟩
        · have := World.block_lt_of_cell? _ _ hc; simpa [Addr.add] using this
        · have hj' : j < len := by simpa using hj
          rw [hat j hj']
          obtain ⟨k0, k1, _⟩ := hq j hj'
          rw [hadd] at k0 k1
          exact ⟨k0, by simpa [Nat.add_assoc] using k1⟩
end Go.Proofs.Ytfkmnmiolnijaaa
