/- A slice of items that came in, opened: plain facts, over whatever program. -/
import Derived.Test.YtpcmbilhildkgaaM11
import Derived.Deep.Slices
import Derived.ChangeSame
import Derived.ChangeArms
import Derived.Lib.SmallJoins
import Derived.OpenShut
namespace Go.Proofs.Ytpcmbilhildkgaa
open Go.RowKit Go.ChangeShapes Go.WideShapes
instance : Inhabited It := ⟨M8.zero⟩
theorem items_open {H : Type} {enc : TypeId × Value → H} {P : Program} {w : World} {base : Nat} {spare : Nat → Bool} {held : Bool} {t e : TypeId} {f0 f1 f2 f3 : Field} {fuel len cap : Nat} {a : Option Addr} {x : DataW H × List MemPlace}
    (ht : P.underlying t = some (.slice e)) (he : P.underlying e = some (.struct #[f0, f1, f2, f3])) (ce : P.cellsOf e = 4) (o0 : f0.offset = 0) (o1 : f1.offset = 1) (o2 : f2.offset = 2) (o3 : f3.offset = 3)
    (t0 : P.underlying f0.type = some (.int .i64)) (t1 : P.underlying f1.type = some (.int .i64)) (t2 : P.underlying f2.type = some .string) (t3 : P.underlying f3.type = some (.int .i64))
    (c0 : P.cellsOf f0.type = 1) (c1 : P.cellsOf f1.type = 1) (c2 : P.cellsOf f2.type = 1) (c3 : P.cellsOf f3.type = 1)
    (h : DataW.trod enc P w base spare held fuel t [.slice a len cap] = some x) :
    len ≤ maxLen ∧ ∃ xs : List It, xs.length = len ∧ Hid (∀ k, k < xs.length → (M11.at_ xs k).text.size ≤ maxLen) ∧ Hid (∀ k, k < xs.length → (M11.at_ xs k).many ≤ 9223372036854775807) ∧ M11.ItemsAt w a xs := by
  rcases Deep.open_slice ht h with ⟨hcs, _⟩ | ⟨ad, l, c, m, n, D, Pl, hcs, hb, hl, hm, hmm, _, hx⟩
  · simp at hcs
    obtain ⟨rfl, rfl, rfl⟩ := hcs
    exact ⟨by unfold maxLen; omega, [], rfl, fun k hk => by simp at hk, fun k hk => by simp at hk, .inl rfl⟩
  · simp at hcs
    obtain ⟨rfl, rfl, rfl⟩ := hcs
    have hlm : len ≤ m := by rw [hmm]; split <;> omega
    have each : ∀ i, i < len → ∃ q : It, w.cell? (ad.add (i * 4)) = some (.int .i64 q.kind) ∧ w.cell? (ad.add (i * 4 + 1)) = some (.int .i64 q.num) ∧ w.cell? (ad.add (i * 4 + 2)) = some (.string q.text) ∧ w.cell? (ad.add (i * 4 + 3)) = some (.int .i64 q.many) ∧ q.text.size ≤ maxLen ∧ q.many ≤ 9223372036854775807 := by
      intro i hi
      obtain ⟨cs', h1, h2⟩ := hx i (by omega)
      rw [ce] at h1
      obtain ⟨_, hlen, hcell⟩ := World.cells?_some h1
      obtain ⟨y0, y1, y2, y3, k, _, _, g0, g1, g2, g3⟩ := Joins.trod_struct4 he h2
      match cs', hlen with
      | [v0, v1, v2, v3], _ =>
        simp only [o0, o1, o2, o3, c0, c1, c2, c3, List.drop_zero, List.drop_succ_cons, List.take_succ_cons, List.take_zero] at g0 g1 g2 g3
        obtain ⟨n0, e0, _, _⟩ := DataW.trod_int t0 g0
        obtain ⟨n1, e1, _, _⟩ := DataW.trod_int t1 g1
        obtain ⟨s2, e2, _, hs2⟩ := DataW.trod_string t2 g2
        obtain ⟨n3, e3, _, w3⟩ := DataW.trod_int t3 g3
        simp only [List.cons.injEq, and_true] at e0 e1 e2 e3
        subst e0 e1 e2 e3
        have q0 := hcell 0 (by omega)
        have q1 := hcell 1 (by omega)
        have q2 := hcell 2 (by omega)
        have q3 := hcell 3 (by omega)
        rw [Deep.add_add] at q0 q1 q2 q3
        exact ⟨⟨n0, n1, s2, n3⟩, by simpa using q0, by simpa using q1, by simpa using q2, by simpa using q3, hs2, (bounds_i64 w3).2⟩
    obtain ⟨q, hq⟩ := Deep.choose_lt each
    have hat : ∀ j, j < len → M11.at_ ((List.range len).map q) j = q j := fun j hj => by simp [M11.at_, hj]
    refine ⟨by omega, (List.range len).map q, by simp, fun j hj => ?_, fun j hj => ?_, ?_⟩
    · have hj' : j < len := by simpa using hj
      rw [hat j hj']; exact (hq j hj').2.2.2.2.1
    · have hj' : j < len := by simpa using hj
      rw [hat j hj']; exact (hq j hj').2.2.2.2.2
    · by_cases h0 : len = 0
      · subst h0; exact .inl rfl
      · obtain ⟨b, off, spot⟩ := ad
        have hc := (hq 0 (by omega)).1
        have hspot : spot = none := by simpa [Addr.add] using World.cell?_spot hc
        subst hspot
        have hadd : ∀ j, (⟨b, off, none⟩ : Addr).add j = ⟨b, off + j, none⟩ := fun j => by unfold Addr.add; split <;> simp_all
        refine .inr ⟨b, off, rfl, ?_, fun j hj => ?_⟩
        · have := World.block_lt_of_cell? _ _ hc; simpa [Addr.add] using this
        · have hj' : j < len := by simpa using hj
          rw [hat j hj']
          obtain ⟨k0, k1, k2, k3, _⟩ := hq j hj'
          rw [hadd] at k0 k1 k2 k3
          exact ⟨k0, by simpa [Nat.add_assoc] using k1, by simpa [Nat.add_assoc] using k2, by simpa [Nat.add_assoc] using k3⟩
end Go.Proofs.Ytpcmbilhildkgaa
