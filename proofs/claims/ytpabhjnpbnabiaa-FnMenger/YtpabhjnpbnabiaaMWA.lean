/- A row of the call's own that is cut by a third index and grows again: plain facts, over whatever program. -/
import Derived.Test.YtpabhjnpbnabiaaMNR
import Derived.Test.YtpabhjnpbnabiaaMWY
import Derived.Test.YtpabhjnpbnabiaaMRA
import Derived.ArgAppend
namespace Go.Proofs.Ytpabhjnpbnabiaa
namespace LK
open Go.RowKit
structure Wy (w : World) (B : Nat) (v : Value) (l : List Int) : Prop where
  is : ∃ g c m vs, v = .slice (some ⟨g, 0, none⟩) l.length c ∧ w.ownsRow B 3 1 (.slice (some ⟨g, 0, none⟩) m m) m vs ∧ l.length ≤ c ∧ c ≤ m ∧ vs.take l.length = M4.iv l
theorem Wy.view {w : World} {B : Nat} {v : Value} {l : List Int} (h : Wy w B v l) : ∃ g c, v = .slice (some ⟨g, 0, none⟩) l.length c ∧ B ≤ g ∧ g < w.heap.size ∧ l.length ≤ c ∧ c ≤ maxLen ∧ NR.In w B (some ⟨g, 0, none⟩) l := by
  obtain ⟨g, c, m, vs, rfl, hw, h1, h2, h3⟩ := h.is
  have := hw.lt g rfl
  have hm : m ≤ maxLen := by
    rcases hw.2 with ⟨h', _⟩ | ⟨_, cap, _, hv, _, _, h3, h4, _⟩
    · cases h'
    · cases hv; exact h4
  exact ⟨g, c, rfl, this.1, this.2, h1, by omega, ⟨.inr ⟨g, m, vs, rfl, hw, by omega, h3⟩⟩⟩
theorem Wy.below {w w' : World} {B : Nat} {v : Value} {l : List Int} (h : Wy w B v l) (hb : Below w.heap.size w w') : Wy w' B v l := by
  obtain ⟨g, c, m, vs, hv, hw, h1, h2, h3⟩ := h.is
  exact ⟨g, c, m, vs, hv, M5.own_below hw hb, h1, h2, h3⟩
theorem Wy.only {w w' : World} {B p : Nat} {v : Value} {l : List Int} (h : Wy w B v l) (ho : MC.Only p w w') (hp : p < B) : Wy w' B v l := by
  obtain ⟨g, c, m, vs, hv, hw, h1, h2, h3⟩ := h.is
  refine ⟨g, c, m, vs, hv, NR.own_only hw ho (fun e => ?_), h1, h2, h3⟩
  have := (hw.lt p e).1; omega
theorem Wy.start (w : World) : Wy (w.alloc (.cells #[] 3)) w.heap.size (.slice (some ⟨w.heap.size, 0, none⟩) 0 0) [] := by
  have := World.ownsRow_lit (base := w.heap.size) (e := 3) (size := 1) w #[] 0 (by simp) (by unfold maxLen; omega) (by simp)
  exact ⟨w.heap.size, 0, 0, [], rfl, by simpa using this, Nat.le_refl _, Nat.le_refl _, rfl⟩
/-- Cut at the i-th. -/
theorem Wy.cut {w : World} {B g c i : Nat} {l : List Int} (h : Wy w B (.slice (some ⟨g, 0, none⟩) l.length c) l) (hi : i ≤ l.length) (c' : Nat) (hc : c' = i) : Wy w B (.slice (some ⟨g, 0, none⟩) (l.take i).length c') (l.take i) := by
  obtain ⟨g', c2, m, vs, hv, hw, h1, h2, h3⟩ := h.is
  simp only [Value.slice.injEq, Option.some.injEq, Addr.mk.injEq, and_true] at hv
  obtain ⟨rfl, -, rfl⟩ := hv
  have hl : (l.take i).length = i := by simp; omega
  refine ⟨g, c', m, vs, rfl, hw, by omega, by omega, ?_⟩
  rw [hl]
  have : (vs.take l.length).take i = vs.take i := by rw [List.take_take]; congr 1; omega
  rw [← this, h3]
  simp [M4.iv]
theorem Wy.grow {P : Program} {w : World} {B : Nat} {v : Value} {l : List Int} {x : Int} {t ty : TypeId} {i : TypeInfo} {ad : Addr} (ht : P.underlying t = some (.slice 3)) (hi : P.info? 3 = some i) (hz : i.zero = some (.int .i64 0)) (hs : i.size = 1) (hby : i.bytes = 8) (h : Wy w B v l) (hB : B ≤ w.heap.size) (hl : l.length ≤ 1000) (hn : ∀ j u, [Value.int .i64 x][j]? = some u → w.cell? (ad.add j) = some u) :
    ∃ v' w', (Builtin.append_ #[t, t] ty #[v, .slice (some ad) 1 1]).run P w = .ok v' w' ∧ Wy w' B v' (l ++ [x]) ∧ w.grownBy w' v.ownBlock := by
  obtain ⟨g, c, m, vs, rfl, hw, h1, h2, h3⟩ := h.is
  have hlen := hw.1
  have hll : (l ++ [x]).length = l.length + 1 := by simp
  by_cases hr : l.length + 1 ≤ c
  · have hcell : ∀ j, j < [Value.int .i64 x].length → (w.cell? ⟨g, 0 + l.length * i.size + j, none⟩).isSome = true := fun j hj => by
      rw [hw.cellAt _ (by rw [hs]; simp at hj; omega), List.getElem?_eq_getElem (by rw [hs]; simp at hj; omega)]; rfl
    have run := run_append_room_cells (P := P) w t ty 3 i ht hi g 0 l.length c ad 1 1 [.int .i64 x] (by rw [hs]; rfl) hn (M2.one1 _ _) hr hcell (fun j hj => hw.frozenAt _)
    rw [show 0 + l.length * i.size = l.length from by rw [hs]; omega] at run
    have st := hw.stored l.length (.int .i64 x)
    refine ⟨_, _, run, ⟨g, c, m, _, by rw [hll], st.1, by omega, h2, ?_⟩, ?_⟩
    · rw [hll, List.take_succ_eq_append_getElem (by rw [List.length_set]; omega), List.take_set_of_le (Nat.le_refl _), h3, List.getElem_set_self]
      simp [M4.iv]
    · exact st.2
  · have hold : ∀ j u, (M4.iv l)[j]? = some u → w.cell? ((⟨g, 0, none⟩ : Addr).add j) = some u := fun j u hj => by
      have hjl : j < l.length := by have := (List.getElem?_eq_some_iff.1 hj).1; simpa [M4.iv] using this
      rw [show (⟨g, 0, none⟩ : Addr).add j = ⟨g, j, none⟩ from by unfold Addr.add; split <;> simp_all, hw.cellAt j (by omega)]
      have : (vs.take l.length)[j]? = vs[j]? := by rw [List.getElem?_take, if_pos hjl]
      rw [← this, h3]; exact hj
    obtain ⟨v', w', run, r1, r2⟩ := run_append_arg_grows (P := P) w t ty 3 i (.int .i64 0) 1 8 ht hi hz hs hby rfl (by decide) ⟨g, 0, none⟩ l.length c (M4.iv l) (by simp [M4.iv]) hold ad 1 1 [.int .i64 x] rfl hn (by omega) (by unfold maxLen; omega) (by omega)
    refine ⟨v', w', run, ?_, ⟨r2.os, r2.tape, r2.output, r2.size, fun k hk _ => r2.block k hk (by simp)⟩⟩
    rcases r1.2 with ⟨_, h0⟩ | ⟨g', cap', cur, rfl, hB', hg', q1, q2, q3, q4⟩
    · omega
    · refine ⟨g', cap', cap', cur.toList, by rw [hll], ⟨by simp [q3], .inr ⟨g', cap', cur, rfl, by omega, hg', Nat.le_refl _, q2, q3, ?_⟩⟩, by omega, Nat.le_refl _, ?_⟩
      · rw [List.take_of_length_le]; simp [q3]
      · rw [hll]
        simpa [M4.iv] using q4
theorem cut_take (xs : List I2) (l : List Int) (u : Int) : ∃ i, i ≤ l.length ∧ cutW xs l u = l.take i := by
  refine ⟨(cutW xs l u).length, ?_, ?_⟩
  · unfold cutW; exact (List.takeWhile_sublist _).length_le
  · unfold cutW; exact (List.prefix_iff_eq_take.1 (List.takeWhile_prefix _))
/-- Where a row is cut. -/
theorem cut_at {xs : List I2} {u : Int} : ∀ {l : List Int} {i : Nat}, i < l.length → (∀ j, j < i → (MI2.at_ xs (l.getD j 0).toNat).a0 ≠ u) → (MI2.at_ xs (l.getD i 0).toNat).a0 = u → cutW xs l u = l.take i
  | y :: l, 0, _, _, h => by unfold cutW; rw [List.takeWhile_cons, if_neg (by simpa using h)]; rfl
  | y :: l, i + 1, hi, h1, h2 => by
    have h0 := h1 0 (by omega)
    have ih := cut_at (l := l) (i := i) (by simpa using hi) (fun j hj => by simpa using h1 (j + 1) (by omega)) (by simpa using h2)
    unfold cutW at ih ⊢
    rw [List.takeWhile_cons, if_pos (by simpa using h0), ih]; rfl
theorem cut_none {xs : List I2} {u : Int} {l : List Int} (h : ∀ j, j < l.length → (MI2.at_ xs (l.getD j 0).toNat).a0 ≠ u) : cutW xs l u = l := by
  refine cut_all fun x hx => ?_
  obtain ⟨j, hj, rfl⟩ := List.mem_iff_getElem.1 hx
  have := h j hj
  rwa [List.getD_eq_getElem?_getD, List.getElem?_eq_getElem hj] at this
theorem cut_mem {xs : List I2} {u x : Int} {l : List Int} (h : x ∈ cutW xs l u) : x ∈ l := by
  unfold cutW at h; exact (List.takeWhile_sublist _).subset h
theorem ers_mem (xs : List I2) {x : Int} : ∀ (n : Nat) (w : List Int), w.length = n → x ∈ ers xs w → x ∈ w := by
  intro n
  induction n with
  | zero => intro w hw h; rw [List.eq_nil_of_length_eq_zero hw] at h; cases h
  | succ n ih =>
    intro w hw h
    have hne : w ≠ [] := fun e => by rw [e] at hw; cases hw
    rw [← List.dropLast_concat_getLast hne] at h ⊢
    rw [ers_snoc] at h
    rcases List.mem_append.1 (cut_mem h) with h | h
    · exact List.mem_append_left _ (ih _ (by simp [hw]) h)
    · exact List.mem_append_right _ h
theorem ers_len (xs : List I2) : ∀ (n : Nat) (w : List Int), w.length = n → (ers xs w).length ≤ n := by
  intro n
  induction n with
  | zero => intro w hw; rw [List.eq_nil_of_length_eq_zero hw]; simp [ers]
  | succ n ih =>
    intro w hw
    have hne : w ≠ [] := fun e => by rw [e] at hw; cases hw
    rw [← List.dropLast_concat_getLast hne, ers_snoc]
    obtain ⟨i, hi, e⟩ := cut_take xs (ers xs w.dropLast ++ [w.getLast hne]) (MI2.at_ xs (w.getLast hne).toNat).a1
    have := ih w.dropLast (by simp [hw])
    rw [e]
    simp at hi ⊢
    omega
end LK
end Go.Proofs.Ytpabhjnpbnabiaa
