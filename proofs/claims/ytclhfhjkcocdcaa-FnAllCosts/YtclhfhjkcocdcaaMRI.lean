/- Costs by node, in eight cells: plain facts. -/
import Derived.Test.YtclhfhjkcocdcaaMRD
import Derived.Test.YtclhfhjkcocdcaaMA
namespace Go.Proofs.Ytclhfhjkcocdcaa
namespace RD
open Go.RowKit
def il (c : Cs) : List Value := (List.range 8).map fun i => .int .i64 (c i)
theorem il_len (c : Cs) : (il c).length = 8 := by simp [il]
theorem il_get (c : Cs) {i : Nat} (h : i < 8) : (il c)[i]? = some (.int .i64 (c i)) := by simp [il, h]
theorem il_one (c : Cs) : ∀ v ∈ il c, v.oneCell' = true := by
  intro v hv; simp only [il, List.mem_map] at hv; obtain ⟨i, _, rfl⟩ := hv; rfl
theorem il_ext {c d : Cs} (h : ∀ i, i < 8 → c i = d i) : il c = il d := List.map_congr_left fun p hp => by rw [h p (by simpa using hp)]
theorem il_set (c : Cs) (i : Nat) (b : Int) : (il c).set i (.int .i64 b) = il (put c i b) := by
  unfold il
  rw [MA.range_set]
  refine List.map_congr_left fun p _ => ?_
  unfold put; split <;> rfl
theorem rg_at {W : World} {q : Nat} {c : Cs} (h : MA.Rg W q 0 (il c)) {i : Nat} (hi : i < 8) : W.cell? ⟨q, i, none⟩ = some (.int .i64 (c i)) ∧ W.frozen? ⟨q, i, none⟩ = false := by
  have h1 := h.cell (il_get c hi)
  have h2 := h.free (j := i) (by rw [il_len]; exact hi)
  rw [Nat.zero_add] at h1 h2
  exact ⟨h1, h2⟩
theorem rg_set {W : World} {q : Nat} {c : Cs} (h : MA.Rg W q 0 (il c)) {i : Nat} (hi : i < 8) (b : Int) : MA.Rg (W.setCell ⟨q, i, none⟩ (.int .i64 b)) q 0 (il (put c i b)) := by
  have := h.put1 (j := i) (by rw [il_len]; exact hi) (.int .i64 b)
  rw [Nat.zero_add, il_set] at this; exact this
/-- Costs that one may add to. -/
structure Sm (c : Cs) : Prop where
  lo : ∀ v, -1000000 ≤ c v
  hi : ∀ v, c v ≤ 1000000000
theorem Bd.sm {B : Int} {c : Cs} (h : Bd B c) (hB : B ≤ 1000000) : Sm c := by
  refine ⟨fun v => ?_, fun v => ?_⟩ <;> (have := h v; unfold far at this; omega)
theorem ov_far {c : Cs} {r : I3} (h : c r.a0.toNat = 1000000000) : ov c r = 1000000000 := by
  have h' : c r.a0.toNat = far := h
  rw [ov, if_pos h']; rfl
theorem ov_add {c : Cs} {r : I3} (h : ¬ c r.a0.toNat = 1000000000) : ov c r = c r.a0.toNat + r.a2 := by
  have h' : ¬ c r.a0.toNat = far := h
  rw [ov, if_neg h']
/-- As far as k roads were looked at. -/
def intoN (xs : List I3) (c : Cs) (v k : Nat) : List Int := into (xs.take k) c v
theorem intoN_zero (xs : List I3) (c : Cs) (v : Nat) : intoN xs c v 0 = [] := rfl
theorem intoN_all (xs : List I3) (c : Cs) (v : Nat) : intoN xs c v xs.length = into xs c v := by rw [intoN, List.take_length]
theorem intoN_yes {xs : List I3} {c : Cs} {v k : Nat} (hk : k < xs.length) (h : (MI3.at_ xs k).a1 = (v : Int)) : intoN xs c v (k + 1) = intoN xs c v k ++ [ov c (MI3.at_ xs k)] := by
  rw [MI3.at_eq xs k hk] at *
  rw [intoN, List.take_succ_eq_append_getElem hk, into, List.filter_append, List.map_append]
  simp [h]; rfl
theorem intoN_no {xs : List I3} {c : Cs} {v k : Nat} (hk : k < xs.length) (h : ¬ (MI3.at_ xs k).a1 = (v : Int)) : intoN xs c v (k + 1) = intoN xs c v k := by
  rw [MI3.at_eq xs k hk] at *
  rw [intoN, List.take_succ_eq_append_getElem hk, into, List.filter_append, List.map_append]
  simp [h]; rfl
theorem intoN_len (xs : List I3) (c : Cs) (v k : Nat) : (intoN xs c v k).length ≤ k := by
  simp only [intoN, into, List.length_map]
  exact Nat.le_trans (List.length_filter_le _ _) (by simp; omega)
def lstN (m : Int) (os : List Int) (k : Nat) : Int := lst m (os.take k)
theorem lstN_succ (m : Int) (os : List Int) (k : Nat) (hk : k < os.length) : lstN m os (k + 1) = min (lstN m os k) (os.getD k 0) := by
  rw [lstN, List.take_succ_eq_append_getElem hk, lst, List.foldl_append, List.getD_eq_getElem?_getD, List.getElem?_eq_getElem hk]; rfl
theorem lstN_all (m : Int) (os : List Int) : lstN m os os.length = lst m os := by rw [lstN, List.take_length]
theorem own_base {w : World} {base base' e sz n : Nat} {v : Value} {xs : List Value} (h : w.ownsRow base e sz v n xs) (hb : base' ≤ base) : w.ownsRow base' e sz v n xs := by
  refine ⟨h.1, ?_⟩
  rcases h.2 with h' | ⟨g, cap, cur, h1, h2, h3⟩
  · exact .inl h'
  · exact .inr ⟨g, cap, cur, h1, by omega, h3⟩
end RD
end Go.Proofs.Ytclhfhjkcocdcaa
