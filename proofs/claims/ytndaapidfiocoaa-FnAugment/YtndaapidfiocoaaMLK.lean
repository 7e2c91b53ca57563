/- Links as pipes that bear one way, and the pipes that lead out: plain facts, over whatever program. -/
import Derived.Test.YtndaapidfiocoaaMI2
import Derived.Test.YtndaapidfiocoaaMFM
namespace Go.Proofs.Ytndaapidfiocoaa
namespace FL
/-- The numbers of the pipes that lead out of some nodes, the first k. -/
def outK (xs : List I3) (zs : List Int) : Nat → List Int
  | 0 => []
  | k + 1 => outK xs zs k ++ (if hasN zs (MI3.at_ xs k).a0 = true ∧ hasN zs (MI3.at_ xs k).a1 = false then [(k : Int)] else [])
theorem outK_yes {xs : List I3} {zs : List Int} {k : Nat} (h0 : hasN zs (MI3.at_ xs k).a0 = true) (h1 : hasN zs (MI3.at_ xs k).a1 = false) : outK xs zs (k + 1) = outK xs zs k ++ [(k : Int)] := by
  rw [outK, if_pos ⟨h0, h1⟩]
theorem outK_no {xs : List I3} {zs : List Int} {k : Nat} (h : hasN zs (MI3.at_ xs k).a0 = false ∨ hasN zs (MI3.at_ xs k).a1 = true) : outK xs zs (k + 1) = outK xs zs k := by
  rw [outK, if_neg, List.append_nil]
  rintro ⟨h0, h1⟩
  rcases h with h | h
  · rw [h] at h0; cases h0
  · rw [h] at h1; cases h1
theorem outK_len (xs : List I3) (zs : List Int) (k : Nat) : (outK xs zs k).length ≤ k := by
  induction k with
  | zero => simp [outK]
  | succ k ih => rw [outK, List.length_append]; split <;> simp <;> omega
theorem outK_mem {xs : List I3} {zs : List Int} {k : Nat} : ∀ x ∈ outK xs zs k, ∃ j : Nat, x = (j : Int) ∧ j < k := by
  induction k with
  | zero => intro x hx; simp [outK] at hx
  | succ k ih =>
    intro x hx
    rw [outK, List.mem_append] at hx
    rcases hx with hx | hx
    · obtain ⟨j, h1, h2⟩ := ih x hx; exact ⟨j, h1, by omega⟩
    · split at hx
      · rw [List.mem_singleton] at hx; exact ⟨k, hx, by omega⟩
      · cases hx
/-- What some pipes bear, the first i of the row. -/
def sumL (xs : List I3) (l : List Int) : Nat → Int
  | 0 => 0
  | i + 1 => sumL xs l i + (MI3.at_ xs (l.getD i 0).toNat).a2
theorem sumL_app (xs : List I3) (l m : List Int) : ∀ i, i ≤ l.length → sumL xs (l ++ m) i = sumL xs l i
  | 0, _ => rfl
  | i + 1, h => by
    rw [sumL, sumL, sumL_app xs l m i (by omega)]
    simp [List.getD_eq_getElem?_getD, List.getElem?_append_left (show i < l.length by omega)]
theorem sum_outK (xs : List I3) (zs : List Int) (k : Nat) : sumL xs (outK xs zs k) (outK xs zs k).length = capUp xs zs k := by
  induction k with
  | zero => rfl
  | succ k ih =>
    rw [outK, capUp]
    by_cases c : hasN zs (MI3.at_ xs k).a0 = true ∧ hasN zs (MI3.at_ xs k).a1 = false
    · rw [if_pos c, if_pos c, List.length_append]
      show sumL xs (outK xs zs k ++ [(k : Int)]) ((outK xs zs k).length + 1) = _
      rw [sumL, sumL_app xs _ _ _ (Nat.le_refl _), ih]
      simp [List.getD_eq_getElem?_getD]
    · rw [if_neg c, if_neg c, List.append_nil, ih, Int.add_zero]
/-- A row of numbers of pipes. -/
def nums (xs : List I3) (l : List Int) : Prop := ∀ i, i < l.length → ∃ j : Nat, l.getD i 0 = (j : Int) ∧ j < xs.length
theorem outK_nums (xs : List I3) (zs : List Int) : nums xs (outK xs zs xs.length) := by
  intro i hi
  have : (outK xs zs xs.length).getD i 0 ∈ outK xs zs xs.length := by
    rw [List.getD_eq_getElem?_getD, List.getElem?_eq_getElem hi]; exact List.getElem_mem hi
  exact outK_mem _ this
theorem sumL_within {xs : List I3} {l : List Int} (hg : okP xs = true) (hl : nums xs l) (i : Nat) (hi : i ≤ l.length) : 0 ≤ sumL xs l i ∧ sumL xs l i ≤ 100 * (i : Int) := by
  induction i with
  | zero => simp [sumL]
  | succ i ih =>
    have h1 := ih (by omega)
    obtain ⟨j, e, hj⟩ := hl i (by omega)
    have h3 := okP_good hg hj
    have h4 := h3.c0
    have h5 := h3.c1
    rw [sumL, e, show ((j : Nat) : Int).toNat = j from by omega]
    push_cast
    omega
end FL
namespace LK
open Go.RowKit
theorem newN (W : World) (cs : List Value) (e : TypeId) (n : Nat) (hn : W.heap.size = n) : ∀ (j : Nat) (u : Value), cs[j]? = some u → (W.alloc (.cells cs.toArray e)).cell? ((⟨n, 0, none⟩ : Addr).add j) = some u := by
  subst hn
  intro j u hj
  have hadd : (⟨W.heap.size, 0, none⟩ : Addr).add j = ⟨W.heap.size, j, none⟩ := by unfold Addr.add; split <;> simp_all
  rw [hadd, World.cell?_alloc_at _ _ _ _ (by rfl)]
  simpa using hj
theorem oneN (zs : List Int) : ∀ u : Value, u ∈ zs.map (Value.int .i64) → u.oneCell' = true := by
  intro u hu; simp at hu; obtain ⟨z, _, rfl⟩ := hu; rfl
theorem own_row {w : World} {base e n : Nat} {v : Value} {xs : List I3} (h : w.ownsRow base e 3 v n (MI3.flat xs)) : ∃ a cap, v = .slice a n cap ∧ MI3.RowAt w a xs := by
  have hlen : xs.length = n := by have := h.1; rw [MI3.flat_len] at this; omega
  rcases h.2 with ⟨rfl, h0⟩ | ⟨g, cap, cur, rfl, hb, hg, hc1, hc2, hc3, hc4⟩
  · subst h0
    exact ⟨none, 0, rfl, ⟨.inl (List.eq_nil_of_length_eq_zero hlen)⟩⟩
  · exact ⟨_, cap, rfl, MI3.RowAt.of_own h⟩
def pip1 (x : I2) : I3 := ⟨x.a0, x.a1, 1⟩
def pip (xs : List I2) : List I3 := xs.map pip1
theorem pip_len (xs : List I2) : (pip xs).length = xs.length := by simp [pip]
theorem pip_at (xs : List I2) (k : Nat) (hk : k < xs.length) : MI3.at_ (pip xs) k = pip1 (MI2.at_ xs k) := by
  rw [MI3.at_eq _ _ (by rw [pip_len]; exact hk), MI2.at_eq _ _ hk]; simp [pip]
theorem pip_take (xs : List I2) (k : Nat) : (pip xs).take k = pip (xs.take k) := by simp [pip]
theorem pip_snoc (xs : List I2) (k : Nat) (hk : k < xs.length) : pip (xs.take (k + 1)) = pip (xs.take k) ++ [pip1 (MI2.at_ xs k)] := by
  rw [MI2.at_eq _ _ hk, List.take_succ_eq_append_getElem hk]; simp only [pip, List.map_append, List.map_cons, List.map_nil]
/-- What is answered: the links to cut. -/
noncomputable def fcL (xs : List I2) (f t : Int) : List Int := if FL.ask (pip xs) f t = true then FL.outK (pip xs) (FL.mcL (pip xs) f t) xs.length else []
theorem fcL_len (xs : List I2) (f t : Int) : (fcL xs f t).length ≤ 1048576 := by
  unfold fcL; split
  · rename_i h
    have h1 := (FL.ask_is h).len
    rw [pip_len] at h1
    have := FL.outK_len (pip xs) (FL.mcL (pip xs) f t) xs.length
    omega
  · simp
structure FcC (xs : List I2) (is : Bool) (L M : List Int) : Prop where
  no : is = false → L = [] ∧ M = []
  yes : is = true → L = FL.outK (pip xs) M xs.length ∧ xs.length ≤ 20 ∧ FL.okP (pip xs) = true
theorem fcC (xs : List I2) (f t : Int) : FcC xs (FL.ask (pip xs) f t) (fcL xs f t) (FL.mcL (pip xs) f t) := by
  constructor <;> intro h
  · simp [fcL, FL.mcL, h]
  · refine ⟨by simp [fcL, h], ?_, (FL.ask_is h).ok⟩
    have := (FL.ask_is h).len; rwa [pip_len] at this
end LK
end Go.Proofs.Ytndaapidfiocoaa
