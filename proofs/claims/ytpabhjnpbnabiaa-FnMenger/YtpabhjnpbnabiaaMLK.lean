import Derived.Test.YtpabhjnpbnabiaaM4
import Derived.Below
import Derived.ArgAppend
import Derived.OwnWalk
import Derived.Test.YtpabhjnpbnabiaaMFM
/- Rows of structs of 2 numbers in memory: plain facts, over whatever program. -/
namespace Go.Proofs.Ytpabhjnpbnabiaa
structure I2 where
  a0 : Int
  a1 : Int
  deriving DecidableEq
def I2.cs (x : I2) : List Value := [.int .i64 x.a0, .int .i64 x.a1]
abbrev I2.v (x : I2) : Value := .agg #[.int .i64 x.a0, .int .i64 x.a1]
def I2.zero : I2 := ⟨0, 0⟩
instance : Inhabited I2 := ⟨I2.zero⟩
namespace MI2
open Go.RowKit
def flat (xs : List I2) : List Value := xs.flatMap I2.cs
theorem flat_len (xs : List I2) : (flat xs).length = xs.length * 2 := by
  induction xs with
  | nil => rfl
  | cons x xs ih => simp only [flat, List.flatMap_cons, List.length_append, List.length_cons] at *; rw [ih]; simp [I2.cs]; omega
theorem flat_app (xs ys : List I2) : flat (xs ++ ys) = flat xs ++ flat ys := by simp [flat]
def at_ (xs : List I2) (j : Nat) : I2 := xs[j]?.getD I2.zero
theorem at_eq (xs : List I2) (j : Nat) (h : j < xs.length) : at_ xs j = xs[j] := by simp [at_, List.getElem?_eq_getElem h]
theorem flat_get (xs : List I2) (j i : Nat) (h : j < xs.length) (hi : i < 2) : (flat xs)[2 * j + i]? = (at_ xs j).cs[i]? := by
  induction xs generalizing j with
  | nil => simp at h
  | cons x xs ih =>
    have hx : x.cs.length = 2 := rfl
    cases j with
    | zero =>
      show (x.cs ++ flat xs)[2 * 0 + i]? = _
      rw [List.getElem?_append_left (by omega)]
      simp [at_]
    | succ j =>
      show (x.cs ++ flat xs)[2 * (j + 1) + i]? = _
      rw [List.getElem?_append_right (by omega), hx, show 2 * (j + 1) + i - 2 = 2 * j + i from by omega, ih j (by simpa using h)]
      simp [at_]
/-- The structs xs lie at a slice's address (nothing is said of an empty slice's). -/
structure RowAt (w : World) (a : Option Addr) (xs : List I2) : Prop where
  is : xs = [] ∨ ∃ b off, a = some ⟨b, off, none⟩ ∧ b < w.heap.size ∧ ∀ j, j < xs.length →
  w.cell? ⟨b, off + j * 2, none⟩ = some (.int .i64 (at_ xs j).a0) ∧ w.cell? ⟨b, off + j * 2 + 1, none⟩ = some (.int .i64 (at_ xs j).a1)
theorem RowAt.below {w w' : World} {a : Option Addr} {xs : List I2} (h : RowAt w a xs) (hb : Below w.heap.size w w') : RowAt w' a xs := by
  rcases h.is with rfl | ⟨b, off, rfl, hlt, hc⟩
  · exact ⟨.inl rfl⟩
  · refine ⟨.inr ⟨b, off, rfl, Nat.lt_of_lt_of_le hlt hb.size, fun j hj => ?_⟩⟩
    obtain ⟨c0, c1⟩ := hc j hj
    exact ⟨(hb.cell (p := ⟨b, _, none⟩) hlt).trans c0, (hb.cell (p := ⟨b, _, none⟩) hlt).trans c1⟩
theorem RowAt.at {w : World} {a : Option Addr} {xs : List I2} (h : RowAt w a xs) {j : Nat} (hk : j < xs.length) : ∃ b off, a = some ⟨b, off, none⟩ ∧ b < w.heap.size ∧
    w.cell? ⟨b, off + j * 2, none⟩ = some (.int .i64 (at_ xs j).a0) ∧ w.cell? ⟨b, off + j * 2 + 1, none⟩ = some (.int .i64 (at_ xs j).a1) := by
  rcases h.is with rfl | ⟨b, off, rfl, hlt, hc⟩
  · simp at hk
  · exact ⟨b, off, rfl, hlt, hc j hk⟩
theorem RowAt.at0 {w : World} {g : Nat} {xs : List I2} (h : RowAt w (some ⟨g, 0, none⟩) xs) {j : Nat} (hk : j < xs.length) : g < w.heap.size ∧
    w.cell? ⟨g, j * 2, none⟩ = some (.int .i64 (at_ xs j).a0) ∧ w.cell? ⟨g, j * 2 + 1, none⟩ = some (.int .i64 (at_ xs j).a1) := by
  obtain ⟨b, off, he, hlt, c0, c1⟩ := h.at hk
  simp only [Option.some.injEq, Addr.mk.injEq] at he
  obtain ⟨rfl, rfl, -⟩ := he
  rw [Nat.zero_add] at c0 c1
  exact ⟨hlt, c0, c1⟩
/-- A row of structs that the call owns. -/
theorem RowAt.of_own {w : World} {base e g n cap : Nat} {xs : List I2} (h : w.ownsRow base e 2 (.slice (some ⟨g, 0, none⟩) n cap) n (flat xs)) : RowAt w (some ⟨g, 0, none⟩) xs := by
  have hlen : xs.length = n := by have := h.1; rw [flat_len] at this; omega
  have hc : ∀ j i, j < xs.length → i < 2 → w.cell? ⟨g, j * 2 + i, none⟩ = (at_ xs j).cs[i]? := fun j i hj hi => by
    rw [h.cellAt (j * 2 + i) (by omega), ← flat_get xs j i hj hi, Nat.mul_comm]
  refine ⟨.inr ⟨g, 0, rfl, (h.lt g rfl).2, fun j hj => ?_⟩⟩
  refine ⟨?_, ?_⟩
  · rw [Nat.zero_add]; exact hc j 0 hj (by omega)
  · rw [Nat.zero_add]; exact hc j 1 hj (by omega)
/-- The first k structs, then what lay there. -/
def mix (xs : List I2) (m : List Value) (k : Nat) : List Value := flat (xs.take k) ++ m.drop (k * 2)
theorem mix_zero (xs : List I2) (m : List Value) : mix xs m 0 = m := by simp [mix, flat]
theorem mix_all (xs : List I2) (m : List Value) (h : m.length = xs.length * 2) : mix xs m xs.length = flat xs := by simp [mix, ← h]
theorem mix_len (xs : List I2) (m : List Value) (k : Nat) (h : m.length = xs.length * 2) (hk : k ≤ xs.length) : (mix xs m k).length = xs.length * 2 := by
  simp [mix, flat_len]; omega
theorem setC (A C : List Value) (p : Nat) (hp : A.length = p) (b0 b1 c0 c1 : Value) :
    ((A ++ b0 :: b1 :: C).set (p) c0).set (p + 1) c1 = A ++ c0 :: c1 :: C := by
  subst hp
  simp
theorem some_c (l : List Value) (h : 2 ≤ l.length) : ∃ b0 b1 C, l = b0 :: b1 :: C := by
  match l, h with
  | b0 :: b1 :: C, _ => exact ⟨b0, b1, C, rfl⟩
theorem mix_set (xs : List I2) (m : List Value) (k : Nat) (h : m.length = xs.length * 2) (hk : k < xs.length) :
    ((mix xs m k).set (k * 2) (.int .i64 (at_ xs k).a0)).set (k * 2 + 1) (.int .i64 (at_ xs k).a1) = mix xs m (k + 1) := by
  obtain ⟨b0, b1, C, e⟩ := some_c (m.drop (k * 2)) (by simp; omega)
  unfold mix
  rw [e, setC _ _ (k * 2) (by rw [flat_len, List.length_take]; omega)]
  have e2 : m.drop ((k + 1) * 2) = C := by
    have : m.drop ((k + 1) * 2) = (m.drop (k * 2)).drop 2 := by rw [List.drop_drop]; congr 1; omega
    rw [this, e]; rfl
  rw [e2, List.take_succ_eq_append_getElem hk, flat_app, ← at_eq xs k hk]
  simp [flat, I2.cs]
theorem own_below {w w' : World} {base e sz n : Nat} {v : Value} {xs : List Value} (h : w.ownsRow base e sz v n xs) (hb : Below w.heap.size w w') : w'.ownsRow base e sz v n xs := by
  refine ⟨h.1, ?_⟩
  rcases h.2 with h' | ⟨g, cap, cur, h1, h2, h3, h4⟩
  · exact .inl h'
  · refine .inr ⟨g, cap, cur, h1, h2, ?_, h4⟩
    rw [hb.block g (by have := (Array.getElem?_eq_some_iff.1 h3).1; exact this)]; exact h3
theorem some_at {w : World} {base e sz g n cap : Nat} {xs : List Value} (h : w.ownsRow base e sz (.slice (some ⟨g, 0, none⟩) n cap) n xs) (j : Nat) (hj : j < n * sz) : ∃ y, w.cell? ⟨g, j, none⟩ = some y := by
  rw [h.cellAt j hj]
  exact ⟨_, List.getElem?_eq_getElem (by rw [h.1]; exact hj)⟩
theorem take_ne {xs ys : List I2} {k : Nat} (h : at_ xs k ≠ at_ ys k) : xs ≠ ys := fun e => h (by rw [e])
theorem take_eq {xs ys : List I2} {k : Nat} (hx : k < xs.length) (hy : k < ys.length) (h : xs.take k = ys.take k) (e : at_ xs k = at_ ys k) : xs.take (k + 1) = ys.take (k + 1) := by
  rw [List.take_succ_eq_append_getElem hx, List.take_succ_eq_append_getElem hy, h, ← at_eq xs k hx, ← at_eq ys k hy, e]
end MI2
end Go.Proofs.Ytpabhjnpbnabiaa

/- Links as pipes that bear one way, and the pipes that lead out: plain facts, over whatever program. -/
namespace Go.Proofs.Ytpabhjnpbnabiaa
namespace FL
/-- The numbers of the pipes that lead out of some nodes, the first k. -/
def outK (xs : List I3) (zs : List Int) : Nat → List Int
  | 0 => []
  | k + 1 => outK xs zs k ++ (if hasN zs (MI3.at_ xs k).a0 = true ∧ hasN zs (MI3.at_ xs k).a1 = false then [(k : Int)] else [])
theorem outK_yes {xs : List I3} {zs : List Int} {k : Nat} (h0 : hasN zs (MI3.at_ xs k).a0 = true) (h1 : hasN zs (MI3.at_ xs k).a1 = false) : outK xs zs (k + 1) = outK xs zs k ++ [(k : Int)] := by
  rw [outK, if_pos ⟨h0, h1⟩]
theorem outK_no {xs : List I3} {zs : List Int} {k : Nat} (h : hasN zs (MI3.at_ xs k).a0 = false ∨ hasN zs (MI3.at_ xs k).a1 = true) : outK xs zs (k + 1) = outK xs zs k := by
  rw [outK, if_neg, List.append_nil]
  rintro ⟨h0, h1⟩
  rcases h with h | h
  · rw [h] at h0; cases h0
  · rw [h] at h1; cases h1
theorem outK_len (xs : List I3) (zs : List Int) (k : Nat) : (outK xs zs k).length ≤ k := by
  induction k with
  | zero => simp [outK]
  | succ k ih => rw [outK, List.length_append]; split <;> simp <;> omega
theorem outK_mem {xs : List I3} {zs : List Int} {k : Nat} : ∀ x ∈ outK xs zs k, ∃ j : Nat, x = (j : Int) ∧ j < k := by
  induction k with
  | zero => intro x hx; simp [outK] at hx
  | succ k ih =>
    intro x hx
    rw [outK, List.mem_append] at hx
    rcases hx with hx | hx
    · obtain ⟨j, h1, h2⟩ := ih x hx; exact ⟨j, h1, by omega⟩
    · split at hx
      · rw [List.mem_singleton] at hx; exact ⟨k, hx, by omega⟩
      · cases hx
/-- What some pipes bear, the first i of the row. -/
def sumL (xs : List I3) (l : List Int) : Nat → Int
  | 0 => 0
  | i + 1 => sumL xs l i + (MI3.at_ xs (l.getD i 0).toNat).a2
theorem sumL_app (xs : List I3) (l m : List Int) : ∀ i, i ≤ l.length → sumL xs (l ++ m) i = sumL xs l i
  | 0, _ => rfl
  | i + 1, h => by
    rw [sumL, sumL, sumL_app xs l m i (by omega)]
    simp [List.getD_eq_getElem?_getD, List.getElem?_append_left (show i < l.length by omega)]
theorem sum_outK (xs : List I3) (zs : List Int) (k : Nat) : sumL xs (outK xs zs k) (outK xs zs k).length = capUp xs zs k := by
  induction k with
  | zero => rfl
  | succ k ih =>
    rw [outK, capUp]
    by_cases c : hasN zs (MI3.at_ xs k).a0 = true ∧ hasN zs (MI3.at_ xs k).a1 = false
    · rw [if_pos c, if_pos c, List.length_append]
      show sumL xs (outK xs zs k ++ [(k : Int)]) ((outK xs zs k).length + 1) = _
      rw [sumL, sumL_app xs _ _ _ (Nat.le_refl _), ih]
      simp [List.getD_eq_getElem?_getD]
    · rw [if_neg c, if_neg c, List.append_nil, ih, Int.add_zero]
/-- A row of numbers of pipes. -/
def nums (xs : List I3) (l : List Int) : Prop := ∀ i, i < l.length → ∃ j : Nat, l.getD i 0 = (j : Int) ∧ j < xs.length
theorem outK_nums (xs : List I3) (zs : List Int) : nums xs (outK xs zs xs.length) := by
  intro i hi
  have : (outK xs zs xs.length).getD i 0 ∈ outK xs zs xs.length := by
    rw [List.getD_eq_getElem?_getD, List.getElem?_eq_getElem hi]; exact List.getElem_mem hi
  exact outK_mem _ this
theorem sumL_within {xs : List I3} {l : List Int} (hg : okP xs = true) (hl : nums xs l) (i : Nat) (hi : i ≤ l.length) : 0 ≤ sumL xs l i ∧ sumL xs l i ≤ 100 * (i : Int) := by
  induction i with
  | zero => simp [sumL]
  | succ i ih =>
    have h1 := ih (by omega)
    obtain ⟨j, e, hj⟩ := hl i (by omega)
    have h3 := okP_good hg hj
    have h4 := h3.c0
    have h5 := h3.c1
    rw [sumL, e, show ((j : Nat) : Int).toNat = j from by omega]
    push_cast
    omega
end FL
namespace LK
open Go.RowKit
theorem newN (W : World) (cs : List Value) (e : TypeId) (n : Nat) (hn : W.heap.size = n) : ∀ (j : Nat) (u : Value), cs[j]? = some u → (W.alloc (.cells cs.toArray e)).cell? ((⟨n, 0, none⟩ : Addr).add j) = some u := by
  subst hn
  intro j u hj
  have hadd : (⟨W.heap.size, 0, none⟩ : Addr).add j = ⟨W.heap.size, j, none⟩ := by unfold Addr.add; split <;> simp_all
  rw [hadd, World.cell?_alloc_at _ _ _ _ (by rfl)]
  simpa using hj
theorem oneN (zs : List Int) : ∀ u : Value, u ∈ zs.map (Value.int .i64) → u.oneCell' = true := by
  intro u hu; simp at hu; obtain ⟨z, _, rfl⟩ := hu; rfl
theorem own_row {w : World} {base e n : Nat} {v : Value} {xs : List I3} (h : w.ownsRow base e 3 v n (MI3.flat xs)) : ∃ a cap, v = .slice a n cap ∧ MI3.RowAt w a xs := by
  have hlen : xs.length = n := by have := h.1; rw [MI3.flat_len] at this; omega
  rcases h.2 with ⟨rfl, h0⟩ | ⟨g, cap, cur, rfl, hb, hg, hc1, hc2, hc3, hc4⟩
  · subst h0
    exact ⟨none, 0, rfl, ⟨.inl (List.eq_nil_of_length_eq_zero hlen)⟩⟩
  · exact ⟨_, cap, rfl, MI3.RowAt.of_own h⟩
def pip1 (x : I2) : I3 := ⟨x.a0, x.a1, 1⟩
def pip (xs : List I2) : List I3 := xs.map pip1
theorem pip_len (xs : List I2) : (pip xs).length = xs.length := by simp [pip]
theorem pip_at (xs : List I2) (k : Nat) (hk : k < xs.length) : MI3.at_ (pip xs) k = pip1 (MI2.at_ xs k) := by
  rw [MI3.at_eq _ _ (by rw [pip_len]; exact hk), MI2.at_eq _ _ hk]; simp [pip]
theorem pip_take (xs : List I2) (k : Nat) : (pip xs).take k = pip (xs.take k) := by simp [pip]
theorem pip_snoc (xs : List I2) (k : Nat) (hk : k < xs.length) : pip (xs.take (k + 1)) = pip (xs.take k) ++ [pip1 (MI2.at_ xs k)] := by
  rw [MI2.at_eq _ _ hk, List.take_succ_eq_append_getElem hk]; simp only [pip, List.map_append, List.map_cons, List.map_nil]
/-- What is answered: the links to cut. -/
noncomputable def fcL (xs : List I2) (f t : Int) : List Int := if FL.ask (pip xs) f t = true then FL.outK (pip xs) (FL.mcL (pip xs) f t) xs.length else []
theorem fcL_len (xs : List I2) (f t : Int) : (fcL xs f t).length ≤ 1048576 := by
  unfold fcL; split
  · rename_i h
    have h1 := (FL.ask_is h).len
    rw [pip_len] at h1
    have := FL.outK_len (pip xs) (FL.mcL (pip xs) f t) xs.length
    omega
  · simp
structure FcC (xs : List I2) (is : Bool) (L M : List Int) : Prop where
  no : is = false → L = [] ∧ M = []
  yes : is = true → L = FL.outK (pip xs) M xs.length ∧ xs.length ≤ 20 ∧ FL.okP (pip xs) = true
theorem fcC (xs : List I2) (f t : Int) : FcC xs (FL.ask (pip xs) f t) (fcL xs f t) (FL.mcL (pip xs) f t) := by
  constructor <;> intro h
  · simp [fcL, FL.mcL, h]
  · refine ⟨by simp [fcL, h], ?_, (FL.ask_is h).ok⟩
    have := (FL.ask_is h).len; rwa [pip_len] at this
end LK
end Go.Proofs.Ytpabhjnpbnabiaa
