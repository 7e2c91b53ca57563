import Derived.Test.YtdglialjcibbbaaM4
import Derived.Below
import Derived.ArgAppend
import Derived.OwnWalk
import Derived.Test.YtdglialjcibbbaaMSym
import Derived.Test.YtdglialjcibbbaaMPS
import Derived.Test.YtdglialjcibbbaaM5
/- Rows of structs of 2 numbers in memory: plain facts, over whatever program. -/
namespace Go.Proofs.Ytdglialjcibbbaa
structure I2 where
  a0 : Int
  a1 : Int
  deriving DecidableEq
def I2.cs (x : I2) : List Value := [.int .i64 x.a0, .int .i64 x.a1]
abbrev I2.v (x : I2) : Value := .agg #[.int .i64 x.a0, .int .i64 x.a1]
def I2.zero : I2 := ⟨0, 0⟩
instance : Inhabited I2 := ⟨I2.zero⟩
namespace MI2
open Go.RowKit
def flat (xs : List I2) : List Value := xs.flatMap I2.cs
theorem flat_len (xs : List I2) : (flat xs).length = xs.length * 2 := by
  induction xs with
  | nil => rfl
  | cons x xs ih => simp only [flat, List.flatMap_cons, List.length_append, List.length_cons] at *; rw [ih]; simp [I2.cs]; omega
theorem flat_app (xs ys : List I2) : flat (xs ++ ys) = flat xs ++ flat ys := by simp [flat]
def at_ (xs : List I2) (j : Nat) : I2 := xs[j]?.getD I2.zero
theorem at_eq (xs : List I2) (j : Nat) (h : j < xs.length) : at_ xs j = xs[j] := by simp [at_, List.getElem?_eq_getElem h]
theorem flat_get (xs : List I2) (j i : Nat) (h : j < xs.length) (hi : i < 2) : (flat xs)[2 * j + i]? = (at_ xs j).cs[i]? := by
  induction xs generalizing j with
  | nil => simp at h
  | cons x xs ih =>
    have hx : x.cs.length = 2 := rfl
    cases j with
    | zero =>
      show (x.cs ++ flat xs)[2 * 0 + i]? = _
      rw [List.getElem?_append_left (by omega)]
      simp [at_]
    | succ j =>
      show (x.cs ++ flat xs)[2 * (j + 1) + i]? = _
      rw [List.getElem?_append_right (by omega), hx, show 2 * (j + 1) + i - 2 = 2 * j + i from by omega, ih j (by simpa using h)]
      simp [at_]
/-- The structs xs lie at a slice's address (nothing is said of an empty slice's). -/
structure RowAt (w : World) (a : Option Addr) (xs : List I2) : Prop where
  is : xs = [] ∨ ∃ b off, a = some ⟨b, off, none⟩ ∧ b < w.heap.size ∧ ∀ j, j < xs.length →
  w.cell? ⟨b, off + j * 2, none⟩ = some (.int .i64 (at_ xs j).a0) ∧ w.cell? ⟨b, off + j * 2 + 1, none⟩ = some (.int .i64 (at_ xs j).a1)
theorem RowAt.below {w w' : World} {a : Option Addr} {xs : List I2} (h : RowAt w a xs) (hb : Below w.heap.size w w') : RowAt w' a xs := by
  rcases h.is with rfl | ⟨b, off, rfl, hlt, hc⟩
  · exact ⟨.inl rfl⟩
  · refine ⟨.inr ⟨b, off, rfl, Nat.lt_of_lt_of_le hlt hb.size, fun j hj => ?_⟩⟩
    obtain ⟨c0, c1⟩ := hc j hj
    exact ⟨(hb.cell (p := ⟨b, _, none⟩) hlt).trans c0, (hb.cell (p := ⟨b, _, none⟩) hlt).trans c1⟩
theorem RowAt.at {w : World} {a : Option Addr} {xs : List I2} (h : RowAt w a xs) {j : Nat} (hk : j < xs.length) : ∃ b off, a = some ⟨b, off, none⟩ ∧ b < w.heap.size ∧
    w.cell? ⟨b, off + j * 2, none⟩ = some (.int .i64 (at_ xs j).a0) ∧ w.cell? ⟨b, off + j * 2 + 1, none⟩ = some (.int .i64 (at_ xs j).a1) := by
  rcases h.is with rfl | ⟨b, off, rfl, hlt, hc⟩
  · simp at hk
  · exact ⟨b, off, rfl, hlt, hc j hk⟩
theorem RowAt.at0 {w : World} {g : Nat} {xs : List I2} (h : RowAt w (some ⟨g, 0, none⟩) xs) {j : Nat} (hk : j < xs.length) : g < w.heap.size ∧
    w.cell? ⟨g, j * 2, none⟩ = some (.int .i64 (at_ xs j).a0) ∧ w.cell? ⟨g, j * 2 + 1, none⟩ = some (.int .i64 (at_ xs j).a1) := by
  obtain ⟨b, off, he, hlt, c0, c1⟩ := h.at hk
  simp only [Option.some.injEq, Addr.mk.injEq] at he
  obtain ⟨rfl, rfl, -⟩ := he
  rw [Nat.zero_add] at c0 c1
  exact ⟨hlt, c0, c1⟩
/-- A row of structs that the call owns. -/
theorem RowAt.of_own {w : World} {base e g n cap : Nat} {xs : List I2} (h : w.ownsRow base e 2 (.slice (some ⟨g, 0, none⟩) n cap) n (flat xs)) : RowAt w (some ⟨g, 0, none⟩) xs := by
  have hlen : xs.length = n := by have := h.1; rw [flat_len] at this; omega
  have hc : ∀ j i, j < xs.length → i < 2 → w.cell? ⟨g, j * 2 + i, none⟩ = (at_ xs j).cs[i]? := fun j i hj hi => by
    rw [h.cellAt (j * 2 + i) (by omega), ← flat_get xs j i hj hi, Nat.mul_comm]
  refine ⟨.inr ⟨g, 0, rfl, (h.lt g rfl).2, fun j hj => ?_⟩⟩
  refine ⟨?_, ?_⟩
  · rw [Nat.zero_add]; exact hc j 0 hj (by omega)
  · rw [Nat.zero_add]; exact hc j 1 hj (by omega)
/-- The first k structs, then what lay there. -/
def mix (xs : List I2) (m : List Value) (k : Nat) : List Value := flat (xs.take k) ++ m.drop (k * 2)
theorem mix_zero (xs : List I2) (m : List Value) : mix xs m 0 = m := by simp [mix, flat]
theorem mix_all (xs : List I2) (m : List Value) (h : m.length = xs.length * 2) : mix xs m xs.length = flat xs := by simp [mix, ← h]
theorem mix_len (xs : List I2) (m : List Value) (k : Nat) (h : m.length = xs.length * 2) (hk : k ≤ xs.length) : (mix xs m k).length = xs.length * 2 := by
  simp [mix, flat_len]; omega
theorem setC (A C : List Value) (p : Nat) (hp : A.length = p) (b0 b1 c0 c1 : Value) :
    ((A ++ b0 :: b1 :: C).set (p) c0).set (p + 1) c1 = A ++ c0 :: c1 :: C := by
  subst hp
  simp
theorem some_c (l : List Value) (h : 2 ≤ l.length) : ∃ b0 b1 C, l = b0 :: b1 :: C := by
  match l, h with
  | b0 :: b1 :: C, _ => exact ⟨b0, b1, C, rfl⟩
theorem mix_set (xs : List I2) (m : List Value) (k : Nat) (h : m.length = xs.length * 2) (hk : k < xs.length) :
    ((mix xs m k).set (k * 2) (.int .i64 (at_ xs k).a0)).set (k * 2 + 1) (.int .i64 (at_ xs k).a1) = mix xs m (k + 1) := by
  obtain ⟨b0, b1, C, e⟩ := some_c (m.drop (k * 2)) (by simp; omega)
  unfold mix
  rw [e, setC _ _ (k * 2) (by rw [flat_len, List.length_take]; omega)]
  have e2 : m.drop ((k + 1) * 2) = C := by
    have : m.drop ((k + 1) * 2) = (m.drop (k * 2)).drop 2 := by rw [List.drop_drop]; congr 1; omega
    rw [this, e]; rfl
  rw [e2, List.take_succ_eq_append_getElem hk, flat_app, ← at_eq xs k hk]
  simp [flat, I2.cs]
theorem own_below {w w' : World} {base e sz n : Nat} {v : Value} {xs : List Value} (h : w.ownsRow base e sz v n xs) (hb : Below w.heap.size w w') : w'.ownsRow base e sz v n xs := by
  refine ⟨h.1, ?_⟩
  rcases h.2 with h' | ⟨g, cap, cur, h1, h2, h3, h4⟩
  · exact .inl h'
  · refine .inr ⟨g, cap, cur, h1, h2, ?_, h4⟩
    rw [hb.block g (by have := (Array.getElem?_eq_some_iff.1 h3).1; exact this)]; exact h3
theorem some_at {w : World} {base e sz g n cap : Nat} {xs : List Value} (h : w.ownsRow base e sz (.slice (some ⟨g, 0, none⟩) n cap) n xs) (j : Nat) (hj : j < n * sz) : ∃ y, w.cell? ⟨g, j, none⟩ = some y := by
  rw [h.cellAt j hj]
  exact ⟨_, List.getElem?_eq_getElem (by rw [h.1]; exact hj)⟩
theorem take_ne {xs ys : List I2} {k : Nat} (h : at_ xs k ≠ at_ ys k) : xs ≠ ys := fun e => h (by rw [e])
theorem take_eq {xs ys : List I2} {k : Nat} (hx : k < xs.length) (hy : k < ys.length) (h : xs.take k = ys.take k) (e : at_ xs k = at_ ys k) : xs.take (k + 1) = ys.take (k + 1) := by
  rw [List.take_succ_eq_append_getElem hx, List.take_succ_eq_append_getElem hy, h, ← at_eq xs k hx, ← at_eq ys k hy, e]
end MI2
end Go.Proofs.Ytdglialjcibbbaa

/- Jobs: plain facts, over whatever program. -/
namespace Go.Proofs.Ytdglialjcibbbaa
namespace JD
open Go.RowKit
/-- A job that there may be. -/
def okE (c : I2) : Bool := decide (1 ≤ c.a0 ∧ c.a0 ≤ 100 ∧ 1 ≤ c.a1 ∧ c.a1 ≤ 1000)
def okUp (xs : List I2) (k : Nat) : Prop := ∀ j, j < k → okE (MI2.at_ xs j) = true
def okP (xs : List I2) : Bool := decide (xs.length ≤ 10) && xs.all okE
theorem all_iff (xs : List I2) : xs.all okE = true ↔ okUp xs xs.length := by
  rw [List.all_eq_true]
  constructor
  · intro h j hj
    rw [MI2.at_eq xs j hj]; exact h _ (List.getElem_mem hj)
  · intro h x hx
    obtain ⟨j, hj, rfl⟩ := List.mem_iff_getElem.1 hx
    rw [← MI2.at_eq xs j hj]; exact h j hj
theorem okP_iff (xs : List I2) : okP xs = true ↔ xs.length ≤ 10 ∧ okUp xs xs.length := by
  unfold okP; rw [Bool.and_eq_true, decide_eq_true_eq, all_iff]
theorem okP_no_len {xs : List I2} (h : 10 < xs.length) : okP xs = false := by
  rw [Bool.eq_false_iff]; intro e; have := (okP_iff xs).1 e; omega
theorem okP_no {xs : List I2} {k : Nat} (hk : k < xs.length) (h : okE (MI2.at_ xs k) = false) : okP xs = false := by
  rw [Bool.eq_false_iff]; intro e; have := ((okP_iff xs).1 e).2 k hk; rw [h] at this; cases this
theorem okUp_succ {xs : List I2} {k : Nat} (h : okUp xs k) (hc : okE (MI2.at_ xs k) = true) : okUp xs (k + 1) := by
  intro j hj
  by_cases e : j = k
  · subst e; exact hc
  · exact h j (by omega)
/-- What a good job is. -/
structure Good (c : I2) : Prop where
  l0 : 1 ≤ c.a0
  l1 : c.a0 ≤ 100
  d0 : 1 ≤ c.a1
  d1 : c.a1 ≤ 1000
theorem good_of {c : I2} (h : okE c = true) : Good c := by
  simp only [okE, decide_eq_true_eq] at h
  obtain ⟨a, b, c, d⟩ := h
  exact ⟨a, b, c, d⟩
theorem okP_good {xs : List I2} (h : okP xs = true) {k : Nat} (hk : k < xs.length) : Good (MI2.at_ xs k) := good_of (((okP_iff xs).1 h).2 k hk)
end JD
end Go.Proofs.Ytdglialjcibbbaa

/- Jobs by rank, stable; the fewest late: plain facts, over whatever program. -/
namespace Go.Proofs.Ytdglialjcibbbaa
namespace JD
open Go.RowKit
/-- Rank by rank, each rank's as they stood. -/
def srt (r : Int → Nat) (zs : List Int) : Nat → List Int
  | 0 => []
  | k + 1 => srt r zs k ++ zs.filter (fun z => decide (r z = k))
theorem range_get (zs : List Int) : (List.range zs.length).map (fun k => zs.getD k 0) = zs := by
  apply List.ext_getElem?
  intro k
  by_cases hk : k < zs.length
  · simp [hk]
  · simp [hk]
theorem srt_is (r : Int → Nat) (zs : List Int) : ∀ m, (MSym.byCost (fun k => r (zs.getD k 0)) zs.length m).map (fun k => zs.getD k 0) = srt r zs m
  | 0 => rfl
  | m + 1 => by
    rw [MSym.byCost, srt, List.map_append, srt_is r zs m]
    congr 1
    have := List.filter_map (f := fun k => zs.getD k 0) (p := fun z => decide (r z = m)) (l := List.range zs.length)
    rw [range_get] at this
    rw [this]
    rfl
theorem srt_mem (r : Int → Nat) (zs : List Int) : ∀ m z, z ∈ srt r zs m ↔ z ∈ zs ∧ r z < m
  | 0, z => by simp [srt]
  | m + 1, z => by
    simp only [srt, List.mem_append, srt_mem r zs m, List.mem_filter, decide_eq_true_eq]
    constructor
    · rintro (⟨a, b⟩ | ⟨a, b⟩)
      · exact ⟨a, by omega⟩
      · exact ⟨a, by omega⟩
    · rintro ⟨a, b⟩
      by_cases h : r z = m
      · exact .inr ⟨a, h⟩
      · exact .inl ⟨a, by omega⟩
theorem srt_nodup (r : Int → Nat) {zs : List Int} (h : zs.Nodup) : ∀ m, (srt r zs m).Nodup
  | 0 => List.nodup_nil
  | m + 1 => by
    rw [srt, List.nodup_append]
    refine ⟨srt_nodup r h m, h.filter _, fun a ha b hb e => ?_⟩
    subst e
    have h1 := ((srt_mem r zs m a).1 ha).2
    have h2 := (List.mem_filter.1 hb).2
    simp only [decide_eq_true_eq] at h2
    omega
theorem srt_nil (r : Int → Nat) : ∀ m, srt r [] m = []
  | 0 => rfl
  | m + 1 => by rw [srt, srt_nil r m]; rfl
theorem filter_len (r : Int → Nat) (m : Nat) : ∀ zs : List Int, (zs.filter (fun z => decide (r z < m))).length + (zs.filter (fun z => decide (r z = m))).length = (zs.filter (fun z => decide (r z < m + 1))).length
  | [] => rfl
  | z :: zs => by
    have := filter_len r m zs
    by_cases h : r z < m
    · simp only [List.filter_cons, decide_eq_true h, decide_eq_false (show ¬ r z = m by omega), decide_eq_true (show r z < m + 1 by omega), if_true, List.length_cons]
      simp; omega
    · by_cases h2 : r z = m
      · simp only [List.filter_cons, decide_eq_false h, decide_eq_true h2, decide_eq_true (show r z < m + 1 by omega), if_true, List.length_cons]
        simp; omega
      · simp only [List.filter_cons, decide_eq_false h, decide_eq_false h2, decide_eq_false (show ¬ r z < m + 1 by omega)]
        simp; omega
theorem srt_len (r : Int → Nat) (zs : List Int) : ∀ m, (srt r zs m).length = (zs.filter (fun z => decide (r z < m))).length
  | 0 => by rw [List.filter_eq_nil_iff.2 (fun z _ => by simp)]; rfl
  | m + 1 => by rw [srt, List.length_append, srt_len r zs m, filter_len]
theorem srt_all (r : Int → Nat) {zs : List Int} {m : Nat} (h : ∀ z, z ∈ zs → r z < m) : (srt r zs m).length = zs.length := by
  rw [srt_len, List.filter_eq_self.2 (fun z hz => decide_eq_true (h z hz))]
theorem srt_snoc (r : Int → Nat) (zs : List Int) (k : Int) : ∀ m, srt r (zs ++ [k]) m = srt r zs (min m (r k + 1)) ++ (if r k < m then [k] else []) ++ (srt r zs m).drop (srt r zs (min m (r k + 1))).length
  | 0 => by simp [srt]
  | m + 1 => by
    rw [srt, srt_snoc r zs k m, List.filter_append]
    by_cases h : r k < m
    · rw [Nat.min_eq_right (by omega), Nat.min_eq_right (by omega), if_pos h, if_pos (by omega)]
      have e : decide (r k = m) = false := decide_eq_false (by omega)
      have hp : (srt r zs (r k + 1)).length ≤ (srt r zs m).length := by
        obtain ⟨d, hd⟩ : ∃ d, m = r k + 1 + d := ⟨m - (r k + 1), by omega⟩
        rw [hd]; clear hd e
        induction d with
        | zero => exact Nat.le_refl _
        | succ d ih => rw [← Nat.add_assoc, show srt r zs (r k + 1 + d + 1) = srt r zs (r k + 1 + d) ++ zs.filter (fun z => decide (r z = r k + 1 + d)) from rfl, List.length_append]; omega
      rw [show srt r zs (m + 1) = srt r zs m ++ zs.filter (fun z => decide (r z = m)) from rfl, List.drop_append_of_le_length hp]
      simp [e]
    · rw [Nat.min_eq_left (by omega), Nat.min_eq_left (by omega), if_neg h, List.drop_of_length_le (Nat.le_refl _), List.drop_of_length_le (Nat.le_refl _)]
      by_cases h2 : r k = m
      · rw [if_pos (by omega)]
        simp [srt, h2]
      · rw [if_neg (by omega)]
        simp [srt, h2]
theorem srt_up (r : Int → Nat) (zs : List Int) {k m : Nat} (h : k ≤ m) : srt r zs m = srt r zs k ++ (srt r zs m).drop (srt r zs k).length ∧ ∀ z, z ∈ (srt r zs m).drop (srt r zs k).length → k ≤ r z := by
  obtain ⟨d, rfl⟩ : ∃ d, m = k + d := ⟨m - k, by omega⟩
  clear h
  induction d with
  | zero => simp
  | succ d ih =>
    obtain ⟨e, hh⟩ := ih
    have hl : (srt r zs k).length ≤ (srt r zs (k + d)).length := by rw [e, List.length_append]; omega
    rw [← Nat.add_assoc, srt, List.drop_append_of_le_length hl]
    refine ⟨?_, fun z hz => ?_⟩
    · rw [← List.append_assoc, ← e]
    · rcases List.mem_append.1 hz with hz | hz
      · exact hh z hz
      · have := (List.mem_filter.1 hz).2
        simp only [decide_eq_true_eq] at this
        omega
/-- One more, behind all that are not above it. -/
theorem srt_put (r : Int → Nat) (zs : List Int) (k : Int) {m : Nat} (hk : r k < m) (i : Nat) (hi : i ≤ (srt r zs m).length) (h1 : ∀ j, j < i → r ((srt r zs m).getD j 0) ≤ r k) (h2 : i < (srt r zs m).length → ¬ r ((srt r zs m).getD i 0) ≤ r k) :
    srt r (zs ++ [k]) m = (srt r zs m).take i ++ k :: (srt r zs m).drop i := by
  rw [srt_snoc, if_pos hk, Nat.min_eq_right (by omega)]
  obtain ⟨e, hh⟩ := srt_up r zs (k := r k + 1) (m := m) (by omega)
  have hL : (srt r zs (r k + 1)).length = i := by
    rcases Nat.lt_trichotomy (srt r zs (r k + 1)).length i with h | h | h
    · exfalso
      have a := h1 _ h
      have hlt : (srt r zs (r k + 1)).length < (srt r zs m).length := by omega
      have hm : (srt r zs m).getD (srt r zs (r k + 1)).length 0 ∈ (srt r zs m).drop (srt r zs (r k + 1)).length := by
        rw [List.getD_eq_getElem?_getD, List.getElem?_eq_getElem hlt, List.drop_eq_getElem_cons hlt]
        exact List.mem_cons_self
      have := hh _ hm
      omega
    · exact h
    · exfalso
      have hlt : i < (srt r zs m).length := by rw [e, List.length_append]; omega
      refine h2 hlt ?_
      have hm : (srt r zs m).getD i 0 ∈ srt r zs (r k + 1) := by
        rw [e, List.getD_eq_getElem?_getD, List.getElem?_append_left h, List.getElem?_eq_getElem h]
        exact List.getElem_mem h
      have := ((srt_mem r zs _ _).1 hm).2
      omega
  have hT : (srt r zs m).take i = srt r zs (r k + 1) := by
    rw [e, List.take_append_of_le_length (by omega), ← hL, List.take_length]
  rw [hT, hL]
  simp
theorem srt_filter (r : Int → Nat) (p : Int → Bool) (zs : List Int) : ∀ m, (srt r zs m).filter p = srt r (zs.filter p) m
  | 0 => rfl
  | m + 1 => by
    rw [srt, srt, List.filter_append, srt_filter r p zs m, List.filter_filter, List.filter_filter]
    congr 1
    apply List.filter_congr
    intro z _
    exact Bool.and_comm _ _
/-- Two ranks. -/
theorem srt_two (r : Int → Nat) (p : Int → Bool) (zs : List Int) (h : ∀ z, r z = if p z = true then 0 else 1) : srt r zs 2 = zs.filter p ++ zs.filter (fun z => !p z) := by
  simp only [srt, List.nil_append]
  congr 1
  · apply List.filter_congr
    intro z _
    rw [h z]; cases p z <;> simp
  · apply List.filter_congr
    intro z _
    rw [h z]; cases p z <;> simp
/-- The last of those that are greatest among the first k. -/
def lmx (r : Int → Nat) (t : List Int) : Nat → Nat
  | 0 => 0
  | k + 1 => if r (t.getD (lmx r t k) 0) ≤ r (t.getD k 0) then k else lmx r t k
theorem lmx_is (r : Int → Nat) (t : List Int) : ∀ n, 0 < n → lmx r t n < n ∧ (∀ j, j < n → r (t.getD j 0) ≤ r (t.getD (lmx r t n) 0)) ∧ ∀ j, lmx r t n < j → j < n → r (t.getD j 0) < r (t.getD (lmx r t n) 0)
  | 0, h => by omega
  | n + 1, _ => by
    by_cases hn : n = 0
    · subst hn
      have e : lmx r t 1 = 0 := by simp [lmx]
      rw [show (0 + 1 : Nat) = 1 from rfl, e]
      refine ⟨by omega, fun j hj => ?_, fun j h1 h2 => by omega⟩
      obtain rfl : j = 0 := by omega
      exact Nat.le_refl _
    · obtain ⟨a, b, c⟩ := lmx_is r t n (by omega)
      rw [lmx]
      split
      · rename_i h
        refine ⟨by omega, fun j hj => ?_, fun j h1 h2 => by omega⟩
        by_cases e : j = n
        · subst e; exact Nat.le_refl _
        · have := b j (by omega); omega
      · rename_i h
        refine ⟨by omega, fun j hj => ?_, fun j h1 h2 => ?_⟩
        · by_cases e : j = n
          · subst e; omega
          · exact b j (by omega)
        · by_cases e : j = n
          · subst e; omega
          · exact c j h1 (by omega)
theorem lmx_lt (r : Int → Nat) (t : List Int) {n : Nat} (h : 0 < n) : lmx r t n < n := (lmx_is r t n h).1
theorem srt_none (r : Int → Nat) {zs : List Int} {k : Nat} (h : ∀ z, z ∈ zs → r z < k) : ∀ d, srt r zs (k + d) = srt r zs k
  | 0 => rfl
  | d + 1 => by
    rw [← Nat.add_assoc, srt, srt_none r h d]
    rw [List.filter_eq_nil_iff.2 (fun z hz => by have := h z hz; simp; omega), List.append_nil]
/-- The last by rank is the last of the greatest. -/
theorem srt_last (r : Int → Nat) (t : List Int) {m : Nat} (hm : ∀ z, z ∈ t → r z < m) (ht : 0 < t.length) : (srt r t m).getD ((srt r t m).length - 1) 0 = t.getD (lmx r t t.length) 0 := by
  obtain ⟨a, b, c⟩ := lmx_is r t t.length ht
  generalize lmx r t t.length = p at *
  have hp : t.getD p 0 = t[p] := by rw [List.getD_eq_getElem?_getD, List.getElem?_eq_getElem a]; rfl
  have hpm : t.getD p 0 ∈ t := by rw [hp]; exact List.getElem_mem a
  have hrm := hm _ hpm
  obtain ⟨d, hd⟩ : ∃ d, m = r (t.getD p 0) + 1 + d := ⟨m - (r (t.getD p 0) + 1), by omega⟩
  have hall : ∀ z, z ∈ t → r z < r (t.getD p 0) + 1 := fun z hz => by
    obtain ⟨j, hj, rfl⟩ := List.mem_iff_getElem.1 hz
    have := b j hj
    rw [List.getD_eq_getElem?_getD, List.getElem?_eq_getElem hj] at this
    simp only [Option.getD_some] at this
    omega
  have es : t = t.take p ++ t.getD p 0 :: t.drop (p + 1) := by
    rw [hp, ← List.drop_eq_getElem_cons a, List.take_append_drop]
  have e1 : (t.drop (p + 1)).filter (fun z => decide (r z = r (t.getD p 0))) = [] := by
    rw [List.filter_eq_nil_iff]
    intro z hz
    obtain ⟨j, hj, rfl⟩ := List.mem_iff_getElem.1 hz
    rw [List.length_drop] at hj
    have := c (p + 1 + j) (by omega) (by omega)
    have e9 : t.getD (p + 1 + j) 0 = t[p + 1 + j]'(by omega) := by rw [List.getD_eq_getElem?_getD, List.getElem?_eq_getElem (show p + 1 + j < t.length by omega)]; rfl
    rw [e9] at this
    rw [List.getElem_drop, decide_eq_true_eq]
    omega
  have e2 : t.filter (fun z => decide (r z = r (t.getD p 0))) = (t.take p).filter (fun z => decide (r z = r (t.getD p 0))) ++ [t.getD p 0] := by
    generalize t.getD p 0 = x at *
    conv => lhs; rw [es]
    rw [List.filter_append, List.filter_cons, e1]; simp
  rw [hd, srt_none r hall d, srt, e2, ← List.append_assoc, List.getD_eq_getElem?_getD, List.length_append]
  simp
/-- One job more by due time; what is too much is dropped. -/
def mst (lg : Int → Nat) (du : Int → Int) (t : List Int) (k : Int) : List Int :=
  if (((t ++ [k]).map fun z => (lg z : Int)).sum) ≤ du k then t ++ [k] else (t ++ [k]).eraseIdx (lmx lg (t ++ [k]) (t ++ [k]).length)
def mos (lg : Int → Nat) (du : Int → Int) (ks : List Int) : List Int := ks.foldl (mst lg du) []
theorem mos_snoc (lg : Int → Nat) (du : Int → Int) (ks : List Int) (k : Int) : mos lg du (ks ++ [k]) = mst lg du (mos lg du ks) k := by simp [mos, List.foldl_append]
theorem mos_sub (lg : Int → Nat) (du : Int → Int) (ks : List Int) : ∀ n, n ≤ ks.length → (mos lg du (ks.take n)).Sublist (ks.take n)
  | 0, _ => by simp [mos]
  | n + 1, h => by
    rw [List.take_succ_eq_append_getElem (by omega), mos_snoc]
    have ih := mos_sub lg du ks n (by omega)
    unfold mst
    split
    · exact List.Sublist.append ih (List.Sublist.refl _)
    · exact (List.eraseIdx_sublist _ _).trans (List.Sublist.append ih (List.Sublist.refl _))
theorem erase_is (t : List Int) (p : Nat) : t.eraseIdx p = t.take p ++ t.drop (p + 1) := List.eraseIdx_eq_take_drop_succ t p
end JD
end Go.Proofs.Ytdglialjcibbbaa

/- Jobs by due time, as numbers in rows that the call owns: plain facts. -/
namespace Go.Proofs.Ytdglialjcibbbaa
namespace JD
open Go.RowKit
/-- The numbers below n. -/
def nums (n : Nat) : List Int := (List.range n).map fun k : Nat => (k : Int)
theorem nums_len (n : Nat) : (nums n).length = n := by simp [nums]
theorem nums_succ (n : Nat) : nums (n + 1) = nums n ++ [(n : Int)] := by simp [nums, List.range_succ]
theorem nums_mem (n : Nat) (z : Int) : z ∈ nums n ↔ 0 ≤ z ∧ z < n := by
  simp only [nums, List.mem_map, List.mem_range]
  constructor
  · rintro ⟨k, hk, rfl⟩; omega
  · rintro ⟨h0, h1⟩; exact ⟨z.toNat, by omega, by omega⟩
theorem nums_nodup (n : Nat) : (nums n).Nodup := by
  unfold nums
  refine List.Pairwise.map _ (fun a b h e => h (by exact Int.ofNat.inj e)) (List.nodup_range (n := n))
/-- What a job's rank is by due time, by length. -/
def dueN (xs : List I2) (z : Int) : Nat := (MI2.at_ xs z.toNat).a1.toNat
def lngN (xs : List I2) (z : Int) : Nat := (MI2.at_ xs z.toNat).a0.toNat
theorem due_is {xs : List I2} (h : okP xs = true) {z : Int} (h0 : 0 ≤ z) (h1 : z < xs.length) : (MI2.at_ xs z.toNat).a1 = (dueN xs z : Int) := by
  have := (okP_good h (k := z.toNat) (by omega)).d0
  unfold dueN; omega
theorem lng_is {xs : List I2} (h : okP xs = true) {z : Int} (h0 : 0 ≤ z) (h1 : z < xs.length) : (MI2.at_ xs z.toNat).a0 = (lngN xs z : Int) := by
  have := (okP_good h (k := z.toNat) (by omega)).l0
  unfold lngN; omega
theorem due_lt {xs : List I2} (h : okP xs = true) {z : Int} (h0 : 0 ≤ z) (h1 : z < xs.length) : dueN xs z < 1001 := by
  have := (okP_good h (k := z.toNat) (by omega)).d1
  unfold dueN; omega
theorem lng_lt {xs : List I2} (h : okP xs = true) {z : Int} (h0 : 0 ≤ z) (h1 : z < xs.length) : lngN xs z < 1001 := by
  have := (okP_good h (k := z.toNat) (by omega)).l1
  unfold lngN; omega
/-- All jobs by due time. -/
def byD (xs : List I2) : List Int := srt (dueN xs) (nums xs.length) 1001
theorem byD_len {xs : List I2} (h : okP xs = true) : (byD xs).length = xs.length := by
  unfold byD
  rw [srt_all, nums_len]
  intro z hz
  have := (nums_mem _ _).1 hz
  exact due_lt h this.1 this.2
theorem byD_mem {xs : List I2} (h : okP xs = true) (z : Int) : z ∈ byD xs ↔ 0 ≤ z ∧ z < xs.length := by
  unfold byD
  rw [srt_mem, nums_mem]
  exact ⟨fun k => k.1, fun k => ⟨k, due_lt h k.1 k.2⟩⟩
theorem byD_nodup (xs : List I2) : (byD xs).Nodup := srt_nodup _ (nums_nodup _) _
theorem getD_mem {zs : List Int} {k : Nat} (h : k < zs.length) : zs.getD k 0 ∈ zs := by
  rw [List.getD_eq_getElem?_getD, List.getElem?_eq_getElem h]; exact List.getElem_mem h
theorem nat_at {n : Nat} {zs : List Int} (hr : ∀ z, z ∈ zs → 0 ≤ z ∧ z < n) {k : Nat} (h : k < zs.length) : ∃ z : Nat, zs.getD k 0 = (z : Int) ∧ z < n := by
  obtain ⟨h0, h1⟩ := hr _ (getD_mem h)
  exact ⟨(zs.getD k 0).toNat, by omega, by omega⟩
theorem srtk_len {xs : List I2} (hg : okP xs = true) {zs : List Int} (hr : ∀ z, z ∈ zs → 0 ≤ z ∧ z < xs.length) {k : Nat} (hk : k ≤ zs.length) : (srt (dueN xs) (zs.take k) 1001).length = k := by
  rw [srt_all, List.length_take]
  · omega
  · intro z hz
    have := hr z (List.mem_of_mem_take hz)
    exact due_lt hg this.1 this.2
theorem srtk_at {xs : List I2} (hg : okP xs = true) {zs : List Int} (hr : ∀ z, z ∈ zs → 0 ≤ z ∧ z < xs.length) {k j : Nat} (hk : k ≤ zs.length) (hj : j < k) : ∃ p : Nat, (srt (dueN xs) (zs.take k) 1001).getD j 0 = (p : Int) ∧ p < xs.length :=
  nat_at (fun z hz => hr z (List.mem_of_mem_take ((srt_mem _ _ _ _).1 hz).1)) (by rw [srtk_len hg hr hk]; exact hj)
theorem own_le {w : World} {base base' e sz n : Nat} {v : Value} {xs : List Value} (h : w.ownsRow base' e sz v n xs) (hb : base ≤ base') : w.ownsRow base e sz v n xs := by
  refine ⟨h.1, ?_⟩
  rcases h.2 with hn | ⟨g', cap', cur, e1, e2, rest⟩
  · exact .inl hn
  · exact .inr ⟨g', cap', cur, e1, Nat.le_trans hb e2, rest⟩
theorem own_slice {w : World} {base e sz n : Nat} {v : Value} {xs : List Value} (h : w.ownsRow base e sz v n xs) : ∃ a c, v = .slice a n c := by
  rcases h.2 with ⟨rfl, h0⟩ | ⟨g', cap', cur, e1, _⟩
  · exact ⟨none, 0, by rw [h0]⟩
  · exact ⟨_, _, e1⟩
theorem own_some {w : World} {base e sz n c : Nat} {a : Option Addr} {xs : List Value} (h : w.ownsRow base e sz (.slice a n c) n xs) (hn : 0 < n) : ∃ g, a = some ⟨g, 0, none⟩ := by
  rcases h.2 with ⟨_, h0⟩ | ⟨g', cap', cur, e1, _⟩
  · omega
  · simp only [Value.slice.injEq] at e1
    exact ⟨g', e1.1⟩
theorem own_cap {w : World} {base e sz n c : Nat} {a : Addr} {xs : List Value} (h : w.ownsRow base e sz (.slice (some a) n c) n xs) : n ≤ c ∧ c ≤ maxLen := by
  rcases h.2 with ⟨h, _⟩ | ⟨g', c', cur, hv, _, _, h1, h2, _⟩
  · cases h
  · cases hv; exact ⟨h1, h2⟩
theorem own_zero {w : World} {base e sz n c : Nat} {xs : List Value} (h : w.ownsRow base e sz (.slice none n c) n xs) : n = 0 ∧ c = 0 := by
  rcases h.2 with ⟨h, h0⟩ | ⟨g', cap', cur, e1, _⟩
  · simp only [Value.slice.injEq] at h; exact ⟨h0, h.2.2⟩
  · cases e1
theorem own_some2 {w : World} {base e sz n c : Nat} {a : Option Addr} {xs : List Value} (h : w.ownsRow base e sz (.slice a n c) n xs) (hn : a ≠ none) : ∃ g, a = some ⟨g, 0, none⟩ := by
  rcases h.2 with ⟨h1, h0⟩ | ⟨g', cap', cur, e1, _⟩
  · simp only [Value.slice.injEq] at h1; exact absurd h1.1 hn
  · simp only [Value.slice.injEq] at e1
    exact ⟨g', e1.1⟩
theorem own_cells {w : World} {base g n c : Nat} {zs : List Int} (h : w.ownsRow base 3 1 (.slice (some ⟨g, 0, none⟩) n c) n (M4.iv zs)) : ∀ j u, (M4.iv zs)[j]? = some u → w.cell? ((⟨g, 0, none⟩ : Addr).add j) = some u := by
  intro j u hj
  have hjl : j < n := by have h1 := (List.getElem?_eq_some_iff.1 hj).1; have := h.1; omega
  have e : (⟨g, 0, none⟩ : Addr).add j = ⟨g, 0 + j, none⟩ := by unfold Addr.add; split <;> simp_all
  rw [e, Nat.zero_add, h.cellAt j (by omega)]
  exact hj
theorem cell_at {w : World} {base g n c : Nat} {zs : List Int} (h : w.ownsRow base 3 1 (.slice (some ⟨g, 0, none⟩) n c) n (M4.iv zs)) {k : Nat} (hk : k < n) : w.cell? ⟨g, k, none⟩ = some (.int .i64 (zs.getD k 0)) := by
  have hl : zs.length = n := by have := h.1; simpa [M4.iv] using this
  obtain ⟨b, off, hb, _, hc⟩ := (M4.IntsAt.of_own h).at (k := k) (by omega)
  cases hb
  rw [Nat.zero_add] at hc
  exact hc
end JD
end Go.Proofs.Ytdglialjcibbbaa
