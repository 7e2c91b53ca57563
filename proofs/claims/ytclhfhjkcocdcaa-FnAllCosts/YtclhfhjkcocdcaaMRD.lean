/- Roads: plain facts, over whatever program. -/
import Derived.Test.YtclhfhjkcocdcaaMI3
namespace Go.Proofs.Ytclhfhjkcocdcaa
namespace RD
open Go.RowKit
/-- A road that there may be. -/
def okE (c : I3) : Bool := decide (0 ≤ c.a0 ∧ c.a0 ≤ 7 ∧ 0 ≤ c.a1 ∧ c.a1 ≤ 7 ∧ c.a0 ≠ c.a1 ∧ -100 ≤ c.a2 ∧ c.a2 ≤ 100)
def okUp (xs : List I3) (k : Nat) : Prop := ∀ j, j < k → okE (MI3.at_ xs j) = true
def okP (xs : List I3) : Bool := decide (xs.length ≤ 20) && xs.all okE
theorem all_iff (xs : List I3) : xs.all okE = true ↔ okUp xs xs.length := by
  rw [List.all_eq_true]
  constructor
  · intro h j hj
    rw [MI3.at_eq xs j hj]; exact h _ (List.getElem_mem hj)
  · intro h x hx
    obtain ⟨j, hj, rfl⟩ := List.mem_iff_getElem.1 hx
    rw [← MI3.at_eq xs j hj]; exact h j hj
theorem okP_iff (xs : List I3) : okP xs = true ↔ xs.length ≤ 20 ∧ okUp xs xs.length := by
  unfold okP; rw [Bool.and_eq_true, decide_eq_true_eq, all_iff]
theorem okP_no_len {xs : List I3} (h : 20 < xs.length) : okP xs = false := by
  rw [Bool.eq_false_iff]; intro e; have := (okP_iff xs).1 e; omega
theorem okP_no {xs : List I3} {k : Nat} (hk : k < xs.length) (h : okE (MI3.at_ xs k) = false) : okP xs = false := by
  rw [Bool.eq_false_iff]; intro e; have := ((okP_iff xs).1 e).2 k hk; rw [h] at this; cases this
theorem okUp_succ {xs : List I3} {k : Nat} (h : okUp xs k) (hc : okE (MI3.at_ xs k) = true) : okUp xs (k + 1) := by
  intro j hj
  by_cases e : j = k
  · subst e; exact hc
  · exact h j (by omega)
/-- What a good road is. -/
structure Good (c : I3) : Prop where
  f0 : 0 ≤ c.a0
  f1 : c.a0 ≤ 7
  t0 : 0 ≤ c.a1
  t1 : c.a1 ≤ 7
  ne : c.a0 ≠ c.a1
  c0 : -100 ≤ c.a2
  c1 : c.a2 ≤ 100
theorem good_of {c : I3} (h : okE c = true) : Good c := by
  simp only [okE, decide_eq_true_eq] at h
  obtain ⟨a, b, c, d, e, f, g⟩ := h
  exact ⟨a, b, c, d, e, f, g⟩
theorem okP_good {xs : List I3} (h : okP xs = true) {k : Nat} (hk : k < xs.length) : Good (MI3.at_ xs k) := good_of (((okP_iff xs).1 h).2 k hk)
/-- Costs by node; far is nobody's cost. -/
abbrev Cs := Nat → Int
def far : Int := 1000000000
def put (f : Cs) (i : Nat) (v : Int) : Cs := fun p => if p = i then v else f p
def ov (c : Cs) (r : I3) : Int := if c r.a0.toNat = far then far else c r.a0.toNat + r.a2
def lst (m : Int) (os : List Int) : Int := os.foldl min m
def into (xs : List I3) (c : Cs) (v : Nat) : List Int := (xs.filter fun r => decide (r.a1 = (v : Int))).map (ov c)
/-- One road on, from all nodes at once. -/
def jac (xs : List I3) (c : Cs) : Cs := fun v => lst (c v) (into xs c v)
def jk (xs : List I3) : Nat → Cs → Cs
  | 0, c => c
  | n + 1, c => jac xs (jk xs n c)
def same8 (c d : Cs) : Bool := (List.range 8).all fun v => c v == d v
/-- The program's: settled within so many rounds. -/
def settle (xs : List I3) : Nat → Cs → Cs × Bool
  | 0, c => (c, false)
  | n + 1, c => if same8 (jac xs c) c then (c, true) else settle xs n (jac xs c)
/-- The specification's: road by road. -/
def low (c : Cs) (r : I3) : Bool := decide (c r.a0.toNat < far) && decide (c r.a0.toNat + r.a2 < c r.a1.toNat)
def rel (c : Cs) (r : I3) : Cs := if low c r then put c r.a1.toNat (c r.a0.toNat + r.a2) else c
def pas (xs : List I3) (c : Cs) : Cs := xs.foldl rel c
def chg : List I3 → Cs → Bool
  | [], _ => false
  | r :: xs, c => low c r || chg xs (rel c r)
def relax (xs : List I3) : Nat → Cs → Cs × Bool
  | 0, c => (c, true)
  | n + 1, c => if chg xs c then relax xs n (pas xs c) else (pas xs c, false)
def gk (xs : List I3) : Nat → Cs → Cs
  | 0, c => c
  | n + 1, c => pas xs (gk xs n c)
/-- Costs that are far, or within B. -/
def Bd (B : Int) (c : Cs) : Prop := ∀ v, c v = far ∨ (-B ≤ c v ∧ c v ≤ B)
def Le (c d : Cs) : Prop := ∀ v, c v ≤ d v
def Gd (xs : List I3) : Prop := ∀ r, r ∈ xs → Good r
/-- No road makes anything cheaper. -/
def Fe (xs : List I3) (c : Cs) : Prop := ∀ r, r ∈ xs → c r.a1.toNat ≤ ov c r
theorem Le.refl (c : Cs) : Le c c := fun _ => Int.le_refl _
theorem Le.trans {a b c : Cs} (h : Le a b) (h' : Le b c) : Le a c := fun v => Int.le_trans (h v) (h' v)
theorem Le.anti {a b : Cs} (h : Le a b) (h' : Le b a) : a = b := funext fun v => Int.le_antisymm (h v) (h' v)
theorem Bd.mono {B B' : Int} {c : Cs} (h : Bd B c) (hb : B ≤ B') : Bd B' c := fun v => (h v).imp id fun h => by omega
theorem lst_le (os : List Int) : ∀ m : Int, lst m os ≤ m := by
  induction os with
  | nil => intro m; exact Int.le_refl _
  | cons o os ih => intro m; exact Int.le_trans (ih (min m o)) (by omega)
theorem lst_le_of (os : List Int) : ∀ (m : Int) {o : Int}, o ∈ os → lst m os ≤ o := by
  induction os with
  | nil => intro m o h; cases h
  | cons p os ih =>
    intro m o h
    rcases List.mem_cons.1 h with rfl | h
    · exact Int.le_trans (lst_le os (min m o)) (by omega)
    · exact ih (min m p) h
theorem lst_is (os : List Int) : ∀ m : Int, lst m os = m ∨ lst m os ∈ os := by
  induction os with
  | nil => intro m; exact .inl rfl
  | cons p os ih =>
    intro m
    rcases ih (min m p) with h | h
    · show lst (min m p) os = m ∨ _
      rw [h]
      by_cases hm : m ≤ p
      · exact .inl (by omega)
      · refine .inr ?_
        rw [show lst m (p :: os) = lst (min m p) os from rfl, h, show min m p = p from by omega]; simp
    · exact .inr (List.mem_cons.2 (.inr h))
theorem jac_le (xs : List I3) (c : Cs) : Le (jac xs c) c := fun _ => lst_le _ _
theorem jac_ov {xs : List I3} (hg : Gd xs) (c : Cs) {r : I3} (hr : r ∈ xs) : jac xs c r.a1.toNat ≤ ov c r := by
  refine lst_le_of _ _ (List.mem_map.2 ⟨r, List.mem_filter.2 ⟨hr, ?_⟩, rfl⟩)
  have := (hg r hr).t0
  simp; omega
theorem jac_is {xs : List I3} (c : Cs) (v : Nat) : jac xs c v = c v ∨ ∃ r, r ∈ xs ∧ r.a1.toNat = v ∧ jac xs c v = ov c r := by
  rcases lst_is (into xs c v) (c v) with h | h
  · exact .inl h
  · obtain ⟨r, hr, e⟩ := List.mem_map.1 h
    obtain ⟨h1, h2⟩ := List.mem_filter.1 hr
    have : r.a1 = (v : Int) := by simpa using h2
    exact .inr ⟨r, h1, by omega, e.symm⟩
theorem ov_bd {B : Int} {c : Cs} (h : Bd B c) {r : I3} (hr : Good r) : ov c r = far ∨ (-(B + 100) ≤ ov c r ∧ ov c r ≤ B + 100) := by
  unfold ov
  split
  · exact .inl rfl
  · rename_i hf
    have := hr.c0; have := hr.c1
    rcases h r.a0.toNat with e | e
    · exact absurd e hf
    · exact .inr (by omega)
theorem jac_bd {B : Int} {xs : List I3} (hg : Gd xs) {c : Cs} (h : Bd B c) : Bd (B + 100) (jac xs c) := by
  intro v
  rcases jac_is c v with e | ⟨r, hr, _, e⟩
  · rw [e]; exact h.mono (by omega) v
  · rw [e]; exact ov_bd h (hg r hr)
theorem jk_bd {xs : List I3} (hg : Gd xs) {c : Cs} (h : Bd 0 c) : ∀ n : Nat, n ≤ 100 → Bd (100 * n) (jk xs n c)
  | 0, _ => h
  | n + 1, hn => by
    have := jac_bd (B := 100 * n) hg (jk_bd hg h n (by omega))
    exact this.mono (by omega)
theorem rel_le (c : Cs) (r : I3) : Le (rel c r) c := by
  intro v
  unfold rel
  split
  · rename_i h
    simp only [low, Bool.and_eq_true, decide_eq_true_eq] at h
    unfold put
    split
    · rename_i e; rw [e]; omega
    · exact Int.le_refl _
  · exact Int.le_refl _
theorem rel_bd {B : Int} {c : Cs} (h : Bd B c) {r : I3} (hr : Good r) : Bd (B + 100) (rel c r) := by
  unfold rel
  split
  · rename_i hl
    simp only [low, Bool.and_eq_true, decide_eq_true_eq] at hl
    intro v
    unfold put
    split
    · have := hr.c0; have := hr.c1
      rcases h r.a0.toNat with e | e
      · omega
      · exact .inr (by omega)
    · exact h.mono (by omega) v
  · exact h.mono (by omega)
theorem pas_le (xs : List I3) : ∀ c : Cs, Le (pas xs c) c := by
  induction xs with
  | nil => exact Le.refl
  | cons r xs ih => intro c; exact (ih (rel c r)).trans (rel_le c r)
theorem pas_bd (xs : List I3) : ∀ (B : Int) (c : Cs), 0 ≤ B → B + 100 * xs.length < far → Gd xs → Bd B c → Bd (B + 100 * xs.length) (pas xs c) := by
  induction xs with
  | nil => intro B c _ _ _ h; exact h.mono (by simp)
  | cons r xs ih =>
    intro B c h0 hB hg h
    simp only [List.length_cons] at hB
    have := ih (B + 100) (rel c r) (by omega) (by omega) (fun s hs => hg s (by simp [hs])) (rel_bd h (hg r (by simp)))
    exact this.mono (by simp only [List.length_cons]; omega)
theorem gk_bd {xs : List I3} (hg : Gd xs) (hl : xs.length ≤ 20) {c : Cs} (h : Bd 0 c) : ∀ n : Nat, n ≤ 100 → Bd (2000 * n) (gk xs n c)
  | 0, _ => h
  | n + 1, hn => by
    have := pas_bd xs (2000 * n) _ (by omega) (by unfold far; omega) hg (gk_bd hg hl h n (by omega))
    exact this.mono (by omega)
/-- Lower than far there is all that is within a bound. -/
theorem bd_far {B : Int} (hB : B < far) {c : Cs} (h : Bd B c) (v : Nat) : c v ≤ far := by
  rcases h v with e | e <;> omega
theorem bd_lt {B : Int} (hB : B < far) {c : Cs} (h : Bd B c) {v : Nat} (e : c v ≠ far) : c v < far := by
  rcases h v with e' | e' <;> omega
/-- A row of costs that no road makes cheaper stays below. -/
theorem fe_ov {B : Int} (hB : B < far) {xs : List I3} {f c : Cs} (hf : Fe xs f) (hfb : Bd B f) (hcb : Bd B c) (h : Le f c) {r : I3} (hr : r ∈ xs) : f r.a1.toNat ≤ ov c r := by
  by_cases e : c r.a0.toNat = far
  · rw [ov, if_pos e]; exact bd_far hB hfb _
  · have h1 := h r.a0.toNat
    have h2 := bd_lt hB hcb e
    have h3 := hf r hr
    rw [ov, if_neg (by omega)] at h3
    rw [ov, if_neg e]; omega
theorem fe_jac {B : Int} (hB : B < far) {xs : List I3} {f c : Cs} (hf : Fe xs f) (hfb : Bd B f) (hcb : Bd B c) (h : Le f c) : Le f (jac xs c) := by
  intro v
  rcases jac_is c v with e | ⟨r, hr, hv, e⟩
  · rw [e]; exact h v
  · rw [e, ← hv]; exact fe_ov hB hf hfb hcb h hr
theorem fe_rel {B : Int} (hB : B < far) {xs : List I3} {f c : Cs} (hf : Fe xs f) (hfb : Bd B f) (hcb : Bd B c) (h : Le f c) {r : I3} (hr : r ∈ xs) : Le f (rel c r) := by
  intro v
  unfold rel
  split
  · rename_i hl
    simp only [low, Bool.and_eq_true, decide_eq_true_eq] at hl
    unfold put
    split
    · rename_i e
      have := fe_ov hB hf hfb hcb h hr
      rw [ov, if_neg (by omega)] at this
      rw [e]; exact this
    · exact h v
  · exact h v
theorem fe_pas {xs : List I3} {f : Cs} (hf : Fe xs f) : ∀ (ys : List I3) (B : Int) (c : Cs), (∀ r, r ∈ ys → r ∈ xs) → 0 ≤ B → B + 100 * ys.length < far → Gd ys → Bd B f → Bd B c → Le f c → Le f (pas ys c) := by
  intro ys
  induction ys with
  | nil => intro B c _ _ _ _ _ _ h; exact h
  | cons r ys ih =>
    intro B c hs h0 hB hg hfb hcb h
    simp only [List.length_cons] at hB
    exact ih (B + 100) (rel c r) (fun s h => hs s (by simp [h])) (by omega) (by omega) (fun s h => hg s (by simp [h])) (hfb.mono (by omega)) (rel_bd hcb (hg r (by simp))) (fe_rel (B := B) (by omega) hf hfb hcb h (hs r (by simp)))
/-- A pass gets at least as low as one road on from all at once. -/
theorem pas_low : ∀ (ys : List I3) (B : Int) (c : Cs), 0 ≤ B → B + 100 * ys.length < far → Gd ys → Bd B c → ∀ r, r ∈ ys → pas ys c r.a1.toNat ≤ ov c r := by
  intro ys
  induction ys with
  | nil => intro B c _ _ _ _ r h; cases h
  | cons s ys ih =>
    intro B c h0 hB hg hcb r hr
    simp only [List.length_cons] at hB
    have hb := rel_bd hcb (hg s (by simp))
    rcases List.mem_cons.1 hr with rfl | hr
    · refine Int.le_trans (pas_le ys (rel c r) _) ?_
      unfold ov
      split
      · exact bd_far (B := B + 100) (by omega) hb _
      · rename_i e
        have := bd_lt (B := B) (by omega) hcb e
        unfold rel
        split
        · simp [put]
        · rename_i hl
          simp only [low, Bool.and_eq_true, decide_eq_true_eq, not_and] at hl
          have := hl this; omega
    · have := ih (B + 100) (rel c s) (by omega) (by omega) (fun s h => hg s (by simp [h])) hb r hr
      refine Int.le_trans this ?_
      have h1 := rel_le c s r.a0.toNat
      unfold ov
      by_cases e : c r.a0.toNat = far
      · rw [if_pos e]
        split
        · exact Int.le_refl _
        · rename_i e'
          have g := hg r (by simp [hr])
          have := g.c1
          have : 1 ≤ ys.length := List.length_pos_of_mem hr
          have := hb r.a0.toNat
          rcases this with h | h <;> omega
      · have := bd_lt (B := B) (by omega) hcb e
        rw [if_neg e, if_neg (by omega)]; omega
theorem pas_jac {B : Int} {xs : List I3} (hg : Gd xs) (h0 : 0 ≤ B) (hB : B + 100 * xs.length < far) {c : Cs} (hc : Bd B c) : Le (pas xs c) (jac xs c) := by
  intro v
  rcases jac_is c v with e | ⟨r, hr, hv, e⟩
  · rw [e]; exact pas_le xs c v
  · rw [e, ← hv]; exact pas_low xs B c h0 hB hg hc r hr
/-- Both are monotone. -/
theorem jac_mono {B : Int} (hB : B + 100 < far) {xs : List I3} (hg : Gd xs) {c d : Cs} (hc : Bd B c) (hd : Bd B d) (h : Le c d) : Le (jac xs c) (jac xs d) := by
  intro v
  rcases jac_is d v with e | ⟨r, hr, hv, e⟩
  · rw [e]; exact Int.le_trans (jac_le xs c v) (h v)
  · rw [e, ← hv]
    refine Int.le_trans (jac_ov hg c hr) ?_
    have h1 := h r.a0.toNat
    by_cases e : d r.a0.toNat = far
    · have := ov_bd hc (hg r hr)
      rw [show ov d r = far from by rw [ov, if_pos e]]; omega
    · have := bd_lt (B := B) (by omega) hd e
      rw [ov, if_neg (by omega), ov, if_neg e]; omega
theorem gk_jk {xs : List I3} (hg : Gd xs) (hl : xs.length ≤ 20) {c : Cs} (h : Bd 0 c) : ∀ n : Nat, n ≤ 100 → Le (gk xs n c) (jk xs n c)
  | 0, _ => Le.refl _
  | n + 1, hn => by
    have b1 := gk_bd hg hl h n (by omega)
    have b2 := (jk_bd hg h n (by omega)).mono (show (100 * (n : Int)) ≤ 2000 * n by omega)
    have := pas_jac hg (by omega) (by unfold far; omega) b1
    exact this.trans (jac_mono (by unfold far; omega) hg b1 b2 (gk_jk hg hl h n (by omega)))
theorem fe_jk {B : Int} (hB : B < far) (hB2 : 10000 ≤ B) {xs : List I3} (hg : Gd xs) {c f : Cs} (h : Bd 0 c) (hf : Fe xs f) (hfb : Bd B f) (hle : Le f c) : ∀ n : Nat, n ≤ 100 → Le f (jk xs n c)
  | 0, _ => hle
  | n + 1, hn => fe_jac hB hf hfb ((jk_bd hg h n (by omega)).mono (by omega)) (fe_jk hB hB2 hg h hf hfb hle n (by omega))
theorem fe_gk {B : Int} (hB : B + 2000 < far) (hB2 : 200000 ≤ B) {xs : List I3} (hg : Gd xs) (hl : xs.length ≤ 20) {c f : Cs} (h : Bd 0 c) (hf : Fe xs f) (hfb : Bd B f) (hle : Le f c) : ∀ n : Nat, n ≤ 100 → Le f (gk xs n c)
  | 0, _ => hle
  | n + 1, hn => fe_pas hf xs B _ (fun _ h => h) (by omega) (by omega) hg hfb ((gk_bd hg hl h n (by omega)).mono (by omega)) (fe_gk hB hB2 hg hl h hf hfb hle n (by omega))
/-- Costs at rest. -/
theorem jac_fe {xs : List I3} (hg : Gd xs) {c : Cs} (h : jac xs c = c) : Fe xs c := fun r hr => by
  have := jac_ov hg c hr
  rwa [h] at this
theorem fe_at_rest {xs : List I3} {c : Cs} (h : Fe xs c) : jac xs c = c := Le.anti (jac_le xs c) fun v => by
  rcases jac_is c v with e | ⟨r, hr, hv, e⟩
  · rw [e]; exact Int.le_refl _
  · rw [e, ← hv]; exact h r hr
theorem fe_low {xs : List I3} {c : Cs} (h : Fe xs c) {r : I3} (hr : r ∈ xs) : low c r = false := by
  have := h r hr
  unfold low
  by_cases e : c r.a0.toNat = far
  · rw [e]; simp
  · rw [ov, if_neg e] at this
    simp only [Bool.and_eq_false_iff, decide_eq_false_iff_not]; right; omega
theorem fe_chg {xs : List I3} {c : Cs} (h : Fe xs c) : ∀ ys : List I3, (∀ r, r ∈ ys → r ∈ xs) → chg ys c = false ∧ pas ys c = c := by
  intro ys
  induction ys with
  | nil => intro _; exact ⟨rfl, rfl⟩
  | cons r ys ih =>
    intro hs
    have h1 := fe_low h (hs r (by simp))
    have h2 : rel c r = c := by rw [rel, h1]; rfl
    obtain ⟨i1, i2⟩ := ih fun s h => hs s (by simp [h])
    exact ⟨by rw [chg, h1, h2, i1]; rfl, by show pas ys (rel c r) = c; rw [h2, i2]⟩
theorem chg_fe {B : Int} (hB : B < far) {c : Cs} (hc : Bd B c) : ∀ ys : List I3, chg ys c = false → Fe ys c ∧ pas ys c = c := by
  intro ys
  induction ys with
  | nil => intro _; exact ⟨fun r h => (nomatch h), rfl⟩
  | cons r ys ih =>
    intro h
    rw [chg, Bool.or_eq_false_iff] at h
    have h2 : rel c r = c := by rw [rel, h.1]; rfl
    rw [h2] at h
    obtain ⟨i1, i2⟩ := ih h.2
    refine ⟨fun s hs => ?_, by show pas ys (rel c r) = c; rw [h2, i2]⟩
    rcases List.mem_cons.1 hs with rfl | hs
    · have h1 := h.1
      unfold ov
      split
      · exact bd_far hB hc _
      · rename_i e
        have := bd_lt hB hc e
        simp only [low, Bool.and_eq_false_iff, decide_eq_false_iff_not] at h1
        rcases h1 with h1 | h1 <;> omega
    · exact i1 s hs
/-- Who got cheaper at the last got so by somebody who got cheaper just ahead. -/
theorem chain {xs : List I3} (hg : Gd xs) (c : Cs) (hc : Bd 0 c) : ∀ (n v : Nat), n ≤ 99 → jk xs (n + 1) c v < jk xs n c v → ∃ p : Nat → Nat, p (n + 1) = v ∧ ∀ i, i ≤ n → ∃ r, r ∈ xs ∧ r.a0.toNat = p i ∧ r.a1.toNat = p (i + 1) ∧ jk xs (i + 1) c (p (i + 1)) = jk xs i c (p i) + r.a2 ∧ jk xs (i + 1) c (p (i + 1)) < jk xs i c (p (i + 1))
  | n, v, hn, h => by
    rcases jac_is (jk xs n c) v with e | ⟨r, hr, hv, e⟩
    · exact absurd h (by rw [show jk xs (n + 1) c v = jac xs (jk xs n c) v from rfl, e]; omega)
    · have hb := jk_bd hg hc n (by omega)
      have hfar := bd_far (B := 100 * n) (by unfold far; omega) hb v
      have e1 : jk xs (n + 1) c v = ov (jk xs n c) r := e
      have nf : jk xs n c r.a0.toNat ≠ far := fun e2 => by
        rw [ov, if_pos e2] at e1; omega
      rw [ov, if_neg nf] at e1
      cases n with
      | zero =>
        refine ⟨fun i => if i = 0 then r.a0.toNat else v, rfl, fun i hi => ?_⟩
        obtain rfl : i = 0 := by omega
        exact ⟨r, hr, rfl, hv, e1, h⟩
      | succ n =>
        have hlt : jk xs (n + 1) c r.a0.toNat < jk xs n c r.a0.toNat := by
          refine Int.not_le.1 fun hle => ?_
          have h1 : jk xs (n + 1) c r.a1.toNat ≤ ov (jk xs n c) r := jac_ov hg (jk xs n c) hr
          have hb' := jk_bd hg hc n (by omega)
          have h2 : jk xs n c r.a0.toNat ≠ far := fun e => by
            have h3 : jk xs (n + 1) c r.a0.toNat ≤ jk xs n c r.a0.toNat := jac_le xs _ _
            have := bd_lt (B := 100 * (n + 1 : Nat)) (by unfold far; omega) hb nf
            omega
          rw [ov, if_neg h2, hv] at h1
          omega
        obtain ⟨p, hp, hi⟩ := chain hg c hc n r.a0.toNat (by omega) hlt
        refine ⟨fun i => if i = n + 2 then v else p i, by simp, fun i hin => ?_⟩
        by_cases ei : i = n + 1
        · subst ei
          refine ⟨r, hr, ?_, ?_, ?_, ?_⟩
          · simp [hp]
          · simp [hv]
          · simp [hp]; exact e1
          · simp; exact h
        · obtain ⟨s, hs, h1, h2, h3, h4⟩ := hi i (by omega)
          have e1 : ¬ i = n + 2 := by omega
          have e2 : ¬ i + 1 = n + 2 := by omega
          refine ⟨s, hs, ?_, ?_, ?_, ?_⟩
          · simp only [if_neg e1]; exact h1
          · simp only [if_neg e2]; exact h2
          · simp only [if_neg e1, if_neg e2]; exact h3
          · simp only [if_neg e2]; exact h4
theorem pigeon : ∀ (n : Nat) (l : List Nat), l.Nodup → (∀ x, x ∈ l → x < n) → l.length ≤ n
  | 0, l, _, h => by
    cases l with
    | nil => simp
    | cons a l => exact absurd (h a (by simp)) (by omega)
  | n + 1, l, hd, h => by
    by_cases hm : n ∈ l
    · have := pigeon n (l.erase n) (hd.erase n) (fun x hx => by
        have h1 := h x (List.mem_of_mem_erase hx)
        have h2 : x ≠ n := ((List.Nodup.mem_erase_iff hd).1 hx).1
        omega)
      rw [List.length_erase_of_mem hm] at this
      omega
    · have := pigeon n l hd (fun x hx => by
        have h1 := h x hx
        have h2 : x ≠ n := fun e => hm (e ▸ hx)
        omega)
      omega
theorem twice {p : Nat → Nat} {n : Nat} (h : ∀ i, i ≤ n → p i < n) : ∃ i j, i < j ∧ j ≤ n ∧ p i = p j := by
  refine Classical.byContradiction fun hno => ?_
  have : ((List.range (n + 1)).map p).Nodup := by
    refine List.pairwise_map.2 ?_
    refine List.Pairwise.imp_of_mem ?_ (List.pairwise_lt_range (n := n + 1))
    intro a b ha hb hab e
    have : b < n + 1 := by simpa using hb
    exact hno ⟨a, b, hab, by omega, e⟩
  have := pigeon n _ this (by
    intro x hx
    obtain ⟨i, hi, rfl⟩ := List.mem_map.1 hx
    exact h i (by have : i < n + 1 := by simpa using hi
                  omega))
  simp at this
  omega
theorem jk_down (xs : List I3) (c : Cs) (i : Nat) : ∀ k : Nat, Le (jk xs (i + k) c) (jk xs i c)
  | 0 => Le.refl _
  | k + 1 => (jac_le xs (jk xs (i + k) c)).trans (jk_down xs c i k)
/-- Roads without a gain: potentials that no road makes cheaper. -/
def Calm (xs : List I3) : Prop := ∃ q : Cs, ∀ r, r ∈ xs → q r.a1.toNat ≤ q r.a0.toNat + r.a2
theorem rests {xs : List I3} (hg : Gd xs) (hq : Calm xs) {c : Cs} (hc : Bd 0 c) : jk xs 8 c = jk xs 7 c := by
  obtain ⟨q, hq⟩ := hq
  refine Le.anti (jac_le xs (jk xs 7 c)) fun v => Int.not_lt.1 fun hlt => ?_
  obtain ⟨p, hp, hi⟩ := chain hg c hc 7 v (by omega) hlt
  obtain ⟨i, j, hij, hj, e⟩ := twice (p := p) (n := 8) (fun i hi8 => by
    by_cases e8 : i = 8
    · obtain ⟨r, hr, _, h2, _⟩ := hi 7 (by omega)
      have := hg r hr; have := this.t1; have := (hg r hr).t0
      rw [e8, ← h2]; omega
    · obtain ⟨r, hr, h1, _⟩ := hi i (by omega)
      have := hg r hr; have := this.f1; have := (hg r hr).f0
      rw [← h1]; omega)
  have up : ∀ k, i + k ≤ 8 → jk xs i c (p i) - q (p i) ≤ jk xs (i + k) c (p (i + k)) - q (p (i + k)) := by
    intro k
    induction k with
    | zero => intro _; exact Int.le_refl _
    | succ k ih =>
      intro hk
      obtain ⟨r, hr, h1, h2, h3, _⟩ := hi (i + k) (by omega)
      have h4 := hq r hr
      rw [h1, h2] at h4
      have := ih (by omega)
      rw [show i + (k + 1) = i + k + 1 from rfl, h3]
      omega
  obtain ⟨k, rfl⟩ : ∃ k, j = i + k + 1 := ⟨j - i - 1, by omega⟩
  have u := up (k + 1) (by omega)
  rw [show i + (k + 1) = i + k + 1 from rfl, ← e] at u
  obtain ⟨r, hr, _, _, _, h4⟩ := hi (i + k) (by omega)
  have d := jk_down xs c i k (p (i + k + 1))
  rw [← e] at d h4
  omega
theorem jk_rest {xs : List I3} {c : Cs} {n : Nat} (h : jk xs (n + 1) c = jk xs n c) : ∀ k, jk xs (n + k) c = jk xs n c
  | 0 => rfl
  | k + 1 => by
    show jac xs (jk xs (n + k) c) = _
    rw [jk_rest h k]; exact h
/-- Without a gain both come to the same rest. -/
theorem both {xs : List I3} (hg : Gd xs) (hl : xs.length ≤ 20) (hq : Calm xs) {c : Cs} (hc : Bd 0 c) : gk xs 7 c = jk xs 7 c ∧ Fe xs (jk xs 7 c) := by
  have h8 := rests hg hq hc
  have hf : Fe xs (jk xs 7 c) := jac_fe hg h8
  have hb := jk_bd hg hc 7 (by omega)
  refine ⟨Le.anti (gk_jk hg hl hc 7 (by omega)) ?_, hf⟩
  exact fe_gk (B := 200000) (by unfold far; omega) (by omega) hg hl hc hf (hb.mono (by omega)) (jk_down xs c 0 7) 7 (by omega)
theorem same8_iff {xs : List I3} (hg : Gd xs) (c : Cs) : same8 (jac xs c) c = true ↔ jac xs c = c := by
  unfold same8
  rw [List.all_eq_true]
  constructor
  · intro h
    funext v
    by_cases hv : v < 8
    · simpa using h v (by simpa using hv)
    · rcases jac_is c v with e | ⟨r, hr, he, _⟩
      · exact e
      · have := (hg r hr).t1; have := (hg r hr).t0; omega
  · intro h v _; rw [h]; simp
theorem jk_comm (xs : List I3) (c : Cs) : ∀ n, jk xs n (jac xs c) = jac xs (jk xs n c)
  | 0 => rfl
  | n + 1 => by show jac xs (jk xs n (jac xs c)) = _; rw [jk_comm xs c n]; rfl
theorem gk_comm (xs : List I3) (c : Cs) : ∀ n, gk xs n (pas xs c) = pas xs (gk xs n c)
  | 0 => rfl
  | n + 1 => by show pas xs (gk xs n (pas xs c)) = _; rw [gk_comm xs c n]; rfl
theorem settle_yes {xs : List I3} (hg : Gd xs) : ∀ (n : Nat) (c : Cs), jk xs (n + 1) c = jk xs n c → settle xs (n + 1) c = (jk xs n c, true)
  | 0, c, h => by rw [settle, if_pos ((same8_iff hg c).2 h)]; rfl
  | n + 1, c, h => by
    rw [settle]
    by_cases e : jac xs c = c
    · rw [if_pos ((same8_iff hg c).2 e)]
      have := jk_rest (n := 0) (c := c) (xs := xs) e (n + 1)
      rw [Nat.zero_add] at this
      rw [this]; rfl
    · rw [if_neg (fun h => e ((same8_iff hg c).1 h)), settle_yes hg n (jac xs c) (by rw [jk_comm, jk_comm]; exact h), jk_comm]; rfl
theorem settle_no {xs : List I3} (hg : Gd xs) : ∀ (n : Nat) (c : Cs), (settle xs n c).2 = true → jac xs (settle xs n c).1 = (settle xs n c).1
  | 0, c, h => by cases h
  | n + 1, c, h => by
    rw [settle] at h ⊢
    by_cases e : same8 (jac xs c) c = true
    · rw [if_pos e]; exact (same8_iff hg c).1 e
    · rw [if_neg e] at h ⊢; exact settle_no hg n _ h
theorem settle_jk (xs : List I3) : ∀ (n : Nat) (c : Cs), ∃ k, k ≤ n ∧ (settle xs n c).1 = jk xs k c
  | 0, c => ⟨0, by omega, rfl⟩
  | n + 1, c => by
    rw [settle]
    split
    · exact ⟨0, by omega, rfl⟩
    · obtain ⟨k, hk, e⟩ := settle_jk xs n (jac xs c)
      exact ⟨k + 1, by omega, by rw [e, jk_comm]; rfl⟩
theorem relax_yes {xs : List I3} : ∀ (n : Nat) (c : Cs), (∀ k, k ≤ n → Bd 300000 (gk xs k c)) → Fe xs (gk xs n c) → relax xs (n + 1) c = (gk xs n c, false)
  | 0, c, _, h => by
    obtain ⟨h1, h2⟩ := fe_chg h xs (fun _ h => h)
    rw [relax, show chg xs c = false from h1]
    show (pas xs c, false) = _
    rw [show pas xs c = c from h2]; rfl
  | n + 1, c, hb, h => by
    rw [relax]
    by_cases e : chg xs c = true
    · rw [if_pos e, relax_yes n (pas xs c) (fun k hk => by rw [gk_comm]; exact hb (k + 1) (by omega)) (by rw [gk_comm]; exact h), gk_comm]; rfl
    · obtain ⟨h1, h2⟩ := chg_fe (B := 300000) (by unfold far; omega) (hb 0 (by omega)) xs (Bool.eq_false_iff.2 e)
      rw [if_neg e]
      have h2 : pas xs c = c := h2
      have g : ∀ k, gk xs k c = c := fun k => by
        induction k with
        | zero => rfl
        | succ k ih => show pas xs (gk xs k c) = c; rw [ih, h2]
      rw [g, h2]
theorem relax_no {xs : List I3} : ∀ (n : Nat) (c : Cs), (∀ k, k ≤ n → Bd 300000 (gk xs k c)) → (relax xs n c).2 = false → Fe xs (relax xs n c).1
  | 0, c, _, h => by cases h
  | n + 1, c, hb, h => by
    rw [relax] at h ⊢
    by_cases e : chg xs c = true
    · rw [if_pos e] at h ⊢
      exact relax_no n (pas xs c) (fun k hk => by rw [gk_comm]; exact hb (k + 1) (by omega)) h
    · obtain ⟨h1, h2⟩ := chg_fe (B := 300000) (by unfold far; omega) (hb 0 (by omega)) xs (Bool.eq_false_iff.2 e)
      rw [if_neg e]
      show Fe xs (pas xs c)
      rw [show pas xs c = c from h2]; exact h1
theorem relax_gk (xs : List I3) : ∀ (n : Nat) (c : Cs), ∃ k, k ≤ n ∧ (relax xs n c).1 = gk xs k c
  | 0, c => ⟨0, by omega, rfl⟩
  | n + 1, c => by
    rw [relax]
    split
    · obtain ⟨k, hk, e⟩ := relax_gk xs n (pas xs c)
      exact ⟨k + 1, by omega, by rw [e, gk_comm]; rfl⟩
    · exact ⟨1, by omega, rfl⟩
def zero : Cs := fun _ => 0
def start (a : Nat) : Cs := put (fun _ => far) a 0
def calm (xs : List I3) : Bool := (settle xs 8 zero).2
def fine (xs : List I3) : Bool := okP xs && calm xs
def pot (xs : List I3) : Cs := jk xs 7 zero
def frm (xs : List I3) (a : Nat) : Cs := jk xs 7 (start a)
theorem zero_bd : Bd 0 zero := fun _ => .inr ⟨by simp [zero], by simp [zero]⟩
theorem start_bd (a : Nat) : Bd 0 (start a) := fun v => by
  unfold start put
  split
  · exact .inr ⟨by omega, by omega⟩
  · exact .inl rfl
theorem okP_Gd {xs : List I3} (h : okP xs = true) : Gd xs := fun r hr => by
  obtain ⟨j, hj, rfl⟩ := List.getElem_of_mem hr
  have := okP_good h hj
  rwa [MI3.at_eq xs j hj] at this
theorem okP_len {xs : List I3} (h : okP xs = true) : xs.length ≤ 20 := ((okP_iff xs).1 h).1
theorem gk_down (xs : List I3) (c : Cs) : ∀ k : Nat, Le (gk xs k c) c
  | 0 => Le.refl _
  | k + 1 => (pas_le xs (gk xs k c)).trans (gk_down xs c k)
theorem calm_of {xs : List I3} {f : Cs} (h : Fe xs f) (h0 : Le f zero) : Calm xs := ⟨f, fun r hr => by
  have h1 := h r hr
  have h2 : f r.a0.toNat ≤ 0 := h0 r.a0.toNat
  rwa [ov, if_neg (by unfold far; omega)] at h1⟩
theorem settled {xs : List I3} (h : okP xs = true) (hq : Calm xs) {c : Cs} (hc : Bd 0 c) : settle xs 8 c = (jk xs 7 c, true) ∧ relax xs 9 c = (jk xs 7 c, false) ∧ Fe xs (jk xs 7 c) := by
  have hg := okP_Gd h; have hl := okP_len h
  obtain ⟨h1, h2⟩ := both hg hl hq hc
  have h3 : gk xs 8 c = jk xs 7 c := by
    show pas xs (gk xs 7 c) = _
    rw [h1]; exact (fe_chg h2 xs fun _ h => h).2
  refine ⟨settle_yes hg 7 c (rests hg hq hc), ?_, h2⟩
  rw [relax_yes 8 c (fun k hk => (gk_bd hg hl hc k (by omega)).mono (by omega)) (by rw [h3]; exact h2), h3]
theorem calm_Calm {xs : List I3} (h : okP xs = true) (hc : calm xs = true) : Calm xs := by
  obtain ⟨k, _, e⟩ := settle_jk xs 8 zero
  have h1 := settle_no (okP_Gd h) 8 zero hc
  refine calm_of (jac_fe (okP_Gd h) h1) ?_
  rw [e]
  have := jk_down xs zero 0 k
  rwa [Nat.zero_add] at this
theorem pots {xs : List I3} (h : okP xs = true) (hc : calm xs = true) : settle xs 8 zero = (pot xs, true) ∧ relax xs 9 zero = (pot xs, false) := by
  obtain ⟨h1, h2, _⟩ := settled h (calm_Calm h hc) zero_bd
  exact ⟨h1, h2⟩
theorem frms {xs : List I3} (h : okP xs = true) (hc : calm xs = true) (a : Nat) : (settle xs 8 (start a)).1 = frm xs a ∧ (relax xs 9 (start a)).1 = frm xs a := by
  obtain ⟨h1, h2, _⟩ := settled h (calm_Calm h hc) (start_bd a)
  exact ⟨by rw [h1]; rfl, by rw [h2]; rfl⟩
theorem gains {xs : List I3} (h : okP xs = true) : (relax xs 9 zero).2 = !calm xs := by
  cases hc : calm xs
  · refine Classical.byContradiction fun hn => ?_
    have h1 : (relax xs 9 zero).2 = false := by simpa using hn
    have h2 := relax_no 9 zero (fun k hk => (gk_bd (okP_Gd h) (okP_len h) zero_bd k (by omega)).mono (by omega)) h1
    obtain ⟨k, _, e⟩ := relax_gk xs 9 zero
    rw [e] at h2
    have h3 := (settled h (calm_of h2 (gk_down xs zero k)) zero_bd).1
    rw [calm, h3] at hc; cases hc
  · rw [(pots h hc).2]; rfl
theorem pot_bd {xs : List I3} (h : okP xs = true) (v : Nat) : -700 ≤ pot xs v ∧ pot xs v ≤ 0 := by
  have h1 := jk_bd (okP_Gd h) zero_bd 7 (by omega) v
  have h2 : pot xs v ≤ 0 := by
    have := jk_down xs zero 0 7 v
    rwa [Nat.zero_add] at this
  have h3 : jk xs 7 zero v = pot xs v := rfl
  rw [h3] at h1
  unfold far at h1
  rcases h1 with h1 | h1 <;> omega
theorem frm_bd {xs : List I3} (h : okP xs = true) (a v : Nat) : frm xs a v = far ∨ (-700 ≤ frm xs a v ∧ frm xs a v ≤ 700) := jk_bd (okP_Gd h) (start_bd a) 7 (by omega) v
end RD
end Go.Proofs.Ytclhfhjkcocdcaa
