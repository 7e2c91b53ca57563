/- A merge by rotation, of plain rows (a row: what lies at each number): what it asks and what it leaves. -/
namespace Go.Proofs.Ytdglialjcibbbaa
namespace MSym
/-- the row rises by R from a until b -/
def Up (R : Nat → Nat → Prop) (f : Nat → Nat) (a b : Nat) : Prop :=
  ∀ i j, a ≤ i → i < j → j < b → R (f i) (f j)
/-- each of a .. m stands to each of m .. b as X says -/
def Cross (X : Nat → Nat → Prop) (f : Nat → Nat) (a m b : Nat) : Prop :=
  ∀ i j, a ≤ i → i < m → m ≤ j → j < b → X (f i) (f j)
/-- g is f outside a .. b, and inside it holds what f holds there, and nothing else -/
def From (g f : Nat → Nat) (a b : Nat) : Prop :=
  (∀ k, k < a ∨ b ≤ k → g k = f k) ∧ (∀ k, a ≤ k → k < b → ∃ i, a ≤ i ∧ i < b ∧ g k = f i) ∧
  ∀ i, a ≤ i → i < b → ∃ k, a ≤ k ∧ k < b ∧ g k = f i
/-- the blocks a .. m and m .. b change places -/
def rot (f : Nat → Nat) (a m b : Nat) : Nat → Nat := fun k =>
  if k < a then f k else if k < a + (b - m) then f (k + (m - a))
  else if k < b then f (k - (b - m)) else f k
/-- two places change -/
def swp (f : Nat → Nat) (i j : Nat) : Nat → Nat := fun k =>
  if k = i then f j else if k = j then f i else f k

theorem From.refl (f : Nat → Nat) (a b : Nat) : From f f a b :=
  ⟨fun _ _ => rfl, fun k h1 h2 => ⟨k, h1, h2, rfl⟩, fun k h1 h2 => ⟨k, h1, h2, rfl⟩⟩
theorem From.trans {h g f : Nat → Nat} {a b : Nat} (p : From h g a b) (q : From g f a b) :
    From h f a b := by
  refine ⟨fun k hk => (p.1 k hk).trans (q.1 k hk), fun k h1 h2 => ?_, fun k h1 h2 => ?_⟩
  · obtain ⟨i, i1, i2, e⟩ := p.2.1 k h1 h2
    obtain ⟨j, j1, j2, e'⟩ := q.2.1 i i1 i2
    exact ⟨j, j1, j2, e.trans e'⟩
  · obtain ⟨i, i1, i2, e⟩ := q.2.2 k h1 h2
    obtain ⟨j, j1, j2, e'⟩ := p.2.2 i i1 i2
    exact ⟨j, j1, j2, e'.trans e⟩
theorem From.wide {g f : Nat → Nat} {a b c d : Nat} (p : From g f a b) (hc : c ≤ a) (hd : b ≤ d) :
    From g f c d := by
  refine ⟨fun k hk => p.1 k (by omega), fun k h1 h2 => ?_, fun k h1 h2 => ?_⟩
  · by_cases hk : a ≤ k ∧ k < b
    · obtain ⟨i, i1, i2, e⟩ := p.2.1 k hk.1 hk.2
      exact ⟨i, by omega, by omega, e⟩
    · exact ⟨k, h1, h2, p.1 k (by omega)⟩
  · by_cases hk : a ≤ k ∧ k < b
    · obtain ⟨i, i1, i2, e⟩ := p.2.2 k hk.1 hk.2
      exact ⟨i, by omega, by omega, e⟩
    · exact ⟨k, h1, h2, p.1 k (by omega)⟩
theorem rot_lo {f : Nat → Nat} {a m b k : Nat} (h : k < a) : rot f a m b k = f k := by
  simp [rot, h]
theorem rot_l {f : Nat → Nat} {a m b k : Nat} (h : a ≤ k) (h2 : k < a + (b - m)) :
    rot f a m b k = f (k + (m - a)) := by
  simp [rot, Nat.not_lt.mpr h, h2]
theorem rot_r {f : Nat → Nat} {a m b k : Nat} (h : a + (b - m) ≤ k) (h2 : k < b) :
    rot f a m b k = f (k - (b - m)) := by
  simp [rot, Nat.not_lt.mpr h, h2, show ¬ k < a by omega]
theorem rot_hi {f : Nat → Nat} {a m b k : Nat} (hm : a ≤ m) (hb : m ≤ b) (h : b ≤ k) :
    rot f a m b k = f k := by
  simp [rot, show ¬ k < a by omega, show ¬ k < a + (b - m) by omega, Nat.not_lt.mpr h]
theorem rot_from {f : Nat → Nat} {a m b : Nat} (hm : a ≤ m) (hb : m ≤ b) :
    From (rot f a m b) f a b := by
  refine ⟨fun k hk => ?_, fun k h1 h2 => ?_, fun k h1 h2 => ?_⟩
  · rcases hk with h | h
    · exact rot_lo h
    · exact rot_hi hm hb h
  · by_cases h : k < a + (b - m)
    · exact ⟨k + (m - a), by omega, by omega, rot_l h1 h⟩
    · exact ⟨k - (b - m), by omega, by omega, rot_r (by omega) h2⟩
  · by_cases h : k < m
    · refine ⟨k + (b - m), by omega, by omega, ?_⟩
      rw [rot_r (by omega) (by omega)]; congr 1; omega
    · refine ⟨k - (m - a), by omega, by omega, ?_⟩
      rw [rot_l (by omega) (by omega)]; congr 1; omega
theorem swp_from {f : Nat → Nat} {i j a b : Nat} (h1 : a ≤ i) (h2 : i < b) (h3 : a ≤ j) (h4 : j < b) :
    From (swp f i j) f a b := by
  refine ⟨fun k hk => ?_, fun k k1 k2 => ?_, fun k k1 k2 => ?_⟩
  · simp only [swp]
    rw [if_neg (by omega), if_neg (by omega)]
  · simp only [swp]
    split
    · exact ⟨j, h3, h4, rfl⟩
    · split
      · exact ⟨i, h1, h2, rfl⟩
      · exact ⟨k, k1, k2, rfl⟩
  · by_cases e1 : k = j
    · exact ⟨i, h1, h2, by simp [swp, e1]⟩
    · by_cases e2 : k = i
      · refine ⟨j, h3, h4, ?_⟩
        simp only [swp]
        rw [if_neg (by omega), if_pos trivial, e2]
      · exact ⟨k, k1, k2, by simp [swp, e1, e2]⟩

section
variable {R X : Nat → Nat → Prop} {f : Nat → Nat} {a m b s e mid : Nat}

/-- behind the rotation of s .. m .. e: the four parts rise, and stand across as before -/
theorem parts (ha : a ≤ s) (hs : s ≤ m) (he : m ≤ e) (hb : e ≤ b) (hmid : s + (e - m) = mid)
    (u1 : Up R f a m) (u2 : Up R f m b) (x : Cross X f a m b) :
    Up R (rot f s m e) a s ∧ Up R (rot f s m e) s mid ∧ Up R (rot f s m e) mid e ∧
    Up R (rot f s m e) e b ∧ Cross X (rot f s m e) a s mid ∧ Cross X (rot f s m e) mid e b := by
  subst hmid
  refine ⟨?_, ?_, ?_, ?_, ?_, ?_⟩
  · intro i j h1 h2 h3
    rw [rot_lo (by omega), rot_lo h3]; exact u1 i j h1 h2 (by omega)
  · intro i j h1 h2 h3
    rw [rot_l h1 (by omega), rot_l (by omega) h3]; exact u2 _ _ (by omega) (by omega) (by omega)
  · intro i j h1 h2 h3
    rw [rot_r h1 (by omega), rot_r (by omega) h3]; exact u1 _ _ (by omega) (by omega) (by omega)
  · intro i j h1 h2 h3
    rw [rot_hi hs he h1, rot_hi hs he (by omega)]; exact u2 _ _ (by omega) (by omega) (by omega)
  · intro i j h1 h2 h3 h4
    rw [rot_lo h2, rot_l h3 h4]; exact x _ _ h1 (by omega) (by omega) (by omega)
  · intro i j h1 h2 h3 h4
    rw [rot_r h1 h2, rot_hi hs he h3]; exact x _ _ (by omega) (by omega) (by omega) h4

/-- behind the rotation all of a .. mid stands ahead of all of mid .. b -/
theorem apart (tr : ∀ x y z, R x y → R y z → R x z)
    (ha : a ≤ s) (hs : s ≤ m) (he : m ≤ e) (hb : e ≤ b) (hmid : s + (e - m) = mid)
    (u1 : Up R f a m) (u2 : Up R f m b)
    (k1 : a < s → e < b → R (f (s - 1)) (f e)) (k2 : s < m → m < e → R (f (e - 1)) (f s)) :
    Cross R (rot f s m e) a mid b := by
  subst hmid
  have refl_or : ∀ {c d i j}, Up R f c d → c ≤ i → i ≤ j → j < d → f i = f j ∨ R (f i) (f j) := by
    intro c d i j u h1 h2 h3
    rcases Nat.lt_or_eq_of_le h2 with h | h
    · exact Or.inr (u i j h1 h h3)
    · exact Or.inl (by rw [h])
  have glue : ∀ {p q r t}, (f p = f q ∨ R (f p) (f q)) → R (f q) (f r) → (f r = f t ∨ R (f r) (f t)) →
      R (f p) (f t) := by
    intro p q r t h1 h2 h3
    rcases h1 with h1 | h1 <;> rcases h3 with h3 | h3
    · rw [h1, ← h3]; exact h2
    · rw [h1]; exact tr _ _ _ h2 h3
    · rw [← h3]; exact tr _ _ _ h1 h2
    · exact tr _ _ _ h1 (tr _ _ _ h2 h3)
  intro i j h1 h2 h3 h4
  by_cases hi : i < s
  · rw [rot_lo hi]
    by_cases hj : j < e
    · rw [rot_r h3 hj]; exact u1 _ _ h1 (by omega) (by omega)
    · rw [rot_hi hs he (by omega)]
      exact glue (refl_or u1 h1 (show i ≤ s - 1 by omega) (by omega)) (k1 (by omega) (by omega))
        (refl_or u2 he (by omega) h4)
  · rw [rot_l (by omega) h2]
    by_cases hj : j < e
    · rw [rot_r h3 hj]
      exact glue (refl_or u2 (by omega) (show i + (m - s) ≤ e - 1 by omega) (by omega))
        (k2 (by omega) (by omega)) (refl_or u1 ha (by omega) (by omega))
    · rw [rot_hi hs he (by omega)]; exact u2 _ _ (by omega) (by omega) h4

/-- two halves that each came to rise, all of the one ahead of all of the other -/
theorem join {g h : Nat → Nat} (h1 : a ≤ mid) (h2 : mid ≤ b) (x : Cross R f a mid b)
    (p : From g f a mid) (u : Up R g a mid) (q : From h g mid b) (v : Up R h mid b) :
    Up R h a b ∧ From h f a b := by
  refine ⟨?_, (q.wide h1 (Nat.le_refl _)).trans (p.wide (Nat.le_refl _) h2)⟩
  intro i j i1 i2 i3
  by_cases hi : i < mid
  · rw [q.1 i (Or.inl hi)]
    by_cases hj : j < mid
    · rw [q.1 j (Or.inl hj)]; exact u i j i1 i2 hj
    · obtain ⟨i', a1, a2, e1⟩ := p.2.1 i i1 hi
      obtain ⟨j', b1, b2, e2⟩ := q.2.1 j (by omega) i3
      rw [e1, e2, p.1 j' (Or.inr b1)]
      exact x _ _ a1 a2 b1 b2
  · exact v i j (by omega) i2 i3
end

/-- two rows that rise by one strict order and hold the same are the same -/
theorem only {R : Nat → Nat → Prop} (ir : ∀ x, ¬ R x x) (tr : ∀ x y z, R x y → R y z → R x z) :
    ∀ {xs ys : List Nat}, xs.Pairwise R → ys.Pairwise R → (∀ x, x ∈ xs ↔ x ∈ ys) → xs = ys
  | [], [], _, _, _ => rfl
  | [], y :: ys, _, _, h => absurd ((h y).2 List.mem_cons_self) (by simp)
  | x :: xs, [], _, _, h => absurd ((h x).1 List.mem_cons_self) (by simp)
  | x :: xs, y :: ys, hx, hy, h => by
    obtain ⟨hx1, hx2⟩ := List.pairwise_cons.1 hx
    obtain ⟨hy1, hy2⟩ := List.pairwise_cons.1 hy
    have e : x = y := by
      rcases List.mem_cons.1 ((h x).1 List.mem_cons_self) with e | m1
      · exact e
      · rcases List.mem_cons.1 ((h y).2 List.mem_cons_self) with e | m2
        · exact e.symm
        · exact absurd (tr _ _ _ (hy1 x m1) (hx1 y m2)) (ir y)
    subst e
    have t : xs = ys := by
      refine only ir tr hx2 hy2 (fun z => ⟨fun hz => ?_, fun hz => ?_⟩)
      · rcases List.mem_cons.1 ((h z).1 (List.mem_cons_of_mem _ hz)) with e | m1
        · exact absurd (hx1 z hz) (by rw [e]; exact ir x)
        · exact m1
      · rcases List.mem_cons.1 ((h z).2 (List.mem_cons_of_mem _ hz)) with e | m1
        · exact absurd (hy1 z hz) (by rw [e]; exact ir x)
        · exact m1
    rw [t]
/-- the row as a list -/
def row {V : Type} (v : Nat → V) (f : Nat → Nat) (n : Nat) : List V := (List.range n).map (fun k => v (f k))
theorem row_len {V : Type} (v : Nat → V) (f : Nat → Nat) (n : Nat) : (row v f n).length = n := by simp [row]
theorem row_at {V : Type} (v : Nat → V) (f : Nat → Nat) {n k : Nat} (h : k < n) :
    (row v f n)[k]? = some (v (f k)) := by simp [row, h]
theorem row_swp {V : Type} (v : Nat → V) (f : Nat → Nat) {n i j : Nat} (hi : i < n) (hj : j < n) :
    ((row v f n).set i (v (f j))).set j (v (f i)) = row v (swp f i j) n := by
  apply List.ext_getElem?
  intro k
  by_cases hk : k < n
  · rw [row_at _ _ hk]
    simp only [List.getElem?_set, List.length_set, row_len, swp]
    by_cases e1 : j = k
    · subst e1
      by_cases e2 : j = i
      · subst e2; simp [hj]
      · simp [hj, e2]
    · by_cases e2 : i = k
      · subst e2; simp [e1, hi]
      · rw [if_neg e1, if_neg e2, row_at _ _ hk, if_neg (Ne.symm e2), if_neg (Ne.symm e1)]
  · rw [List.getElem?_eq_none (by simp [row_len]; omega), List.getElem?_eq_none (by simp [row_len]; omega)]
theorem row_up {R : Nat → Nat → Prop} {f : Nat → Nat} {n : Nat} (u : Up R f 0 n) :
    (row id f n).Pairwise R := by
  rw [List.pairwise_iff_getElem]
  intro i j hi hj hij
  simp only [row_len] at hi hj
  simpa [row] using u i j (Nat.zero_le _) hij hj
theorem row_mem {f : Nat → Nat} {n : Nat} (h : From f id 0 n) (x : Nat) : x ∈ row id f n ↔ x < n := by
  simp only [row, List.mem_map, List.mem_range, id]
  constructor
  · rintro ⟨k, hk, e⟩
    obtain ⟨i, _, i2, e2⟩ := h.2.1 k (Nat.zero_le _) hk
    rw [← e, e2]; exact i2
  · intro hx
    obtain ⟨k, _, k2, e⟩ := h.2.2 x (Nat.zero_le _) hx
    exact ⟨k, k2, e⟩
/-- by cost, and by number where the costs are alike -/
def Lex (c : Nat → Nat) (x y : Nat) : Prop := c x < c y ∨ (c x = c y ∧ x < y)
theorem Lex.irr (c : Nat → Nat) (x : Nat) : ¬ Lex c x x := by simp only [Lex]; omega
theorem Lex.tr (c : Nat → Nat) (x y z : Nat) : Lex c x y → Lex c y z → Lex c x z := by
  simp only [Lex]; omega
/-- the edges cost by cost, each cost's in their order -/
def byCost (c : Nat → Nat) (n : Nat) : Nat → List Nat
  | 0 => []
  | k + 1 => byCost c n k ++ (List.range n).filter (fun x => c x = k)
theorem byCost_mem (c : Nat → Nat) (n : Nat) : ∀ (m x : Nat), x ∈ byCost c n m ↔ x < n ∧ c x < m
  | 0, x => by simp [byCost]
  | k + 1, x => by
    simp only [byCost, List.mem_append, byCost_mem c n k, List.mem_filter, List.mem_range,
      decide_eq_true_eq]
    omega
theorem byCost_up (c : Nat → Nat) (n : Nat) : ∀ m, (byCost c n m).Pairwise (Lex c)
  | 0 => List.Pairwise.nil
  | k + 1 => by
    rw [byCost, List.pairwise_append]
    refine ⟨byCost_up c n k, ?_, ?_⟩
    · have h := (List.pairwise_lt_range (n := n)).filter (fun x => decide (c x = k))
      refine h.imp_of_mem ?_
      intro x y hx hy hxy
      simp only [List.mem_filter, decide_eq_true_eq] at hx hy
      exact Or.inr ⟨by rw [hx.2, hy.2], hxy⟩
    · intro x hx y hy
      rw [byCost_mem] at hx
      simp only [List.mem_filter, decide_eq_true_eq] at hy
      exact Or.inl (by omega)
/-- a row of the numbers below n that rises so is the edges cost by cost -/
theorem sorted {c : Nat → Nat} {f : Nat → Nat} {n m : Nat} (hc : ∀ x, x < n → c x < m)
    (u : Up (Lex c) f 0 n) (h : From f id 0 n) : row id f n = byCost c n m := by
  refine only (Lex.irr c) (Lex.tr c) (row_up u) (byCost_up c n m) (fun x => ?_)
  rw [row_mem h, byCost_mem]
  exact ⟨fun hx => ⟨hx, hc x hx⟩, fun hx => hx.1⟩

/-- two blocks of n change places -/
def swr (f : Nat → Nat) (a b n : Nat) : Nat → Nat := fun k =>
  if a ≤ k ∧ k < a + n then f (b + (k - a)) else if b ≤ k ∧ k < b + n then f (a + (k - b)) else f k
theorem swr_zero (f : Nat → Nat) (a b : Nat) : swr f a b 0 = f := by
  funext k
  simp only [swr]
  rw [if_neg (by omega), if_neg (by omega)]
theorem swr_step {f : Nat → Nat} {a b n i : Nat} (hd : a + n ≤ b) (hi : i < n) :
    swp (swr f a b i) (a + i) (b + i) = swr f a b (i + 1) := by
  funext k
  simp only [swr, swp]
  repeat' split
  all_goals first | (exfalso; omega) | rfl | (congr 1; omega)
/-- a rotation's three steps -/
theorem rot_more {g : Nat → Nat} {m i j : Nat} (hi : i ≤ m) (h : j < i) :
    rot (swr g (m - i) m j) (m - (i - j)) m (m + j) = rot g (m - i) m (m + j) := by
  funext k
  simp only [swr, rot]
  repeat' split
  all_goals first | (exfalso; omega) | rfl | (congr 1; omega)
theorem rot_less {g : Nat → Nat} {m i j : Nat} (hi : i ≤ m) (h : i < j) :
    rot (swr g (m - i) (m + j - i) i) (m - i) m (m + (j - i)) = rot g (m - i) m (m + j) := by
  funext k
  simp only [swr, rot]
  repeat' split
  all_goals first | (exfalso; omega) | rfl | (congr 1; omega)
theorem rot_even {g : Nat → Nat} {m i : Nat} (hi : i ≤ m) :
    swr g (m - i) m i = rot g (m - i) m (m + i) := by
  funext k
  simp only [swr, rot]
  repeat' split
  all_goals first | (exfalso; omega) | rfl | (congr 1; omega)
/-- one place is carried up, one place down -/
theorem up_zero (f : Nat → Nat) (a : Nat) : rot f a (a + 1) (a + 1) = f := by
  funext k
  simp only [rot]
  repeat' split
  all_goals first | (exfalso; omega) | rfl | (congr 1; omega)
theorem up_step {f : Nat → Nat} {a k : Nat} (h : a ≤ k) :
    swp (rot f a (a + 1) (k + 1)) k (k + 1) = rot f a (a + 1) (k + 2) := by
  funext x
  simp only [rot, swp]
  repeat' split
  all_goals first | (exfalso; omega) | rfl | (congr 1; omega)
theorem down_zero (f : Nat → Nat) (m : Nat) : rot f m m (m + 1) = f := by
  funext k
  simp only [rot]
  repeat' split
  all_goals first | (exfalso; omega) | rfl | (congr 1; omega)
theorem down_step {f : Nat → Nat} {k m : Nat} (h0 : 0 < k) (h : k ≤ m) :
    swp (rot f k m (m + 1)) k (k - 1) = rot f (k - 1) m (m + 1) := by
  funext x
  simp only [rot, swp]
  repeat' split
  all_goals first | (exfalso; omega) | rfl | (congr 1; omega)
section
variable {R : Nat → Nat → Prop} {f : Nat → Nat} {a m b i : Nat}
theorem Up.or {c d i j : Nat} (u : Up R f c d) (h1 : c ≤ i) (h2 : i ≤ j) (h3 : j < d) :
    f i = f j ∨ R (f i) (f j) := by
  rcases Nat.lt_or_eq_of_le h2 with h | h
  · exact Or.inr (u i j h1 h h3)
  · exact Or.inl (by rw [h])
/-- the first is laid where it belongs among the rest -/
theorem ins_lo (tr : ∀ x y z, R x y → R y z → R x z) (h1 : a + 1 ≤ i) (h2 : i ≤ b) (u : Up R f (a + 1) b)
    (k1 : a + 1 < i → R (f (i - 1)) (f a)) (k2 : i < b → R (f a) (f i)) :
    Up R (rot f a (a + 1) i) a b := by
  intro p q p1 p2 p3
  by_cases hp : p < a + (i - (a + 1))
  · rw [rot_l p1 hp]
    by_cases hq : q < a + (i - (a + 1))
    · rw [rot_l (by omega) hq]; exact u _ _ (by omega) (by omega) (by omega)
    · by_cases hq2 : q < i
      · rw [rot_r (by omega) hq2]
        have e : q - (i - (a + 1)) = a := by omega
        rw [e]
        rcases u.or (show a + 1 ≤ p + (a + 1 - a) by omega) (show p + (a + 1 - a) ≤ i - 1 by omega) (by omega) with h | h
        · rw [h]; exact k1 (by omega)
        · exact tr _ _ _ h (k1 (by omega))
      · rw [rot_hi (by omega) h1 (by omega)]; exact u _ _ (by omega) (by omega) p3
  · by_cases hp2 : p < i
    · rw [rot_r (by omega) hp2, rot_hi (by omega) h1 (by omega)]
      have e : p - (i - (a + 1)) = a := by omega
      rw [e]
      rcases u.or (show a + 1 ≤ i by omega) (show i ≤ q by omega) p3 with h | h
      · rw [← h]; exact k2 (by omega)
      · exact tr _ _ _ (k2 (by omega)) h
    · rw [rot_hi (by omega) h1 (by omega), rot_hi (by omega) h1 (by omega)]; exact u _ _ (by omega) p2 p3
/-- the last is laid where it belongs among the rest -/
theorem ins_hi (tr : ∀ x y z, R x y → R y z → R x z) (h1 : a ≤ i) (h2 : i ≤ m) (u : Up R f a m)
    (k1 : a < i → R (f (i - 1)) (f m)) (k2 : i < m → R (f m) (f i)) :
    Up R (rot f i m (m + 1)) a (m + 1) := by
  intro p q p1 p2 p3
  by_cases hp : p < i
  · rw [rot_lo hp]
    by_cases hq : q < i
    · rw [rot_lo hq]; exact u _ _ p1 p2 (by omega)
    · by_cases hq2 : q = i
      · rw [rot_l (by omega) (by omega)]
        have e : q + (m - i) = m := by omega
        rw [e]
        rcases u.or p1 (show p ≤ i - 1 by omega) (by omega) with h | h
        · rw [h]; exact k1 (by omega)
        · exact tr _ _ _ h (k1 (by omega))
      · rw [rot_r (by omega) p3]; exact u _ _ p1 (by omega) (by omega)
  · by_cases hp2 : p = i
    · rw [rot_l (by omega) (by omega), rot_r (by omega) p3]
      have e : p + (m - i) = m := by omega
      rw [e]
      rcases u.or h1 (show i ≤ q - (m + 1 - m) by omega) (by omega) with h | h
      · rw [← h]; exact k2 (by omega)
      · exact tr _ _ _ (k2 (by omega)) h
    · rw [rot_r (by omega) (by omega), rot_r (by omega) p3]; exact u _ _ (by omega) (by omega) (by omega)
end
end MSym
end Go.Proofs.Ytdglialjcibbbaa
