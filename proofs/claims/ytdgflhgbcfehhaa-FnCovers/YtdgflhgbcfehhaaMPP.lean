/- The pieces of a bundle, put together (FnPieces): plain facts. -/
import Derived.Test.YtdgflhgbcfehhaaMPD
import Derived.Test.YtdgflhgbcfehhaaMCB
import Derived.Test.YtdgflhgbcfehhaaMPW
import Derived.Test.YtdgflhgbcfehhaaCCutPiece
namespace Go.Proofs.Ytdgflhgbcfehhaa
namespace PP
open MP PL
/-- The bytes i to e of a bundle, as a piece of it. -/
def mk (b : Bd) (i e : Nat) : Bd := ⟨b.fr, b.to, b.gr, b.md, b.no, b.lf, b.hp, (i : Int), (b.py.size : Int), b.py.extract i e⟩
structure Wh (b : Bd) : Prop where
  good : B1.good b = true
  tl : b.tl = 0
  n1 : 1 ≤ b.py.size
theorem Wh.n60 {b : Bd} (h : Wh b) : b.py.size ≤ 60 := (CB.good_of h.good h.tl).2
theorem Wh.of_ {b : Bd} (h : Wh b) : b.of = 0 := (CB.good_of h.good h.tl).1
def Is (b x : Bd) : Prop := ∃ i e : Nat, i < e ∧ e ≤ b.py.size ∧ x = mk b i e
theorem size_ext (s : ByteArray) (i e : Nat) (h : e ≤ s.size) : (s.extract i e).size = e - i := by rw [ByteArray.size_extract]; omega
theorem size_mk {b : Bd} {i e : Nat} (he : e ≤ b.py.size) : (mk b i e).py.size = e - i := size_ext _ _ _ he
theorem gb_ext (s : ByteArray) (i e k : Nat) (h : e ≤ s.size) (hk : k < e - i) : M3.gb (s.extract i e) k = M3.gb s (i + k) := by
  have h1 : k < (s.extract i e).size := by rw [size_ext s i e h]; exact hk
  rw [← M3.gb_eq _ k h1, ← M3.gb_eq s (i + k) (by omega), ByteArray.getElem_extract]
theorem head_mk (b : Bd) (i e : Nat) : B1.head (mk b i e) = B1.head b := rfl
theorem pg_mk {b : Bd} (W : Wh b) {i e : Nat} (hi : i < e) (he : e ≤ b.py.size) : pg (mk b i e) = true := by
  have hs := size_mk (b := b) (i := i) he
  have hn := W.n60
  have h1 := W.good
  have hh : B1.head b = true := by
    unfold B1.good at h1
    simp only [Bool.and_eq_true] at h1
    exact h1.1.1
  have ht : (mk b i e).tl = (b.py.size : Int) := rfl
  have ho : (mk b i e).of = (i : Int) := rfl
  simp only [pg, Bool.and_eq_true, decide_eq_true_eq]
  refine ⟨?_, by rw [ht]; have := W.n1; omega⟩
  unfold B1.good B1.placed
  rw [head_mk, hh, hs, ht, ho, if_neg (by have := W.n1; omega)]
  simp only [Bool.and_eq_true, decide_eq_true_eq, Bool.true_and]
  have := W.n1
  exact ⟨by omega, ⟨B1.inB_yes (by omega), by omega⟩, B1.inB_yes (by omega)⟩
theorem one_mk (b : Bd) (i e i' e' : Nat) : one (mk b i e) (mk b i' e') = true := one_iff.2 ⟨rfl, rfl, rfl, rfl, rfl, rfl, rfl⟩
theorem inn_mk {b : Bd} {i e p : Nat} (hi : i < e) (he : e ≤ b.py.size) : inn (mk b i e) p = true ↔ i ≤ p ∧ p < e := by
  rw [inn_iff, size_mk he]
  show (i : Int) ≤ p ∧ (p : Int) < (i : Int) + ((e - i : Nat) : Int) ↔ _
  omega
theorem val_mk {b : Bd} {i e p : Nat} (he : e ≤ b.py.size) (h1 : i ≤ p) (h2 : p < e) : val (mk b i e) p = M3.gb b.py p := by
  unfold val
  show M3.gb (b.py.extract i e) ((p : Int) - (i : Int)).toNat = _
  rw [show ((p : Int) - (i : Int)).toNat = p - i from by omega, gb_ext _ _ _ _ he (by omega), show i + (p - i) = p from by omega]
theorem agr_mk {b : Bd} {i e i' e' : Nat} (hi : i < e) (he : e ≤ b.py.size) (hi' : i' < e') (he' : e' ≤ b.py.size) : agr (mk b i e) (mk b i' e') = true := by
  refine (agr_iff (show (0 : Int) ≤ (mk b i e).of from Int.natCast_nonneg i)).2 fun p h1 h2 => ?_
  have a1 := (inn_mk hi he).1 h1
  have a2 := (inn_mk hi' he').1 h2
  rw [val_mk he a1.1 a1.2, val_mk he' a2.1 a2.2]
/-- Pieces of one bundle in order make a good pile. -/
theorem good_of {b : Bd} (W : Wh b) {xs : List Bd} (h : ∀ j, j < xs.length → Is b (at_ xs j)) (hs : ∀ j, j + 1 < xs.length → PL.ahead (at_ xs j) (at_ xs (j + 1)) = true) (hl : xs.length ≤ 60) : PL.good xs = true := by
  simp only [PL.good, Bool.and_eq_true, decide_eq_true_eq]
  refine ⟨upto_iff.2 fun i hi => ?_, hl⟩
  obtain ⟨i0, e0, h0, k0, q0⟩ := h 0 (by omega)
  obtain ⟨ii, ei, hi1, hi2, qi⟩ := h i hi
  simp only [stepS, Bool.and_eq_true, Bool.or_eq_true, decide_eq_true_eq]
  refine ⟨⟨⟨by rw [qi]; exact pg_mk W hi1 hi2, by rw [qi, q0]; exact one_mk _ _ _ _ _⟩, ?_⟩, upto_iff.2 fun j hj => ?_⟩
  · by_cases e : i = 0
    · exact .inl e
    · right
      have := hs (i - 1) (by omega)
      rwa [show i - 1 + 1 = i from by omega] at this
  · obtain ⟨ij, ej, hj1, hj2, qj⟩ := h j (by omega)
    rw [qi, qj]
    exact agr_mk hi1 hi2 hj1 hj2
theorem same_of {b x y : Bd} (hx : Is b x) (hy : Is b y) (h1 : x.of = y.of) (h2 : x.py.size = y.py.size) : PD.same x y = true := by
  obtain ⟨i, e, hi, he, rfl⟩ := hx
  obtain ⟨i', e', hi', he', rfl⟩ := hy
  rw [size_mk he, size_mk he'] at h2
  have h1' : (i : Int) = (i' : Int) := h1
  obtain rfl : i = i' := by omega
  obtain rfl : e = e' := by omega
  simp [PD.same, one_refl]
structure Pile (b : Bd) (xs : List Bd) : Prop where
  is : ∀ x, x ∈ xs → Is b x
  good : PL.good xs = true
theorem at_mem {xs : List Bd} {j : Nat} (h : j < xs.length) : at_ xs j ∈ xs := by rw [at_eq xs j h]; exact List.getElem_mem h
theorem mem_at {xs : List Bd} {x : Bd} (h : x ∈ xs) : ∃ j, j < xs.length ∧ at_ xs j = x := by
  obtain ⟨j, hj, rfl⟩ := List.mem_iff_getElem.1 h
  exact ⟨j, hj, at_eq xs j hj⟩
theorem Pile.nil (b : Bd) : Pile b [] := ⟨fun x hx => by simp at hx, rfl⟩
theorem Pile.len {b : Bd} {xs : List Bd} (P : Pile b xs) : xs.length ≤ 60 := (good_inv P.good).2
theorem put_lt {xs : List Bd} {x : Bd} {k j : Nat} (hk : k ≤ xs.length) (hj : j < k) : at_ (PD.put xs x k) j = at_ xs j := by
  unfold at_ PD.put
  rw [List.getElem?_append_left (by simp; omega), List.getElem?_take_of_lt hj]
theorem put_gt {xs : List Bd} {x : Bd} {k j : Nat} (hk : k ≤ xs.length) (hj : k < j) : at_ (PD.put xs x k) j = at_ xs (j - 1) := by
  unfold at_ PD.put
  rw [List.getElem?_append_right (by simp; omega)]
  have e : j - (xs.take k).length = (j - 1 - k) + 1 := by simp; omega
  rw [e, List.getElem?_cons_succ, List.getElem?_drop]
  congr 2; omega
theorem put_mem {xs : List Bd} {x : Bd} (k : Nat) {y : Bd} : y ∈ PD.put xs x k ↔ y = x ∨ y ∈ xs := by
  unfold PD.put
  rw [List.mem_append, List.mem_cons]
  constructor
  · rintro (h | h | h)
    · exact .inr (List.mem_of_mem_take h)
    · exact .inl h
    · exact .inr (List.mem_of_mem_drop h)
  · rintro (h | h)
    · exact .inr (.inl h)
    · rw [← List.take_append_drop k xs, List.mem_append] at h
      rcases h with h | h
      · exact .inl h
      · exact .inr (.inr h)
/-- A piece that comes anew goes to its place. -/
theorem put_good {b : Bd} (W : Wh b) {xs : List Bd} {x : Bd} (P : Pile b xs) (hx : Is b x) (hno : xs.any (PD.same x) = false) (hl : xs.length < 60) : Pile b (PD.put xs x (PD.cut xs x)) := by
  obtain ⟨hc, hlo, hhi⟩ := PD.cut_spec xs x
  generalize PD.cut xs x = k at *
  have his : ∀ y, y ∈ PD.put xs x k → Is b y := fun y hy => by
    rcases (put_mem k).1 hy with rfl | h
    · exact hx
    · exact P.is y h
  refine ⟨his, good_of W (fun j hj => his _ (at_mem hj)) (fun j hj => ?_) (by rw [PD.put_len hc]; omega)⟩
  rw [PD.put_len hc] at hj
  by_cases c1 : j + 1 < k
  · rw [put_lt hc (by omega), put_lt hc c1]
    exact PD.good_ahead P.good (by omega)
  · by_cases c2 : j + 1 = k
    · rw [put_lt hc (by omega), c2, PD.put_at hc]
      exact hlo j (by omega)
    · by_cases c3 : j = k
      · subst c3
        rw [PD.put_at hc, PD.put_next (by omega)]
        have h1 := PD.ahead_no.1 (hhi (by omega))
        rw [PD.ahead_iff]
        rcases Int.lt_trichotomy x.of (at_ xs j).of with g | g | g
        · exact .inl g
        · right
          refine ⟨g, ?_⟩
          rcases Nat.lt_trichotomy x.py.size (at_ xs j).py.size with g2 | g2 | g2
          · exact g2
          · exfalso
            have hs := same_of hx (P.is _ (at_mem (j := j) (by omega))) g g2
            have : xs.any (PD.same x) = true := PD.any_at.2 ⟨j, by omega, hs⟩
            rw [hno] at this; cases this
          · exact absurd (.inr ⟨g.symm, g2⟩) h1
        · exact absurd (.inl g) h1
      · rw [put_gt hc (by omega), put_gt hc (by omega), show j + 1 - 1 = (j - 1) + 1 from by omega]
        exact PD.good_ahead P.good (by omega)
theorem any_self {xs : List Bd} {x : Bd} (h : x ∈ xs) : xs.any (PD.same x) = true := List.any_eq_true.2 ⟨x, h, by simp [PD.same, one_refl]⟩
/-- What comes of a piece of the bundle that is added. -/
theorem ans_is {b : Bd} (W : Wh b) {xs : List Bd} {x : Bd} (P : Pile b xs) (hx : Is b x) :
    ((PD.ans xs x).2 = true ∧ Pile b (PD.ans xs x).1 ∧ (∃ y, y ∈ (PD.ans xs x).1 ∧ PD.same x y = true) ∧ (∀ y, y ∈ xs → y ∈ (PD.ans xs x).1)) ∨ ((PD.ans xs x).2 = false ∧ xs.length = 60) := by
  have hpg : pg x = true := by obtain ⟨i, e, h1, h2, rfl⟩ := hx; exact pg_mk W h1 h2
  unfold PD.ans
  rw [P.good, hpg]
  simp only [Bool.not_true, Bool.or_self, Bool.false_eq_true, if_false]
  cases ha : xs.any (PD.same x) with
  | true =>
    obtain ⟨y, hy, hs⟩ := List.any_eq_true.1 ha
    exact .inl ⟨rfl, P, ⟨y, hy, hs⟩, fun y h => h⟩
  | false =>
    simp only [Bool.false_eq_true, if_false]
    by_cases hl : xs.length < 60
    · have Q := put_good W P hx ha hl
      rw [Q.good]
      simp only [if_true]
      exact .inl ⟨trivial, Q, ⟨x, (put_mem _).2 (.inl rfl), by simp [PD.same, one_refl]⟩, fun y h => (put_mem _).2 (.inr h)⟩
    · have hng : PL.good (PD.put xs x (PD.cut xs x)) = false := by
        rw [Bool.eq_false_iff]; intro hg
        have := (good_inv hg).2
        rw [PD.put_len (PD.cut_spec xs x).1] at this
        omega
      rw [hng]
      simp only [Bool.false_eq_true, if_false]
      exact .inr ⟨trivial, by have := P.len; omega⟩
/-- Once more: nothing new. -/
theorem ans_again {b : Bd} (W : Wh b) {xs : List Bd} {x : Bd} (P : Pile b xs) (hx : Is b x) (hs : ∃ y, y ∈ xs ∧ PD.same x y = true) : PD.ans xs x = (xs, true) := by
  have hpg : pg x = true := by obtain ⟨i, e, h1, h2, rfl⟩ := hx; exact pg_mk W h1 h2
  obtain ⟨y, hy, h⟩ := hs
  have ha : xs.any (PD.same x) = true := List.any_eq_true.2 ⟨y, hy, h⟩
  unfold PD.ans
  rw [P.good, hpg, ha]; rfl
/-- A byte that some piece has. -/
def Cov (xs : List Bd) (p : Nat) : Prop := ∃ y, y ∈ xs ∧ inn y p = true
theorem Cov.of_same {xs : List Bd} {x : Bd} {p : Nat} (h : ∃ y, y ∈ xs ∧ PD.same x y = true) (hp : inn x p = true) : Cov xs p := by
  obtain ⟨y, hy, hs⟩ := h
  have := PD.same_is hs
  refine ⟨y, hy, ?_⟩
  rw [inn_iff] at hp ⊢
  omega
theorem Cov.more {xs ys : List Bd} {p : Nat} (h : Cov xs p) (hm : ∀ y, y ∈ xs → y ∈ ys) : Cov ys p := by
  obtain ⟨y, hy, hp⟩ := h
  exact ⟨y, hm y hy, hp⟩
theorem text_is (s : ByteArray) (g : Nat → Nat) (h : ∀ p, p < s.size → g p = M3.gb s p) : textN s.size g = s := by
  apply ByteArray.ext
  apply Array.ext
  · simp [textN]
  · intro p h1 h2
    have hp : p < s.size := h2
    have e : (textN s.size g).data[p] = UInt8.ofNat (g p) := by simp [textN]
    rw [e, h p hp, ← M3.gb_eq s p hp]
    show UInt8.ofNat (s.data[p]).toNat = s.data[p]
    exact UInt8.ofNat_toNat
theorem min_hp {b : Bd} {xs : List Bd} (P : Pile b xs) (h0 : 0 < xs.length) : ∀ k, k ≤ xs.length → minH xs k = b.hp := by
  have hh : ∀ j, j < xs.length → (at_ xs j).hp = b.hp := fun j hj => by
    obtain ⟨i, e, _, _, q⟩ := P.is _ (at_mem hj)
    rw [q]; rfl
  intro k
  induction k with
  | zero => intro _; exact hh 0 h0
  | succ k ih =>
    intro hk
    have := ih (by omega)
    unfold minH
    rw [this, hh k (by omega)]
    split <;> rfl
/-- All bytes there: the bundle comes back. -/
theorem whole_is {b : Bd} (W : Wh b) {xs : List Bd} (P : Pile b xs) (hc : ∀ p, p < b.py.size → Cov xs p) : wholeOk xs = true ∧ wholeB xs = b ∧ missN xs = 0 := by
  have hn := W.n60
  obtain ⟨y, hy, _⟩ := hc 0 (by have := W.n1; omega)
  have hne : xs ≠ [] := fun e => by rw [e] at hy; simp at hy
  have h0 : 0 < xs.length := List.length_pos_iff.2 hne
  obtain ⟨i0, e0, hi0, he0, q0⟩ := P.is _ (at_mem h0)
  have ht : PL.total xs = b.py.size := by
    unfold PL.total
    rw [if_neg hne, q0]
    exact Int.toNat_natCast _
  obtain ⟨h1, h2, _, _⟩ := (good_inv P.good).1
  have hth : ∀ p, p < b.py.size → (sh xs xs.length).th p = true := fun p hp => by
    obtain ⟨y, hy, hpy⟩ := hc p hp
    obtain ⟨j, hj, rfl⟩ := mem_at hy
    exact (h1 p).2 ⟨j, hj, hpy⟩
  have hm : missN xs ≤ 0 := (miss_iff P.good).2 fun p hp => by
    rw [ht]
    by_cases h : p < b.py.size
    · rw [hth p h]; simp [h]
    · cases hq : (sh xs xs.length).th p with
      | false => simp [h]
      | true => exact absurd (by rw [← ht]; exact th_lt P.good hq) h
  have hm0 : 0 ≤ missN xs := by
    rw [missN_yes P.good, ← covL_spec P.good]
    have hl := List.length_filter_le (PL.sh xs xs.length).th (List.range (PL.total xs))
    have e : (plF (PL.sh xs xs.length).th (PL.total xs)).length = ((List.range (PL.total xs)).filter (PL.sh xs xs.length).th).length := by simp [plF]
    rw [e]
    simp only [List.length_range] at hl
    omega
  have hok : wholeOk xs = true := by simp [wholeOk, P.good, hne, hm]
  refine ⟨hok, ?_, by omega⟩
  rw [whole_yes hok, ht, min_hp P h0 _ (Nat.le_refl _), q0]
  have htx : textN b.py.size (sh xs xs.length).by_ = b.py := text_is b.py _ fun p hp => by
    obtain ⟨y, hy, hpy⟩ := hc p hp
    obtain ⟨j, hj, rfl⟩ := mem_at hy
    rw [h2 j hj p hpy]
    obtain ⟨i, e, hi, he, q⟩ := P.is _ (at_mem hj)
    rw [q] at hpy ⊢
    have := (inn_mk hi he).1 hpy
    exact val_mk he this.1 this.2
  rw [htx]
  obtain ⟨fr, to_, gr, md, no, lf, hp, of_, tl, py⟩ := b
  have e1 : of_ = 0 := W.of_
  have e2 : tl = 0 := W.tl
  subst e1 e2
  rfl
end PP
end Go.Proofs.Ytdgflhgbcfehhaa
