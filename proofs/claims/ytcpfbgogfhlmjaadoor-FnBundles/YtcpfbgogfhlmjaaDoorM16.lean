import Derived.Test.YtcpfbgogfhlmjaaDoorM13
/- One item that bytes begin with (chapter 2): plain facts, no program is named here. -/
namespace Go.Proofs.YtcpfbgogfhlmjaaDoor
namespace M15
/-- The item that bytes begin with, and how many bytes it takes. -/
def flat1 (l : List UInt8) : Option (It × Nat) := match M7.hd l with
  | none => none
  | some (m, n, c) =>
    if m = 0 then some (⟨1, (n : Int), ⟨#[]⟩, 0⟩, c)
    else if m = 4 then some (⟨4, 0, ⟨#[]⟩, (n : Int)⟩, c)
    else if m = 2 ∨ m = 3 then (if n ≤ l.length - c then some (⟨(m : Int), 0, ⟨((l.drop c).take n).toArray⟩, 0⟩, c + n) else none)
    else none
theorem take_add' (l : List UInt8) (c n : Nat) : l.take (c + n) = l.take c ++ (l.drop c).take n := List.take_add
/-- What an item that is read says. -/
theorem flat1_is {l : List UInt8} {x : It} {c : Nat} (h : flat1 l = some (x, c)) : 1 ≤ c ∧ c ≤ l.length ∧ l.take c = M12.ib x := by
  unfold flat1 at h
  cases hh : M7.hd l with
  | none => rw [hh] at h; cases h
  | some q =>
    obtain ⟨m, n, c0⟩ := q
    rw [hh] at h
    simp only at h
    obtain ⟨_, _, h1, h2, h3⟩ := M7.hd_is hh
    by_cases e0 : m = 0
    · subst e0
      simp only [if_true, Option.some.injEq, Prod.mk.injEq] at h
      obtain ⟨rfl, rfl⟩ := h
      exact ⟨h1, h2, by rw [h3, M13.ib1 rfl]; simp⟩
    · by_cases e4 : m = 4
      · subst e4
        simp at h
        obtain ⟨rfl, rfl⟩ := h
        exact ⟨h1, h2, by rw [h3, M13.ib4 (by simp) (by simp) (by simp)]; simp⟩
      · by_cases e23 : m = 2 ∨ m = 3
        · rw [if_neg e0, if_neg e4, if_pos e23] at h
          by_cases hn : n ≤ l.length - c0
          · rw [if_pos hn] at h
            simp only [Option.some.injEq, Prod.mk.injEq] at h
            obtain ⟨rfl, rfl⟩ := h
            refine ⟨by omega, by omega, ?_⟩
            have hsz : (⟨((l.drop c0).take n).toArray⟩ : ByteArray).size = n := by show (((l.drop c0).take n).toArray).size = n; simp; omega
            rcases e23 with rfl | rfl
            · rw [take_add', h3, M13.ib2 rfl]; simp only [hsz]; rfl
            · rw [take_add', h3, M13.ib3 rfl]; simp only [hsz]; rfl
          · rw [if_neg hn] at h; cases h
        · rw [if_neg e0, if_neg e4, if_neg e23] at h; cases h
/-- An item as it is read. -/
def can (x : It) : Prop := (∃ n : Nat, n ≤ 1000000000 ∧ x = ⟨1, (n : Int), ⟨#[]⟩, 0⟩) ∨ (∃ s : ByteArray, s.size ≤ 1000000000 ∧ x = ⟨2, 0, s, 0⟩) ∨ (∃ s : ByteArray, s.size ≤ 1000000000 ∧ x = ⟨3, 0, s, 0⟩) ∨ (∃ n : Nat, n ≤ 1000000000 ∧ x = ⟨4, 0, ⟨#[]⟩, (n : Int)⟩)
theorem fine_can {x : It} (h : M13.fine x) : can x := by
  obtain ⟨k, m, t, y⟩ := x
  rcases h with h | ⟨h, hy⟩
  · by_cases h1 : k = 1
    · subst h1
      rw [M12.leaf1 rfl] at h
      simp [okN] at h
      obtain ⟨⟨⟨a, b⟩, rfl⟩, rfl⟩ := h
      exact .inl ⟨m.toNat, by omega, by rw [Int.toNat_of_nonneg a]⟩
    · by_cases h2 : k = 2
      · subst h2
        rw [M12.leaf2 rfl] at h
        simp at h
        obtain ⟨⟨a, rfl⟩, rfl⟩ := h
        exact .inr (.inl ⟨t, by omega, rfl⟩)
      · by_cases h3 : k = 3
        · subst h3
          rw [M12.leaf3 rfl] at h
          simp at h
          obtain ⟨⟨⟨a, rfl⟩, rfl⟩, _⟩ := h
          exact .inr (.inr (.inl ⟨t, by omega, rfl⟩))
        · rw [M12.leaf0 h1 h2 h3] at h; cases h
  · unfold M12.lst at h
    simp at h
    obtain ⟨⟨⟨rfl, rfl⟩, rfl⟩, a⟩ := h
    exact .inr (.inr (.inr ⟨y.toNat, by simp only at hy; omega, by rw [Int.toNat_of_nonneg a]⟩))
theorem bytes_back (t : ByteArray) (r : List UInt8) : (⟨((M8.bl t ++ r).take t.size).toArray⟩ : ByteArray) = t := by
  apply M8.bl_inj
  show ((M8.bl t ++ r).take t.size) = M8.bl t
  rw [← M8.bl_len t, List.take_left]
/-- An item that was made is read. -/
theorem flat1_ib {x : It} (h : can x) (r : List UInt8) : flat1 (M12.ib x ++ r) = some (x, (M12.ib x).length) := by
  rcases h with ⟨n, hn, rfl⟩ | ⟨t, ht, rfl⟩ | ⟨t, ht, rfl⟩ | ⟨n, hn, rfl⟩
  · rw [M13.ib1 rfl]
    unfold flat1
    simp only [Int.toNat_natCast]
    rw [M7.hd_hb 0 n (by omega) hn]
    rfl
  · rw [M13.ib2 rfl, List.append_assoc]
    unfold flat1
    rw [M7.hd_hb 2 t.size (by omega) ht]
    simp only [List.drop_left, List.length_append, M8.bl_len, bytes_back]
    simp
  · rw [M13.ib3 rfl, List.append_assoc]
    unfold flat1
    rw [M7.hd_hb 3 t.size (by omega) ht]
    simp only [List.drop_left, List.length_append, M8.bl_len, bytes_back]
    simp
  · rw [M13.ib4 (by simp) (by simp) (by simp)]
    unfold flat1
    simp only [Int.toNat_natCast]
    rw [M7.hd_hb 4 n (by omega) hn]
    rfl
end M15
end Go.Proofs.YtcpfbgogfhlmjaaDoor

/- A value's items read from bytes (chapter 2), as a tree and one behind the other: plain facts, no program is named here. -/
namespace Go.Proofs.YtcpfbgogfhlmjaaDoor
namespace M16
open M15
abbrev RO := Option (List It × Nat)
/-- Values that are read behind one another: their items, how many bytes. -/
def rn (f : List UInt8 → RO) : Nat → List UInt8 → RO
  | 0, _ => some ([], 0)
  | m + 1, l => match rn f m l with
    | none => none
    | some (L, c) => match f (l.drop c) with
      | none => none
      | some (L', c') => some (L ++ L', c + c')
def rstep (f : Option (List UInt8 → RO)) (l : List UInt8) : RO := match flat1 l with
  | none => none
  | some (x, c) => if x.kind = 4 then (match f with
      | none => none
      | some g => match rn g x.many.toNat (l.drop c) with
        | none => none
        | some (L, c') => some (x :: L, c + c')) else some ([x], c)
/-- The value that bytes begin with, r lists within one another at most. -/
def rv : Nat → List UInt8 → RO
  | 0 => rstep none
  | r + 1 => rstep (some (rv r))
theorem rn_none {f : List UInt8 → RO} {m k : Nat} {l : List UInt8} (h : rn f m l = none) (hk : m ≤ k) : rn f k l = none := by
  induction k with
  | zero => obtain rfl : m = 0 := by omega
            exact h
  | succ k ih =>
    by_cases e : m = k + 1
    · subst e; exact h
    · rw [rn, ih (by omega)]
theorem rn_stop {f : List UInt8 → RO} {m k c : Nat} {L : List It} {l : List UInt8} (h : rn f m l = some (L, c)) (hf : f (l.drop c) = none) (hk : m < k) : rn f k l = none :=
  rn_none (m := m + 1) (by rw [rn, h]; simp only [hf]) hk
theorem rn_next {f : List UInt8 → RO} {m c c' : Nat} {L L' : List It} {l : List UInt8} (h : rn f m l = some (L, c)) (hf : f (l.drop c) = some (L', c')) : rn f (m + 1) l = some (L ++ L', c + c') := by
  rw [rn, h]; simp only [hf]
/-- What is read: its items are as items are read, their bytes are those that were there. -/
def Ok (l : List UInt8) (L : List It) (c : Nat) : Prop := c ≤ l.length ∧ M12.bytes L = l.take c ∧ (∀ x ∈ L, can x) ∧ L.length ≤ c
theorem flat1_can {l : List UInt8} {x : It} {c : Nat} (h : flat1 l = some (x, c)) : can x := by
  unfold flat1 at h
  cases hh : M7.hd l with
  | none => rw [hh] at h; cases h
  | some q =>
    obtain ⟨m, n, c0⟩ := q
    rw [hh] at h
    simp only at h
    obtain ⟨_, hn, h1, h2, h3⟩ := M7.hd_is hh
    by_cases e0 : m = 0
    · subst e0
      simp only [if_true, Option.some.injEq, Prod.mk.injEq] at h
      obtain ⟨rfl, rfl⟩ := h
      exact .inl ⟨n, hn, rfl⟩
    · by_cases e4 : m = 4
      · subst e4
        simp at h
        obtain ⟨rfl, rfl⟩ := h
        exact .inr (.inr (.inr ⟨n, hn, rfl⟩))
      · by_cases e23 : m = 2 ∨ m = 3
        · rw [if_neg e0, if_neg e4, if_pos e23] at h
          by_cases hn' : n ≤ l.length - c0
          · rw [if_pos hn'] at h
            simp only [Option.some.injEq, Prod.mk.injEq] at h
            obtain ⟨rfl, rfl⟩ := h
            have hsz : (⟨((l.drop c0).take n).toArray⟩ : ByteArray).size = n := by show (((l.drop c0).take n).toArray).size = n; simp; omega
            rcases e23 with rfl | rfl
            · exact .inr (.inl ⟨_, by rw [hsz]; exact hn, rfl⟩)
            · exact .inr (.inr (.inl ⟨_, by rw [hsz]; exact hn, rfl⟩))
          · rw [if_neg hn'] at h; cases h
        · rw [if_neg e0, if_neg e4, if_neg e23] at h; cases h
theorem rn_ok {f : List UInt8 → RO} (hf : ∀ l L c, f l = some (L, c) → 1 ≤ c ∧ Ok l L c) : ∀ (m : Nat) (l : List UInt8) (L : List It) (c : Nat), rn f m l = some (L, c) → m ≤ c ∧ Ok l L c := by
  intro m
  induction m with
  | zero =>
    intro l L c h
    simp only [rn, Option.some.injEq, Prod.mk.injEq] at h
    obtain ⟨rfl, rfl⟩ := h
    exact ⟨by omega, by omega, by simp [M12.bytes], by simp, by simp⟩
  | succ m ih =>
    intro l L c h
    rw [rn] at h
    cases h1 : rn f m l with
    | none => rw [h1] at h; cases h
    | some p =>
      obtain ⟨L1, c1⟩ := p
      rw [h1] at h
      simp only at h
      cases h2 : f (l.drop c1) with
      | none => rw [h2] at h; cases h
      | some p =>
        obtain ⟨L2, c2⟩ := p
        rw [h2] at h
        simp only [Option.some.injEq, Prod.mk.injEq] at h
        obtain ⟨rfl, rfl⟩ := h
        obtain ⟨a0, a1, a2, a3, a4⟩ := ih l L1 c1 h1
        obtain ⟨b0, b1, b2, b3, b4⟩ := hf _ L2 c2 h2
        rw [List.length_drop] at b1
        refine ⟨by omega, by omega, ?_, ?_, by rw [List.length_append]; omega⟩
        · rw [M12.bytes_app, a2, b2, List.take_add]
        · intro x hx
          rcases List.mem_append.1 hx with hx | hx
          · exact a3 x hx
          · exact b3 x hx
theorem bytes_cons (x : It) (L : List It) : M12.bytes (x :: L) = M12.ib x ++ M12.bytes L := rfl
theorem rstep_ok {f : Option (List UInt8 → RO)} (hf : ∀ g, f = some g → ∀ l L c, g l = some (L, c) → 1 ≤ c ∧ Ok l L c) : ∀ (l : List UInt8) (L : List It) (c : Nat), rstep f l = some (L, c) → 1 ≤ c ∧ Ok l L c := by
  intro l L c h
  unfold rstep at h
  cases h0 : flat1 l with
  | none => rw [h0] at h; cases h
  | some p =>
    obtain ⟨x, c0⟩ := p
    rw [h0] at h
    simp only at h
    obtain ⟨i1, i2, i3⟩ := flat1_is h0
    have ic := flat1_can h0
    by_cases h4 : x.kind = 4
    · rw [if_pos h4] at h
      cases f with
      | none => cases h
      | some g =>
        simp only at h
        cases h3 : rn g x.many.toNat (l.drop c0) with
        | none => rw [h3] at h; cases h
        | some q =>
          obtain ⟨L1, c1⟩ := q
          rw [h3] at h
          simp only [Option.some.injEq, Prod.mk.injEq] at h
          obtain ⟨rfl, rfl⟩ := h
          obtain ⟨a0, a1, a2, a3, a4⟩ := rn_ok (hf g rfl) _ _ _ _ h3
          rw [List.length_drop] at a1
          refine ⟨by omega, by omega, ?_, ?_, by rw [List.length_cons]; omega⟩
          · rw [bytes_cons, a2, ← i3, List.take_add]
          · intro y hy
            rcases List.mem_cons.1 hy with rfl | hy
            · exact ic
            · exact a3 y hy
    · rw [if_neg h4] at h
      simp only [Option.some.injEq, Prod.mk.injEq] at h
      obtain ⟨rfl, rfl⟩ := h
      refine ⟨i1, i2, by rw [i3]; simp [M12.bytes], ?_, by simp; omega⟩
      intro y hy
      simp at hy
      subst hy
      exact ic
theorem rv_ok : ∀ (r : Nat) (l : List UInt8) (L : List It) (c : Nat), rv r l = some (L, c) → 1 ≤ c ∧ Ok l L c := by
  intro r
  induction r with
  | zero => exact rstep_ok (fun g hg => by cases hg)
  | succ r ih => exact rstep_ok (fun g hg => by cases hg; exact ih)
theorem leaf_kind {x : It} (h : M12.leaf x = true) : x.kind ≠ 4 := by
  intro h4
  have := M12.leaf_lst h
  unfold M12.leaf at h
  rw [if_neg (by omega), if_neg (by omega), if_neg (by omega)] at h
  cases h
theorem lst_kind {x : It} (h : M12.lst x = true) : x.kind = 4 := by
  unfold M12.lst at h; simp at h; exact h.1.1.1
theorem ib_pos (x : It) : 1 ≤ (M12.ib x).length := by
  unfold M12.ib
  have p := fun m n => (M7.hb_pos m n).1
  (repeat' split) <;> (try rw [List.length_append]) <;> (first | (have := p 0 x.num.toNat; omega) | (have := p 2 x.text.size; omega) | (have := p 3 x.text.size; omega) | (have := p 4 x.many.toNat; omega))
/-- A value that was made is read. -/
theorem rn_of {g : List It → M12.O} {f : List UInt8 → RO} {rest : List UInt8} {n : Nat} (hg : ∀ l c d, (∀ x ∈ l, can x) → (M12.bytes l ++ rest).length ≤ n → g l = some (c, d) → f (M12.bytes l ++ rest) = some (l.take c, (M12.bytes (l.take c)).length)) :
    ∀ (m : Nat) (l : List It) (c d : Nat), (∀ x ∈ l, can x) → (M12.bytes l ++ rest).length ≤ n → M12.nOf g m l = some (c, d) → rn f m (M12.bytes l ++ rest) = some (l.take c, (M12.bytes (l.take c)).length) := by
  intro m
  induction m with
  | zero => intro l c d _ _ h; simp [M12.nOf] at h; obtain ⟨rfl, rfl⟩ := h; simp [rn, M12.bytes]
  | succ m ih =>
    intro l c d hc hn h
    rw [M12.nOf] at h
    cases h1 : M12.nOf g m l with
    | none => rw [h1] at h; cases h
    | some p =>
      obtain ⟨c1, d1⟩ := p
      rw [h1] at h
      simp only at h
      cases h2 : g (l.drop c1) with
      | none => rw [h2] at h; cases h
      | some p =>
        obtain ⟨c2, d2⟩ := p
        rw [h2] at h
        simp only [Option.some.injEq, Prod.mk.injEq] at h
        obtain ⟨rfl, _⟩ := h
        have e : M12.bytes l = M12.bytes (l.take c1) ++ M12.bytes (l.drop c1) := by rw [← M12.bytes_app, List.take_append_drop]
        have ed : (M12.bytes l ++ rest).drop (M12.bytes (l.take c1)).length = M12.bytes (l.drop c1) ++ rest := by rw [e, List.append_assoc, List.drop_left]
        have hn2 : (M12.bytes (l.drop c1) ++ rest).length ≤ n := by rw [← ed, List.length_drop]; omega
        have a := ih l c1 d1 hc hn h1
        have b := hg (l.drop c1) c2 d2 (fun x hx => hc x (List.mem_of_mem_drop hx)) hn2 h2
        rw [rn_next a (by rw [ed]; exact b), List.take_add, M12.bytes_app, List.length_append]
theorem rv_of : ∀ (q r : Nat) (l : List It) (c d : Nat) (rest : List UInt8), (∀ x ∈ l, can x) → (M12.bytes l ++ rest).length ≤ r → M12.vl q l = some (c, d) → rv r (M12.bytes l ++ rest) = some (l.take c, (M12.bytes (l.take c)).length) := by
  have leafy : ∀ (f : Option (List UInt8 → RO)) (x : It) (l : List It) (rest : List UInt8), can x → M12.leaf x = true → rstep f (M12.bytes (x :: l) ++ rest) = some ((x :: l).take 1, (M12.bytes ((x :: l).take 1)).length) := fun f x l rest hc hl => by
    unfold rstep
    rw [bytes_cons, List.append_assoc, flat1_ib hc]
    simp only [if_neg (leaf_kind hl), List.take_succ_cons, List.take_zero, bytes_cons]
    simp [M12.bytes]
  intro q
  induction q with
  | zero =>
    intro r l c d rest hc hn h
    cases l with
    | nil => cases h
    | cons x l =>
      have h' : M12.step none (x :: l) = some (c, d) := h
      rw [M12.step_cons] at h'
      cases h1 : M12.leaf x with
      | false => cases h2 : M12.lst x <;> simp [h1, h2] at h'
      | true =>
        simp [h1] at h'
        obtain ⟨rfl, rfl⟩ := h'
        cases r <;> exact leafy _ x l rest (hc x (by simp)) h1
  | succ q ih =>
    intro r l c d rest hc hn h
    cases l with
    | nil => cases h
    | cons x l =>
      have h' : M12.step (some (M12.vl q)) (x :: l) = some (c, d) := h
      rw [M12.step_cons] at h'
      cases h1 : M12.leaf x with
      | true =>
        simp [h1] at h'
        obtain ⟨rfl, rfl⟩ := h'
        cases r <;> exact leafy _ x l rest (hc x (by simp)) h1
      | false =>
        cases h2 : M12.lst x with
        | false => simp [h1, h2] at h'
        | true =>
          cases h3 : M12.nOf (M12.vl q) x.many.toNat l with
          | none => simp [h1, h2, h3] at h'
          | some p =>
            obtain ⟨c1, d1⟩ := p
            simp [h1, h2, h3] at h'
            obtain ⟨rfl, rfl⟩ := h'
            have hp := ib_pos x
            rw [bytes_cons, List.append_assoc, List.length_append] at hn
            cases r with
            | zero => omega
            | succ r =>
              have hc' : ∀ y ∈ l, can y := fun y hy => hc y (List.mem_cons_of_mem _ hy)
              have a := rn_of (g := M12.vl q) (f := rv r) (rest := rest) (n := r) (fun l' c' d' a1 a2 a3 => ih r l' c' d' rest a1 a2 a3) x.many.toNat l c1 d1 hc' (by omega) h3
              show rstep (some (rv r)) (M12.bytes (x :: l) ++ rest) = _
              unfold rstep
              rw [bytes_cons, List.append_assoc, flat1_ib (hc x (by simp))]
              simp only [if_pos (lst_kind h2), List.drop_left, a, List.take_succ_cons, bytes_cons, List.length_append]
theorem good_one {L : List It} (h : M12.good L = true) : M12.one L = true ∧ (M12.bytes L).length ≤ 400 := by
  unfold M12.good at h; simp at h; exact h
theorem good_can {L : List It} (h : M12.good L = true) : ∀ x ∈ L, can x := fun x hx => by
  obtain ⟨j, hj, rfl⟩ := List.getElem_of_mem hx
  have := M13.one_fine (good_one h).1 j hj
  rw [M11.at_eq L j hj] at this
  exact fine_can this
/-- What ReadItems answers. -/
def pick (s : ByteArray) (o : RO) : List It × Bool := match o with
  | none => ([], false)
  | some (L, c) => if c = s.size ∧ M12.good L = true then (L, true) else ([], false)
def read (s : ByteArray) : List It × Bool := if s.size ≤ 400 then pick s (rv s.size (M8.bl s)) else ([], false)
theorem read_yes {s : ByteArray} {L : List It} (h : M12.good L = true) (hb : M12.bytes L = M8.bl s) (h4 : s.size ≤ 400) : read s = (L, true) := by
  obtain ⟨_, d, h5⟩ := M13.one_some (good_one h).1
  have e := rv_of 5 s.size L L.length d [] (good_can h) (by rw [List.append_nil, hb, M8.bl_len]; omega) h5
  rw [List.append_nil, List.take_length, hb, M8.bl_len] at e
  unfold read pick
  rw [if_pos h4, e]
  simp [h]
theorem read_no {s : ByteArray} (h : ∀ L, M12.good L = true → M12.bytes L ≠ M8.bl s) : read s = ([], false) := by
  unfold read
  split
  · cases e : rv s.size (M8.bl s) with
    | none => rfl
    | some p =>
      obtain ⟨L, c⟩ := p
      unfold pick
      simp only
      split
      · rename_i hh
        obtain ⟨_, _, e2, _⟩ := rv_ok _ _ _ _ e
        rw [hh.1, ← M8.bl_len, List.take_length] at e2
        exact absurd e2 (h L hh.2)
      · rfl
  · rfl
/-- The specification's loop. -/
def fin (s : ByteArray) (acc : List It) : List It × Bool := if M12.good acc = true ∧ M12.bytes acc = M8.bl s then (acc, true) else ([], false)
def rdS (s : ByteArray) : Nat → Nat → List It → List It × Bool
  | 0, _, acc => fin s acc
  | f + 1, k, acc => if k < s.size ∧ acc.length ≤ 40 then (match flat1 ((M8.bl s).drop k) with
      | none => ([], false)
      | some (x, c) => rdS s f (k + c) (acc ++ [x])) else fin s acc
theorem bytes_nil {L : List It} (h : M12.bytes L = []) : L = [] := by
  cases L with
  | nil => rfl
  | cons x L => rw [bytes_cons] at h; have := ib_pos x; have h' := congrArg List.length h; rw [List.length_append, List.length_nil] at h'; omega
theorem rdS_yes {s : ByteArray} {L : List It} (h : M12.good L = true) (hb : M12.bytes L = M8.bl s) : ∀ (f k : Nat) (acc R : List It), acc ++ R = L → M12.bytes R = (M8.bl s).drop k → s.size ≤ k + f → rdS s f k acc = (L, true) := by
  have e0 : fin s L = (L, true) := if_pos ⟨h, hb⟩
  have hl := (M13.one_some (good_one h).1).1
  have hend : ∀ k (acc R : List It), acc ++ R = L → M12.bytes R = (M8.bl s).drop k → s.size ≤ k → fin s acc = (L, true) := fun k acc R h1 h2 h3 => by
    rw [List.drop_eq_nil_of_le (by rw [M8.bl_len]; exact h3)] at h2
    rw [bytes_nil h2, List.append_nil] at h1
    rw [h1]; exact e0
  intro f
  induction f with
  | zero => intro k acc R h1 h2 h3; exact hend k acc R h1 h2 (by omega)
  | succ f ih =>
    intro k acc R h1 h2 h3
    rw [rdS]
    by_cases hk : k < s.size
    · cases R with
      | nil =>
        have := congrArg List.length h2
        rw [List.length_drop, M8.bl_len] at this
        simp [M12.bytes] at this
        omega
      | cons x R =>
        have hx : can x := good_can h x (by rw [← h1]; simp)
        have hal : acc.length ≤ 40 := by rw [← h1, List.length_append] at hl; omega
        rw [if_pos ⟨hk, hal⟩, ← h2, bytes_cons, flat1_ib hx]
        simp only
        have hp := ib_pos x
        refine ih _ _ R (by rw [List.append_assoc]; exact h1) ?_ (by omega)
        rw [← List.drop_drop, ← h2, bytes_cons, List.drop_left]
    · rw [if_neg (fun h => hk h.1)]
      exact hend k acc R h1 h2 (by omega)
theorem rdS_no {s : ByteArray} (h : ∀ L, M12.good L = true → M12.bytes L ≠ M8.bl s) : ∀ (f k : Nat) (acc : List It), rdS s f k acc = ([], false) := by
  have hf : ∀ acc, fin s acc = ([], false) := fun acc => if_neg (fun hh => h acc hh.1 hh.2)
  intro f
  induction f with
  | zero => intro k acc; exact hf acc
  | succ f ih =>
    intro k acc
    rw [rdS]
    split
    · split
      · rfl
      · exact ih _ _
    · exact hf acc
theorem rdS_read {s : ByteArray} (h4 : s.size ≤ 400) : rdS s s.size 0 [] = read s := by
  by_cases h : ∃ L, M12.good L = true ∧ M12.bytes L = M8.bl s
  · obtain ⟨L, h1, h2⟩ := h
    rw [read_yes h1 h2 h4]
    exact rdS_yes h1 h2 _ _ _ L rfl (by rw [h2]; rfl) (by omega)
  · have h' : ∀ L, M12.good L = true → M12.bytes L ≠ M8.bl s := fun L h1 h2 => h ⟨L, h1, h2⟩
    rw [read_no h', rdS_no h']
theorem read_len (s : ByteArray) : (read s).1.length ≤ 40 := by
  unfold read pick
  split
  · split
    · simp
    · split
      · rename_i hh; exact (M13.one_some (good_one hh.2).1).1
      · simp
  · simp
theorem read_good {s : ByteArray} (h : (read s).2 = true) : M12.good (read s).1 = true ∧ M12.bytes (read s).1 = M8.bl s := by
  by_cases h' : ∃ L, M12.good L = true ∧ M12.bytes L = M8.bl s
  · obtain ⟨L, h1, h2⟩ := h'
    have h4 : s.size ≤ 400 := by have := (good_one h1).2; rw [h2, M8.bl_len] at this; exact this
    rw [read_yes h1 h2 h4]
    exact ⟨h1, h2⟩
  · rw [read_no (fun L h1 h2 => h' ⟨L, h1, h2⟩)] at h
    cases h
end M16
end Go.Proofs.YtcpfbgogfhlmjaaDoor
