/- Items that are a value (chapter 2): plain facts, no program is named here. -/
import Derived.Test.YtcpfbgogfhlmjaaDoorM11
import Derived.Test.YtcpfbgogfhlmjaaDoorM10
namespace Go.Proofs.YtcpfbgogfhlmjaaDoor
namespace M12
/-- Each byte from 32 to 126. -/
def plain (s : ByteArray) : Bool := (M8.bl s).all fun b => decide (32 ≤ b.toNat) && decide (b.toNat ≤ 126)
theorem plain_no {s : ByteArray} {j : Nat} (hj : j < s.size) (h : ¬ (32 ≤ M3.gb s j ∧ M3.gb s j ≤ 126)) : plain s = false := by
  unfold plain
  rw [List.all_eq_false]
  have e := M10.bl_at s j hj
  refine ⟨UInt8.ofNat (M3.gb s j), ?_, ?_⟩
  · exact List.mem_of_mem_drop (by rw [e]; exact List.mem_cons_self)
  · rw [M10.gb_u8]; simp; omega
theorem plain_yes {s : ByteArray} (h : ∀ j, j < s.size → 32 ≤ M3.gb s j ∧ M3.gb s j ≤ 126) : plain s = true := by
  unfold plain
  rw [List.all_eq_true]
  intro b hb
  obtain ⟨j, hj, rfl⟩ := List.getElem_of_mem hb
  have hj' : j < s.size := by rw [← M8.bl_len]; exact hj
  have e := M10.bl_at s j hj'
  rw [List.drop_eq_getElem_cons hj] at e
  have e2 := (List.cons.inj e).1
  rw [e2, M10.gb_u8]
  have := h j hj'
  simp; omega
/-- One item that is a number or a text, in order. -/
def leaf (x : It) : Bool :=
  if x.kind = 1 then okN x.num && decide (x.text = ⟨#[]⟩) && decide (x.many = 0)
  else if x.kind = 2 then decide (x.text.size ≤ 60) && decide (x.num = 0) && decide (x.many = 0)
  else if x.kind = 3 then decide (x.text.size ≤ 60) && decide (x.num = 0) && decide (x.many = 0) && plain x.text
  else false
/-- One item that is a list's. -/
def lst (x : It) : Bool := decide (x.kind = 4) && decide (x.num = 0) && decide (x.text = ⟨#[]⟩) && decide (0 ≤ x.many)
abbrev O := Option (Nat × Nat)
/-- Values behind one another: how many items, how deep. -/
def nOf (f : List It → O) : Nat → List It → O
  | 0, _ => some (0, 0)
  | m + 1, l => match nOf f m l with
    | none => none
    | some (c, d) => match f (l.drop c) with
      | none => none
      | some (c', d') => some (c + c', max d d')
def step (f : Option (List It → O)) : List It → O
  | [] => none
  | x :: l => if leaf x then some (1, 0) else if lst x then (match f with
      | none => none
      | some g => match nOf g x.many.toNat l with
        | none => none
        | some (c, d) => some (c + 1, d + 1)) else none
/-- The value that items begin with, r lists within one another at most: how many items, how deep. -/
def vl : Nat → List It → O
  | 0 => step none
  | r + 1 => step (some (vl r))
theorem leaf_lst {x : It} (h : leaf x = true) : lst x = false := by
  unfold leaf at h
  unfold lst
  by_cases h4 : x.kind = 4
  · rw [if_neg (by omega), if_neg (by omega), if_neg (by omega)] at h; cases h
  · simp [h4]
theorem nOf_none {f : List It → O} {m k : Nat} {l : List It} (h : nOf f m l = none) (hk : m ≤ k) : nOf f k l = none := by
  induction k with
  | zero => obtain rfl : m = 0 := by omega
            exact h
  | succ k ih =>
    by_cases e : m = k + 1
    · subst e; exact h
    · rw [nOf, ih (by omega)]
theorem nOf_stop {f : List It → O} {m k c d : Nat} {l : List It} (h : nOf f m l = some (c, d)) (hf : f (l.drop c) = none) (hk : m < k) : nOf f k l = none :=
  nOf_none (m := m + 1) (by rw [nOf, h]; simp only [hf]) hk
theorem nOf_next {f : List It → O} {m c d c' d' : Nat} {l : List It} (h : nOf f m l = some (c, d)) (hf : f (l.drop c) = some (c', d')) : nOf f (m + 1) l = some (c + c', max d d') := by
  rw [nOf, h]; simp only [hf]
/-- A value takes one item at least, and no more than there are. -/
theorem nOf_len {f : List It → O} (hf : ∀ l c d, f l = some (c, d) → 1 ≤ c ∧ c ≤ l.length) : ∀ (m : Nat) (l : List It) (c d : Nat), nOf f m l = some (c, d) → m ≤ c ∧ c ≤ l.length := by
  intro m
  induction m with
  | zero => intro l c d h; simp [nOf] at h; omega
  | succ m ih =>
    intro l c d h
    rw [nOf] at h
    cases h1 : nOf f m l with
    | none => rw [h1] at h; cases h
    | some p =>
      obtain ⟨c1, d1⟩ := p
      rw [h1] at h
      simp only at h
      cases h2 : f (l.drop c1) with
      | none => rw [h2] at h; cases h
      | some p =>
        obtain ⟨c2, d2⟩ := p
        rw [h2] at h
        simp only [Option.some.injEq, Prod.mk.injEq] at h
        have a1 := ih l c1 d1 h1
        have a2 := hf _ c2 d2 h2
        rw [List.length_drop] at a2
        omega
theorem step_cons (f : Option (List It → O)) (x : It) (l : List It) : step f (x :: l) = if leaf x then some (1, 0) else if lst x then (match f with
      | none => none
      | some g => match nOf g x.many.toNat l with
        | none => none
        | some (c, d) => some (c + 1, d + 1)) else none := rfl
theorem step_len {f : Option (List It → O)} (hf : ∀ g, f = some g → ∀ l c d, g l = some (c, d) → 1 ≤ c ∧ c ≤ l.length) : ∀ (l : List It) (c d : Nat), step f l = some (c, d) → 1 ≤ c ∧ c ≤ l.length := by
  intro l c d h
  cases l with
  | nil => cases h
  | cons x l =>
    rw [step_cons] at h
    cases h1 : leaf x with
    | true =>
      rw [h1] at h
      simp only [if_true, Option.some.injEq, Prod.mk.injEq] at h
      simp; omega
    | false =>
      cases h2 : lst x with
      | false => rw [h1, h2] at h; simp at h
      | true =>
        rw [h1, h2] at h
        cases f with
        | none => simp at h
        | some g =>
          cases h3 : nOf g x.many.toNat l with
          | none => simp [h3] at h
          | some q =>
            obtain ⟨c1, d1⟩ := q
            simp [h3] at h
            have := nOf_len (hf g rfl) _ _ _ _ h3
            simp; omega
theorem vl_len : ∀ (r : Nat) (l : List It) (c d : Nat), vl r l = some (c, d) → 1 ≤ c ∧ c ≤ l.length := by
  intro r
  induction r with
  | zero => exact step_len (fun g hg => by cases hg)
  | succ r ih => exact step_len (fun g hg => by cases hg; exact ih)
theorem nOf_dep {f : List It → O} {r : Nat} (hf : ∀ l c d, f l = some (c, d) → d ≤ r) : ∀ (m : Nat) (l : List It) (c d : Nat), nOf f m l = some (c, d) → d ≤ r := by
  intro m
  induction m with
  | zero => intro l c d h; simp [nOf] at h; omega
  | succ m ih =>
    intro l c d h
    rw [nOf] at h
    cases h1 : nOf f m l with
    | none => rw [h1] at h; cases h
    | some p =>
      obtain ⟨c1, d1⟩ := p
      rw [h1] at h
      simp only at h
      cases h2 : f (l.drop c1) with
      | none => rw [h2] at h; cases h
      | some p =>
        obtain ⟨c2, d2⟩ := p
        rw [h2] at h
        simp only [Option.some.injEq, Prod.mk.injEq] at h
        have a1 := ih l c1 d1 h1
        have a2 := hf _ c2 d2 h2
        omega
theorem vl_dep : ∀ (r : Nat) (l : List It) (c d : Nat), vl r l = some (c, d) → d ≤ r := by
  intro r
  induction r with
  | zero =>
    intro l c d h
    cases l with
    | nil => cases h
    | cons x l =>
      have h' : step none (x :: l) = some (c, d) := h
      rw [step_cons] at h'
      cases h1 : leaf x <;> cases h2 : lst x <;> simp [h1, h2] at h' <;> omega
  | succ r ih =>
    intro l c d h
    cases l with
    | nil => cases h
    | cons x l =>
      have h' : step (some (vl r)) (x :: l) = some (c, d) := h
      rw [step_cons] at h'
      cases h1 : leaf x with
      | true => simp [h1] at h'; omega
      | false =>
        cases h2 : lst x with
        | false => simp [h1, h2] at h'
        | true =>
          cases h3 : nOf (vl r) x.many.toNat l with
          | none => simp [h1, h2, h3] at h'
          | some q =>
            obtain ⟨c1, d1⟩ := q
            simp [h1, h2, h3] at h'
            have := nOf_dep ih _ _ _ _ h3
            omega
theorem vl_nil (r : Nat) : vl r [] = none := by cases r <;> rfl
theorem vl_leaf {x : It} {l : List It} (r : Nat) (h : leaf x = true) : vl r (x :: l) = some (1, 0) := by cases r <;> simp [vl, step, h]
theorem vl_bad {x : It} {l : List It} (r : Nat) (h : leaf x = false) (h' : lst x = false) : vl r (x :: l) = none := by cases r <;> simp [vl, step, h, h']
theorem vl_unl {x : It} {l : List It} (r : Nat) (h' : lst x = false) : vl r (x :: l) = if leaf x = true then some (1, 0) else none := by
  cases h : leaf x
  · rw [vl_bad r h h']; rfl
  · rw [vl_leaf r h]; rfl
theorem leaf1 {x : It} (h : x.kind = 1) : leaf x = (okN x.num && decide (x.text = ⟨#[]⟩) && decide (x.many = 0)) := by unfold leaf; rw [if_pos h]
theorem leaf2 {x : It} (h : x.kind = 2) : leaf x = (decide (x.text.size ≤ 60) && decide (x.num = 0) && decide (x.many = 0)) := by unfold leaf; rw [if_neg (by omega), if_pos h]
theorem leaf3 {x : It} (h : x.kind = 3) : leaf x = (decide (x.text.size ≤ 60) && decide (x.num = 0) && decide (x.many = 0) && plain x.text) := by unfold leaf; rw [if_neg (by omega), if_neg (by omega), if_pos h]
theorem leaf0 {x : It} (h1 : x.kind ≠ 1) (h2 : x.kind ≠ 2) (h3 : x.kind ≠ 3) : leaf x = false := by unfold leaf; rw [if_neg h1, if_neg h2, if_neg h3]
theorem lst0 {x : It} (h : x.kind ≠ 4) : lst x = false := by simp [lst, h]
theorem lst4 {x : It} (h : x.kind = 4) : lst x = (decide (x.num = 0) && decide (x.text = ⟨#[]⟩) && decide (0 ≤ x.many)) := by simp [lst, h]
/-- The answer on a value. -/
def res (at_ d : Nat) (o : O) (e : Ending) : Prop := match o with
  | none => ∃ p q : Int, e = .returned (.tuple #[.int .i64 p, .int .i64 q, .bool false])
  | some (c, D) => e = .returned (.tuple #[.int .i64 ((at_ + c : Nat) : Int), .int .i64 ((d + D : Nat) : Int), .bool true])
theorem res_no {at_ d : Nat} {o : O} (h : o = none) (p q : Int) : res at_ d o (.returned (.tuple #[.int .i64 p, .int .i64 q, .bool false])) := by rw [h]; exact ⟨p, q, rfl⟩
theorem res_yes {at_ d c D : Nat} {o : O} (h : o = some (c, D)) {p q : Int} (hp : p = ((at_ + c : Nat) : Int)) (hq : q = ((d + D : Nat) : Int)) : res at_ d o (.returned (.tuple #[.int .i64 p, .int .i64 q, .bool true])) := by rw [h, hp, hq]; rfl
theorem drop_cons {xs : List It} {k : Nat} (h : k < xs.length) : xs.drop k = M11.at_ xs k :: xs.drop (k + 1) := by rw [List.drop_eq_getElem_cons h, M11.at_eq xs k h]
theorem vl_deep {x : It} {l : List It} (h : leaf x = false) : vl 0 (x :: l) = none := by simp [vl, step, h]
theorem lst_leaf {x : It} (h : lst x = true) : leaf x = false := by
  cases hl : leaf x
  · rfl
  · rw [leaf_lst hl] at h; cases h
theorem vl_list {x : It} {l : List It} (r : Nat) (h : lst x = true) : vl (r + 1) (x :: l) = match nOf (vl r) x.many.toNat l with
    | none => none
    | some (c, d) => some (c + 1, d + 1) := by simp [vl, step, h, lst_leaf h]
theorem vl_list_no {x : It} {l : List It} {r : Nat} (h : lst x = true) (hn : nOf (vl r) x.many.toNat l = none) : vl (r + 1) (x :: l) = none := by rw [vl_list r h, hn]
theorem vl_list_yes {x : It} {l : List It} {r c d : Nat} (h : lst x = true) (hn : nOf (vl r) x.many.toNat l = some (c, d)) : vl (r + 1) (x :: l) = some (c + 1, d + 1) := by rw [vl_list r h, hn]
/-- An item's bytes. -/
def ib (x : It) : List UInt8 :=
  if x.kind = 1 then M7.hb 0 x.num.toNat
  else if x.kind = 2 then M7.hb 2 x.text.size ++ M8.bl x.text
  else if x.kind = 3 then M7.hb 3 x.text.size ++ M8.bl x.text
  else M7.hb 4 x.many.toNat
def bytes (l : List It) : List UInt8 := l.flatMap ib
theorem bytes_app (l m : List It) : bytes (l ++ m) = bytes l ++ bytes m := by simp [bytes]
/-- The items are one value. -/
def one (l : List It) : Bool := decide (l.length ≤ 40) && (match vl 5 l with
  | none => false
  | some (c, _) => decide (c = l.length))
def good (l : List It) : Bool := one l && decide ((bytes l).length ≤ 400)
def deepL (l : List It) : Nat := match vl 5 l with
  | none => 0
  | some (_, d) => d
def deepR (l : List It) : Nat := if good l = true then deepL l else 0
def strR (l : List It) : ByteArray := if good l = true then ⟨(bytes l).toArray⟩ else ⟨#[]⟩
end M12
end Go.Proofs.YtcpfbgogfhlmjaaDoor
