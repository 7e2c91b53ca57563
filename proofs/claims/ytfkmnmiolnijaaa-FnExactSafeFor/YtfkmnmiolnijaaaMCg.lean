/- Custodies that are good: what the program and the specification ask, and that both ask the same; plain facts. -/
import Derived.Test.YtfkmnmiolnijaaaMKp
import Derived.Test.YtfkmnmiolnijaaaMHasB
import Derived.Test.YtfkmnmiolnijaaaMEG
import Derived.Test.YtfkmnmiolnijaaaMTr
namespace Go.Proofs.Ytfkmnmiolnijaaa
open Go.RowKit
namespace CG
open EG TR
def lessH (a b : I2) : Bool := decide (a.a0 < b.a0 ∨ (a.a0 = b.a0 ∧ a.a1 < b.a1))
def hasH (hs : List I2) (h : I2) : Bool := decide (h ∈ hs)
/-- Each hold is ahead of the next one. -/
def upH (hs : List I2) : Bool := (List.range hs.length).all fun j => decide (j = 0) || lessH (MI2.at_ hs (j - 1)) (MI2.at_ hs j)
def srt (l : List Int) : List Int := l.mergeSort fun x y => decide (x ≤ y)
def inOrd (l rising : List Int) : Bool := decide (srt l = rising)
/-- The specification's: the same numbers, each once. -/
def same (a b : List Int) : Bool := ((List.range b.length).all fun i => hasB a (b.getD i 0) && !hasB (b.take i) (b.getD i 0)) && decide (a.length = b.length)
def sd (s : CuS) (k : Nat) : KpS := KP.sd s.ks k
def upOf (s : CuS) (k : Nat) : Nat := (s.us.getD k 0).toNat
-- the specification's
noncomputable def keepS (s : CuS) (k : Nat) : Bool :=
  rises 6 (sd s k).1 && same (sd s k).1 (sd s k).2.2 && ((sd s k).1.all fun id => decide (k = 0) || hasB (sd s (upOf s k)).1 id) &&
  ((List.range (sd s k).2.1.length).all fun j => hasB (sd s k).1 (MI2.at_ (sd s k).2.1 j).a0 && hasB (kids s.us k) (MI2.at_ (sd s k).2.1 j).a1 && (decide (j = 0) || lessH (MI2.at_ (sd s k).2.1 (j - 1)) (MI2.at_ (sd s k).2.1 j))) &&
  ((sd s k).1.all fun id => (kids s.us k).all fun ch => hasB (sd s ch.toNat).1 id || hasH (sd s k).2.1 ⟨id, ch⟩)
def slipS (s : CuS) (x : I4) : Bool :=
  decide (0 ≤ x.a1 ∧ x.a1 < s.us.length) && decide (0 ≤ x.a2 ∧ x.a2 < s.us.length) && decide (0 ≤ x.a3 ∧ x.a3 < 6) && hasB (sd s x.a1.toNat).1 x.a3 &&
  !(decide (x.a0 = 1) && decide (s.us.getD x.a2.toNat 0 ≠ x.a1)) && !(decide (x.a0 = 2) && decide (s.us.getD x.a1.toNat 0 ≠ x.a2)) && decide (1 ≤ x.a0 ∧ x.a0 ≤ 2)
noncomputable def goodS (s : CuS) : Bool :=
  tree s.us && decide (s.ks.length = s.us.length) && decide (s.ls.length ≤ 30) && ((List.range s.ks.length).all fun k => keepS s k) && (s.ls.all fun x => slipS s x) && same (sd s 0).1 s.ns
-- the program's
noncomputable def rowsI (k : KpS) : Bool := rises 6 k.1 && inOrd k.2.2 k.1 && upH k.2.1
def holdsI (kd : List Int) (k : KpS) : Bool := k.2.1.all fun h => hasB k.1 h.a0 && hasB kd h.a1
def bothI (s : CuS) (node child : Nat) : Bool := ((sd s child).1.all fun id => hasB (sd s node).1 id) && ((sd s node).1.all fun id => hasB (sd s child).1 id || hasH (sd s node).2.1 ⟨id, (child : Int)⟩)
def twoOf (n : Nat) (a b : Int) : Bool := decide (0 ≤ a ∧ a < n) && decide (0 ≤ b ∧ b < n) && decide (a ≠ b)
def slipI (s : CuS) (x : I4) : Bool :=
  twoOf s.us.length x.a1 x.a2 && hasB (sd s x.a1.toNat).1 x.a3 &&
  (if x.a0 = 1 then decide (s.us.getD x.a2.toNat 0 = x.a1) else if x.a0 = 2 then decide (s.us.getD x.a1.toNat 0 = x.a2) else false)
noncomputable def goodI (s : CuS) : Bool :=
  tree s.us && decide (s.ks.length = s.us.length) && decide (s.ls.length ≤ 30) && ((List.range s.ks.length).all fun k => rowsI (sd s k) && holdsI (kids s.us k) (sd s k)) &&
  ((List.range s.us.length).all fun ch => decide (ch = 0) || bothI s (upOf s ch) ch) && (s.ls.all fun x => slipI s x) && inOrd s.ns (sd s 0).1
-- both ask the same
theorem getD_mem {l : List Int} {i : Nat} (h : i < l.length) : l.getD i 0 ∈ l := by rw [List.getD_eq_getElem?_getD, List.getElem?_eq_getElem h]; exact List.getElem_mem h
theorem mem_getD {l : List Int} {x : Int} (h : x ∈ l) : ∃ i, i < l.length ∧ l.getD i 0 = x := by
  obtain ⟨i, hi, rfl⟩ := List.mem_iff_getElem.1 h
  exact ⟨i, hi, by rw [List.getD_eq_getElem?_getD, List.getElem?_eq_getElem hi]; rfl⟩
theorem rises_lt {n : Nat} {os : List Int} (h : rises n os = true) : os.Pairwise (· < ·) := by
  have hu := rises_is h
  have hstep : ∀ k i, i + k + 1 < os.length → os.getD i 0 < os.getD (i + k + 1) 0 := by
    intro k
    induction k with
    | zero => intro i hi; exact (hu (i + 1) (by omega)).2.2 (by omega)
    | succ k ih => intro i hi; have h1 := ih i (by omega); have h2 := (hu (i + (k + 1) + 1) (by omega)).2.2 (by omega); have e : i + (k + 1) + 1 - 1 = i + k + 1 := (by omega); rw [e] at h2; exact Int.lt_trans h1 h2
  rw [List.pairwise_iff_getElem]
  intro i j hi hj hij
  have := hstep (j - i - 1) i (by omega)
  have e : i + (j - i - 1) + 1 = j := by omega
  rw [e] at this
  simpa [List.getD_eq_getElem?_getD, List.getElem?_eq_getElem hi, List.getElem?_eq_getElem hj] using this
theorem rises_in {n : Nat} {os : List Int} (h : rises n os = true) {x : Int} (hx : x ∈ os) : 0 ≤ x ∧ x < n := by
  obtain ⟨i, hi, rfl⟩ := mem_getD hx
  have := rises_is h i hi
  exact ⟨this.1, this.2.1⟩
theorem same_iff (a b : List Int) : same a b = true ↔ (∀ x, x ∈ b → x ∈ a) ∧ b.Nodup ∧ a.length = b.length := by
  simp only [same, Bool.and_eq_true, List.all_eq_true, List.mem_range, decide_eq_true_eq, hasB, Bool.not_eq_true', decide_eq_false_iff_not]
  constructor
  · rintro ⟨h, hl⟩
    refine ⟨fun x hx => ?_, ?_, hl⟩
    · obtain ⟨i, hi, rfl⟩ := mem_getD hx; exact (h i hi).1
    · rw [List.Nodup, List.pairwise_iff_getElem]
      intro i j hi hj hij e
      refine (h j hj).2 ?_
      rw [List.getD_eq_getElem?_getD, List.getElem?_eq_getElem hj]
      show b[j] ∈ b.take j
      rw [← e]
      exact List.mem_take_iff_getElem.2 ⟨i, by omega, rfl⟩
  · rintro ⟨h1, h2, hl⟩
    refine ⟨fun i hi => ⟨h1 _ (getD_mem hi), fun hm => ?_⟩, hl⟩
    obtain ⟨j, hj, e⟩ := List.mem_take_iff_getElem.1 hm
    rw [List.getD_eq_getElem?_getD, List.getElem?_eq_getElem hi] at e
    rw [List.Nodup, List.pairwise_iff_getElem] at h2
    exact h2 j i (by omega) hi (by omega) e
theorem srt_perm (l : List Int) : (srt l).Perm l := List.mergeSort_perm l _
theorem srt_up (l : List Int) : (srt l).Pairwise (· ≤ ·) := by
  have tr : ∀ a b c : Int, decide (a ≤ b) = true → decide (b ≤ c) = true → decide (a ≤ c) = true := fun a b c h1 h2 => by simp only [decide_eq_true_eq] at *; omega
  have to : ∀ a b : Int, (decide (a ≤ b) || decide (b ≤ a)) = true := fun a b => by simp only [Bool.or_eq_true, decide_eq_true_eq]; omega
  exact (List.pairwise_mergeSort tr to l).imp fun h => by simpa using h
theorem inOrd_iff {a b : List Int} (ha : a.Pairwise (· < ·)) : inOrd b a = true ↔ b.Perm a := by
  rw [inOrd, decide_eq_true_eq]
  constructor
  · intro e; rw [← e]; exact (srt_perm b).symm
  · intro h
    exact List.Perm.eq_of_pairwise (le := fun a b => a ≤ b) (fun a b _ _ h1 h2 => by omega) (srt_up b) (ha.imp fun h => by omega) ((srt_perm b).trans h)
theorem perm_of_sub : ∀ (b a : List Int), b.Nodup → (∀ x, x ∈ b → x ∈ a) → b.length = a.length → b.Perm a
  | [], a, _, _, h => by
    have : a = [] := List.length_eq_zero_iff.1 (by simpa using h.symm)
    rw [this]
  | x :: b, a, hn, hs, h => by
    have hx : x ∈ a := hs x (by simp)
    obtain ⟨hxb, hn'⟩ := List.nodup_cons.1 hn
    refine (List.Perm.cons x (perm_of_sub b (a.erase x) hn' (fun y hy => (List.mem_erase_of_ne (fun e => hxb (by rw [← e]; exact hy))).2 (hs y (by simp [hy]))) ?_)).trans (List.perm_cons_erase hx).symm
    rw [List.length_erase_of_mem hx, ← h]; simp
theorem same_inOrd {a b : List Int} (ha : a.Pairwise (· < ·)) : same a b = inOrd b a := by
  rw [Bool.eq_iff_iff, same_iff, inOrd_iff ha]
  have hn : a.Nodup := ha.imp fun h => by omega
  constructor
  · rintro ⟨h1, h2, h3⟩
    exact perm_of_sub b a h2 h1 h3.symm
  · intro h
    exact ⟨fun x hx => h.mem_iff.1 hx, h.nodup_iff.2 hn, h.length_eq.symm⟩
theorem bool_ext {a b : Bool} (h : a = true ↔ b = true) : a = b := Bool.eq_iff_iff.2 h
theorem up_of_tree {us : List Int} (h : tree us = true) {k : Nat} (hk : k < us.length) (h0 : 0 < k) : 0 ≤ us.getD k 0 ∧ us.getD k 0 < k := (at_pos us h0).1 (((tree_iff us).1 h).2 k hk)
theorem up_zero {us : List Int} (h : tree us = true) : us.getD 0 0 = -1 := (at_zero us).1 (((tree_iff us).1 h).2 0 (by have := ((tree_iff us).1 h).1.1; omega))
theorem kids_mem {us : List Int} (h : tree us = true) {node : Int} (hn : 0 ≤ node) (x : Int) : x ∈ kids us node ↔ ∃ i : Nat, i < us.length ∧ us.getD i 0 = node ∧ x = i := by
  rw [← kids_is h hn, those_mem]
  simp only [decide_eq_true_eq]
theorem upH_iff (hs : List I2) : upH hs = true ↔ ∀ j, j < hs.length → j = 0 ∨ lessH (MI2.at_ hs (j - 1)) (MI2.at_ hs j) = true := by
  simp only [upH, List.all_eq_true, List.mem_range, Bool.or_eq_true, decide_eq_true_eq]
theorem all_at {hs : List I2} {f : I2 → Bool} : hs.all f = true ↔ ∀ j, j < hs.length → f (MI2.at_ hs j) = true := by
  rw [List.all_eq_true]
  constructor
  · intro h j hj; rw [MI2.at_eq hs j hj]; exact h _ (List.getElem_mem hj)
  · intro h x hx
    obtain ⟨j, hj, rfl⟩ := List.mem_iff_getElem.1 hx
    rw [← MI2.at_eq hs j hj]; exact h j hj
theorem slip_same {s : CuS} (ht : tree s.us = true) (hr : ∀ k, k < s.us.length → rises 6 (sd s k).1 = true) (x : I4) : slipS s x = slipI s x := by
  obtain ⟨k, a, b, i⟩ := x
  refine bool_ext ?_
  simp only [slipS, slipI, twoOf, Bool.and_eq_true, decide_eq_true_eq, Bool.not_eq_true', Bool.and_eq_false_iff, decide_eq_false_iff_not, Decidable.not_not]
  have hup : ∀ v : Int, 0 ≤ v → v < s.us.length → s.us.getD v.toNat 0 < v := fun v h0 h1 => by
    by_cases e : v = 0
    · subst e; have := up_zero ht; show s.us.getD 0 0 < 0; omega
    · have := (up_of_tree ht (k := v.toNat) (by omega) (by omega)).2; omega
  constructor
  · rintro ⟨⟨⟨⟨⟨⟨h1, h2⟩, h3⟩, h4⟩, h5⟩, h6⟩, h7⟩
    have hk : k = 1 ∨ k = 2 := by omega
    rcases hk with rfl | rfl
    · have e : s.us.getD b.toNat 0 = a := by rcases h5 with h | h; exact absurd rfl h; exact h
      have := hup b h2.1 h2.2
      refine ⟨⟨⟨⟨h1, h2⟩, by omega⟩, h4⟩, ?_⟩
      rw [if_pos rfl]; exact decide_eq_true e
    · have e : s.us.getD a.toNat 0 = b := by rcases h6 with h | h; exact absurd rfl h; exact h
      have := hup a h1.1 h1.2
      refine ⟨⟨⟨⟨h1, h2⟩, by omega⟩, h4⟩, ?_⟩
      rw [if_neg (by decide), if_pos rfl]; exact decide_eq_true e
  · rintro ⟨⟨⟨⟨h1, h2⟩, h3⟩, h4⟩, h5⟩
    have hi := rises_in (hr a.toNat (by omega)) (x := i) (by simpa [hasB] using h4)
    by_cases k1 : k = 1
    · subst k1; rw [if_pos rfl] at h5; replace h5 := of_decide_eq_true h5
      refine ⟨⟨⟨⟨⟨⟨h1, h2⟩, by omega⟩, h4⟩, .inr h5⟩, .inl (by decide)⟩, by decide⟩
    · by_cases k2 : k = 2
      · subst k2; rw [if_neg (by decide), if_pos rfl] at h5; replace h5 := of_decide_eq_true h5
        refine ⟨⟨⟨⟨⟨⟨h1, h2⟩, by omega⟩, h4⟩, .inl (by decide)⟩, .inr h5⟩, by decide⟩
      · rw [if_neg k1, if_neg k2] at h5; cases h5
/-- Both ask the same of a custody. -/
theorem good_same (s : CuS) : goodS s = goodI s := by
  by_cases ht : tree s.us = true
  · by_cases hl : s.ks.length = s.us.length
    · by_cases hls : s.ls.length ≤ 30
      · have hkids : ∀ (k : Nat) (x : Int), x ∈ kids s.us (k : Int) ↔ ∃ i : Nat, i < s.us.length ∧ s.us.getD i 0 = (k : Int) ∧ x = i := fun k x => kids_mem ht (by omega) x
        have hn0 := ((tree_iff s.us).1 ht).1.1
        -- the keepers
        have hK : ((∀ k, k < s.us.length → keepS s k = true)) ↔ ((∀ k, k < s.us.length → rowsI (sd s k) = true ∧ holdsI (kids s.us k) (sd s k) = true) ∧ (∀ ch, ch < s.us.length → ch = 0 ∨ bothI s (upOf s ch) ch = true)) := by
          simp only [keepS, rowsI, holdsI, bothI, Bool.and_eq_true, List.all_eq_true, List.mem_range, Bool.or_eq_true, decide_eq_true_eq]
          constructor
          · intro h
            refine ⟨fun k hk => ?_, fun ch hc => ?_⟩
            · obtain ⟨⟨⟨⟨h1, h2⟩, h3⟩, h4⟩, h5⟩ := h k hk
              refine ⟨⟨⟨h1, by rw [← same_inOrd (rises_lt h1)]; exact h2⟩, (upH_iff _).2 fun j hj => (h4 j hj).2⟩, fun x hx => ?_⟩
              obtain ⟨j, hj, rfl⟩ := List.mem_iff_getElem.1 hx
              have := (h4 j hj).1
              rw [MI2.at_eq _ _ hj] at this
              exact this
            · by_cases c0 : ch = 0
              · exact .inl c0
              · obtain ⟨u0, u1⟩ := up_of_tree ht hc (by omega)
                have hu : upOf s ch < s.us.length := by unfold upOf; omega
                have huc : ((upOf s ch : Nat) : Int) = s.us.getD ch 0 := by unfold upOf; omega
                refine .inr ⟨fun id hid => ?_, fun id hid => ?_⟩
                · rcases (h ch hc).1.1.2 id hid with e | e
                  · exact absurd e c0
                  · exact e
                · exact (h _ hu).2 id hid (ch : Int) ((hkids _ _).2 ⟨ch, hc, huc.symm, rfl⟩)
          · rintro ⟨h1, h2⟩ k hk
            obtain ⟨⟨⟨a1, a2⟩, a3⟩, a4⟩ := h1 k hk
            refine ⟨⟨⟨⟨a1, by rw [same_inOrd (rises_lt a1)]; exact a2⟩, fun id hid => ?_⟩, fun j hj => ?_⟩, fun id hid ch hch => ?_⟩
            · rcases h2 k hk with e | e
              · exact .inl e
              · exact .inr (e.1 id hid)
            · exact ⟨by have := a4 _ (List.getElem_mem hj); rw [MI2.at_eq _ _ hj]; exact this, (upH_iff _).1 a3 j hj⟩
            · obtain ⟨i, hi, hu, rfl⟩ := (hkids k ch).1 hch
              rcases h2 i hi with e | e
              · subst e; rw [up_zero ht] at hu; omega
              · have : upOf s i = k := by unfold upOf; omega
                rw [this] at e
                exact e.2 id hid
        refine bool_ext ?_
        simp only [goodS, goodI, Bool.and_eq_true, List.all_eq_true, List.mem_range, decide_eq_true_eq, Bool.or_eq_true, hl]
        constructor
        · rintro ⟨⟨⟨⟨⟨_, _⟩, _⟩, hk⟩, hsl⟩, hsm⟩
          have hk2 := hK.1 hk
          have hr : ∀ k, k < s.us.length → rises 6 (sd s k).1 = true := fun k h => by have := (hk2.1 k h).1; simp only [rowsI, Bool.and_eq_true] at this; exact this.1.1
          exact ⟨⟨⟨⟨⟨⟨ht, trivial⟩, hls⟩, hk2.1⟩, hk2.2⟩, fun x hx => by rw [← slip_same ht hr]; exact hsl x hx⟩, by rw [← same_inOrd (rises_lt (hr 0 (by omega)))]; exact hsm⟩
        · rintro ⟨⟨⟨⟨⟨⟨_, _⟩, _⟩, hk⟩, hb⟩, hsl⟩, hsm⟩
          have hr : ∀ k, k < s.us.length → rises 6 (sd s k).1 = true := fun k h => by have := (hk k h).1; simp only [rowsI, Bool.and_eq_true] at this; exact this.1.1
          exact ⟨⟨⟨⟨⟨ht, trivial⟩, hls⟩, hK.2 ⟨hk, hb⟩⟩, fun x hx => by rw [slip_same ht hr]; exact hsl x hx⟩, by rw [same_inOrd (rises_lt (hr 0 (by omega)))]; exact hsm⟩
      · simp [goodS, goodI, hls]
    · simp [goodS, goodI, hl]
  · simp [goodS, goodI, ht]
end CG
end Go.Proofs.Ytfkmnmiolnijaaa
