/- The search for a row of pipes, and what is put on it: plain facts, over whatever program. -/
import Derived.Test.YtkciheanjcnkkaaMFO
namespace Go.Proofs.Ytkciheanjcnkkaa
namespace FL
open Go.RowKit
/-- A pipe gone along or back. -/
structure Stp where
  k : Nat
  back : Bool
  to : Int
  room : Int
def rm (c : I3) (v n : Int) : Int := if c.a0 = n then c.a2 - v else if c.a1 = n then v else 0
def nx (c : I3) (n : Int) : Int := if c.a0 = n then c.a1 else if c.a1 = n then c.a0 else 0
def bk (c : I3) (n : Int) : Bool := decide (c.a0 ≠ n)
def stp (xs : List I3) (fs : List Int) (n : Int) (k : Nat) : Stp := ⟨k, bk (MI3.at_ xs k) n, nx (MI3.at_ xs k) n, rm (MI3.at_ xs k) (fs.getD k 0) n⟩
/-- By which pipe each node was reached, the nodes in their order, and the rows of pipes that lead there. -/
structure St where
  by_ : List Int
  q : List Int
  L : Nat → List Stp
def nxt (xs : List I3) (n : Int) (k : Nat) : Nat := (nx (MI3.at_ xs k) n).toNat
def goes (xs : List I3) (fs : List Int) (s : St) (n : Int) (k : Nat) : Bool := decide (0 < rm (MI3.at_ xs k) (fs.getD k 0) n) && decide (s.by_.getD (nxt xs n k) 0 = -1)
def stepd (xs : List I3) (fs : List Int) (n : Int) (s : St) (k : Nat) : St := ⟨s.by_.set (nxt xs n k) (k : Int), s.q ++ [nx (MI3.at_ xs k) n], fun m => if m = nxt xs n k then s.L n.toNat ++ [stp xs fs n k] else s.L m⟩
def step (xs : List I3) (fs : List Int) (n : Int) (s : St) (k : Nat) : St := if goes xs fs s n k = true then stepd xs fs n s k else s
def scan (xs : List I3) (fs : List Int) (n : Int) (s : St) : Nat → St
  | 0 => s
  | k + 1 => step xs fs n (scan xs fs n s k) k
def start (f : Int) : St := ⟨(List.replicate 8 (-1 : Int)).set f.toNat (-2), [f], fun _ => []⟩
def at8 (xs : List I3) (fs : List Int) (f : Int) : Nat → St
  | 0 => start f
  | i + 1 => if i < (at8 xs fs f i).q.length then scan xs fs ((at8 xs fs f i).q.getD i 0) (at8 xs fs f i) xs.length else at8 xs fs f i
/-- What is known all the while. -/
structure Tree (xs : List I3) (fs : List Int) (f : Int) (s : St) : Prop where
  len : s.by_.length = 8
  cnt : s.by_.count (-1) + s.q.length = 8
  low : ∀ m : Nat, m < 8 → s.by_.getD m 0 < 0 → s.by_.getD m 0 = -1 ∨ (m : Int) = f
  fst : s.by_.getD f.toNat 0 = -2
  nil : s.L f.toNat = []
  inq : ∀ j, j < s.q.length → 0 ≤ s.q.getD j 0 ∧ s.q.getD j 0 ≤ 7 ∧ s.by_.getD (s.q.getD j 0).toNat 0 ≠ -1
  via : ∀ m : Nat, m < 8 → s.by_.getD m 0 ≠ -1 → (m : Int) ≠ f → ∃ k p : Nat, k < xs.length ∧ p < 8 ∧ s.by_.getD m 0 = (k : Int) ∧ s.by_.getD p 0 ≠ -1 ∧ nx (MI3.at_ xs k) (p : Int) = (m : Int) ∧ 0 < rm (MI3.at_ xs k) (fs.getD k 0) (p : Int) ∧ s.L m = s.L p ++ [stp xs fs (p : Int) k]
  all : ∀ m : Nat, m < 8 → s.by_.getD m 0 ≠ -1 → ∀ x ∈ s.L m, x.k < xs.length ∧ s.by_.getD (MI3.at_ xs x.k).a0.toNat 0 ≠ -1 ∧ s.by_.getD (MI3.at_ xs x.k).a1.toNat 0 ≠ -1
  one : ∀ m : Nat, m < 8 → s.by_.getD m 0 ≠ -1 → ((s.L m).map Stp.k).Nodup
theorem getD_set (l : List Int) (i j : Nat) (v d : Int) (h : i < l.length) : (l.set i v).getD j d = if i = j then v else l.getD j d := by
  rw [List.getD_eq_getElem?_getD, List.getD_eq_getElem?_getD, List.getElem?_set]
  by_cases e : i = j
  · subst e; simp [h]
  · simp [e]
theorem count_set (l : List Int) (i : Nat) (v : Int) (h : i < l.length) (h0 : l.getD i 0 = -1) (hv : v ≠ -1) : (l.set i v).count (-1) + 1 = l.count (-1) := by
  have hi : l[i] = -1 := by rw [List.getD_eq_getElem?_getD, List.getElem?_eq_getElem h] at h0; exact h0
  induction l generalizing i with
  | nil => simp at h
  | cons a l ih =>
    cases i with
    | zero => simp at hi; subst hi; simp [hv]
    | succ i =>
      simp only [List.set_cons_succ, List.count_cons]
      have := ih i (by simpa using h) (by simpa using h0) (by simpa using hi)
      omega
theorem rm_pos {c : I3} {v n : Int} (h : 0 < rm c v n) : (c.a0 = n ∧ rm c v n = c.a2 - v ∧ nx c n = c.a1 ∧ bk c n = false) ∨ (c.a0 ≠ n ∧ c.a1 = n ∧ rm c v n = v ∧ nx c n = c.a0 ∧ bk c n = true) := by
  unfold rm nx bk at *
  by_cases h0 : c.a0 = n
  · left; simp [h0]
  · by_cases h1 : c.a1 = n
    · right; simp [h0, h1]
    · simp [h0, h1] at h
theorem nx_within {c : I3} (hg : Good c) {v n : Int} (h : 0 < rm c v n) : 0 ≤ nx c n ∧ nx c n ≤ 7 ∧ nx c n ≠ n := by
  have := hg.f0; have := hg.f1; have := hg.t0; have := hg.t1; have := hg.ne
  rcases rm_pos h with ⟨a, _, b, _⟩ | ⟨a, b, _, c, _⟩ <;> omega
theorem goes_is {xs : List I3} {fs : List Int} {s : St} {n : Int} {k : Nat} (h : goes xs fs s n k = true) : 0 < rm (MI3.at_ xs k) (fs.getD k 0) n ∧ s.by_.getD (nxt xs n k) 0 = -1 := by
  simpa [goes] using h
theorem Tree.stepd {xs : List I3} {fs : List Int} {f : Int} {s : St} (hok : okP xs = true) (_hf : 0 ≤ f ∧ f ≤ 7) (h : Tree xs fs f s) {n : Int} (hn : 0 ≤ n ∧ n ≤ 7) (hr : s.by_.getD n.toNat 0 ≠ -1) {k : Nat} (hk : k < xs.length) (hg : goes xs fs s n k = true) : Tree xs fs f (stepd xs fs n s k) := by
  obtain ⟨h1, h2⟩ := goes_is hg
  have G := okP_good hok hk
  obtain ⟨n0, n7, nn⟩ := nx_within G h1
  have ht : nxt xs n k < 8 := by unfold nxt; omega
  have htI : ((nxt xs n k : Nat) : Int) = nx (MI3.at_ xs k) n := by unfold nxt; omega
  have hlt : nxt xs n k < s.by_.length := by rw [h.len]; exact ht
  have hne : ∀ m : Nat, s.by_.getD m 0 ≠ -1 → nxt xs n k ≠ m := fun m hm e => hm (e ▸ h2)
  have gs : ∀ m : Nat, (s.by_.set (nxt xs n k) (k : Int)).getD m 0 = if nxt xs n k = m then (k : Int) else s.by_.getD m 0 := fun m => getD_set _ _ _ _ _ hlt
  have hkeep : ∀ m : Nat, s.by_.getD m 0 ≠ -1 → (s.by_.set (nxt xs n k) (k : Int)).getD m 0 ≠ -1 := fun m hm => by rw [gs, if_neg (hne m hm)]; exact hm
  have hp8 : n.toNat < 8 := by omega
  have hpI : ((n.toNat : Nat) : Int) = n := by omega
  have hallp := h.all n.toNat hp8 hr
  refine ⟨?_, ?_, ?_, ?_, ?_, ?_, ?_, ?_, ?_⟩
  · show (s.by_.set _ _).length = 8; rw [List.length_set]; exact h.len
  · show (s.by_.set _ _).count (-1) + (s.q ++ [_]).length = 8
    have := count_set s.by_ (nxt xs n k) (k : Int) hlt h2 (by omega)
    have := h.cnt
    simp only [List.length_append, List.length_cons, List.length_nil]
    omega
  · intro m hm hlow
    show _ ∨ _
    have hlow' : (s.by_.set (nxt xs n k) (k : Int)).getD m 0 < 0 := hlow
    rw [gs] at hlow'
    by_cases e : nxt xs n k = m
    · rw [if_pos e] at hlow'; omega
    · rw [if_neg e] at hlow'
      show (s.by_.set (nxt xs n k) (k : Int)).getD m 0 = -1 ∨ _
      rw [gs, if_neg e]
      exact h.low m hm hlow'
  · show (s.by_.set _ _).getD _ 0 = -2
    rw [gs, if_neg (hne _ (by rw [h.fst]; omega))]; exact h.fst
  · show (if f.toNat = nxt xs n k then _ else s.L f.toNat) = []
    rw [if_neg (fun e => hne f.toNat (by rw [h.fst]; omega) e.symm)]; exact h.nil
  · intro j hj
    have hj' : j < (s.q ++ [nx (MI3.at_ xs k) n]).length := hj
    show 0 ≤ (s.q ++ [nx (MI3.at_ xs k) n]).getD j 0 ∧ (s.q ++ [nx (MI3.at_ xs k) n]).getD j 0 ≤ 7 ∧ (s.by_.set (nxt xs n k) (k : Int)).getD ((s.q ++ [nx (MI3.at_ xs k) n]).getD j 0).toNat 0 ≠ -1
    by_cases e : j < s.q.length
    · rw [show (s.q ++ [nx (MI3.at_ xs k) n]).getD j 0 = s.q.getD j 0 from by simp [List.getD_eq_getElem?_getD, List.getElem?_append_left e]]
      obtain ⟨a, b, c⟩ := h.inq j e
      exact ⟨a, b, hkeep _ c⟩
    · have ej : j = s.q.length := by simp at hj'; omega
      rw [show (s.q ++ [nx (MI3.at_ xs k) n]).getD j 0 = nx (MI3.at_ xs k) n from by subst ej; simp [List.getD_eq_getElem?_getD]]
      refine ⟨n0, n7, ?_⟩
      show (s.by_.set (nxt xs n k) (k : Int)).getD (nxt xs n k) 0 ≠ -1
      rw [gs, if_pos rfl]; omega
  · intro m hm hr2 hmf
    have hr3 : (s.by_.set (nxt xs n k) (k : Int)).getD m 0 ≠ -1 := hr2
    by_cases e : nxt xs n k = m
    · refine ⟨k, n.toNat, hk, hp8, ?_, ?_, ?_, ?_, ?_⟩
      · show (s.by_.set (nxt xs n k) (k : Int)).getD m 0 = _; rw [gs, if_pos e]
      · exact hkeep _ hr
      · rw [hpI, ← e, htI]
      · rw [hpI]; exact h1
      · show (if m = nxt xs n k then _ else s.L m) = (if n.toNat = nxt xs n k then _ else s.L n.toNat) ++ _
        rw [if_pos e.symm, if_neg (fun e' => hne _ hr e'.symm), hpI]
    · rw [gs, if_neg e] at hr3
      obtain ⟨k', p, a, b, c, d, e1, e2, e3⟩ := h.via m hm hr3 hmf
      refine ⟨k', p, a, b, ?_, hkeep _ d, e1, e2, ?_⟩
      · show (s.by_.set (nxt xs n k) (k : Int)).getD m 0 = _; rw [gs, if_neg e]; exact c
      · show (if m = nxt xs n k then _ else s.L m) = (if p = nxt xs n k then _ else s.L p) ++ _
        rw [if_neg (fun e' => e e'.symm), if_neg (fun e' => hne _ d e'.symm)]; exact e3
  · intro m hm hr2 x hx
    have hr3 : (s.by_.set (nxt xs n k) (k : Int)).getD m 0 ≠ -1 := hr2
    have hx' : x ∈ (if m = nxt xs n k then s.L n.toNat ++ [stp xs fs n k] else s.L m) := hx
    by_cases e : nxt xs n k = m
    · rw [if_pos e.symm, List.mem_append, List.mem_singleton] at hx'
      rcases hx' with hx' | rfl
      · obtain ⟨a, b, c⟩ := hallp x hx'
        exact ⟨a, hkeep _ b, hkeep _ c⟩
      · refine ⟨hk, ?_, ?_⟩
        · show (s.by_.set (nxt xs n k) (k : Int)).getD (MI3.at_ xs k).a0.toNat 0 ≠ -1
          rcases rm_pos h1 with ⟨a, _, b, _⟩ | ⟨a, b, _, c, _⟩
          · rw [a]; exact hkeep _ hr
          · rw [← c, gs, if_pos (by rfl)]; omega
        · show (s.by_.set (nxt xs n k) (k : Int)).getD (MI3.at_ xs k).a1.toNat 0 ≠ -1
          rcases rm_pos h1 with ⟨a, _, b, _⟩ | ⟨a, b, _, c, _⟩
          · rw [← b, gs, if_pos (by rfl)]; omega
          · rw [b]; exact hkeep _ hr
    · rw [if_neg (fun e' => e e'.symm)] at hx'
      rw [gs, if_neg e] at hr3
      obtain ⟨a, b, c⟩ := h.all m hm hr3 x hx'
      exact ⟨a, hkeep _ b, hkeep _ c⟩
  · intro m hm hr2
    have hr3 : (s.by_.set (nxt xs n k) (k : Int)).getD m 0 ≠ -1 := hr2
    show ((if m = nxt xs n k then s.L n.toNat ++ [stp xs fs n k] else s.L m).map Stp.k).Nodup
    by_cases e : nxt xs n k = m
    · rw [if_pos e.symm, List.map_append, List.nodup_append]
      refine ⟨h.one n.toNat hp8 hr, by simp, ?_⟩
      intro y hy z hz
      simp only [List.map_cons, List.map_nil, List.mem_singleton] at hz
      have hzk : z = k := hz
      intro eyz
      obtain ⟨x, hx, rfl⟩ := List.mem_map.1 hy
      obtain ⟨_, b, c⟩ := hallp x hx
      rw [show x.k = k from eyz.trans hzk] at b c
      rcases rm_pos h1 with ⟨_, _, b', _⟩ | ⟨_, _, _, c', _⟩
      · exact c (by rw [← b']; exact h2)
      · exact b (by rw [← c']; exact h2)
    · rw [if_neg (fun e' => e e'.symm)]
      rw [gs, if_neg e] at hr3
      exact h.one m hm hr3
theorem start_tree {xs : List I3} {fs : List Int} {f : Int} (hf : 0 ≤ f ∧ f ≤ 7) : Tree xs fs f (start f) := by
  have hl : f.toNat < (List.replicate 8 (-1 : Int)).length := by simp; omega
  have gs : ∀ m : Nat, ((List.replicate 8 (-1 : Int)).set f.toNat (-2)).getD m 0 = if f.toNat = m then -2 else (List.replicate 8 (-1 : Int)).getD m 0 := fun m => getD_set _ _ _ _ _ hl
  have gr : ∀ m : Nat, m < 8 → (List.replicate 8 (-1 : Int)).getD m 0 = -1 := fun m hm => by rw [List.getD_eq_getElem?_getD, List.getElem?_replicate, if_pos hm]; rfl
  have only : ∀ m : Nat, m < 8 → (start f).by_.getD m 0 ≠ -1 → f.toNat = m := fun m hm h => by
    by_cases e : f.toNat = m
    · exact e
    · have h' : ((List.replicate 8 (-1 : Int)).set f.toNat (-2)).getD m 0 ≠ -1 := h
      rw [gs, if_neg e, gr m hm] at h'; exact absurd rfl h'
  refine ⟨by simp [start], ?_, ?_, ?_, rfl, ?_, ?_, ?_, ?_⟩
  · have := count_set (List.replicate 8 (-1 : Int)) f.toNat (-2) hl (gr _ (by omega)) (by omega)
    simp only [List.count_replicate_self] at this
    show ((List.replicate 8 (-1 : Int)).set f.toNat (-2)).count (-1) + 1 = 8
    omega
  · intro m hm h
    by_cases e : f.toNat = m
    · right; omega
    · left; show ((List.replicate 8 (-1 : Int)).set f.toNat (-2)).getD m 0 = -1; rw [gs, if_neg e, gr m hm]
  · show ((List.replicate 8 (-1 : Int)).set f.toNat (-2)).getD f.toNat 0 = -2; rw [gs, if_pos rfl]
  · intro j hj
    have : j = 0 := by simp [start] at hj; exact hj
    subst this
    show 0 ≤ f ∧ f ≤ 7 ∧ ((List.replicate 8 (-1 : Int)).set f.toNat (-2)).getD f.toNat 0 ≠ -1
    rw [gs, if_pos rfl]; omega
  · intro m hm h hmf; have := only m hm h; omega
  · intro m hm h x hx; simp [start] at hx
  · intro m hm h; simp [start]
theorem Tree.step {xs : List I3} {fs : List Int} {f : Int} {s : St} (hok : okP xs = true) (hf : 0 ≤ f ∧ f ≤ 7) (h : Tree xs fs f s) {n : Int} (hn : 0 ≤ n ∧ n ≤ 7) (hr : s.by_.getD n.toNat 0 ≠ -1) {k : Nat} (hk : k < xs.length) : Tree xs fs f (step xs fs n s k) := by
  unfold FL.step; split
  · rename_i hg; exact h.stepd hok hf hn hr hk hg
  · exact h
/-- Who was reached stays so; the row of nodes grows behind. -/
theorem step_keeps {xs : List I3} {fs : List Int} {n : Int} {s : St} {k m : Nat} (h : s.by_.getD m 0 ≠ -1) : (step xs fs n s k).by_.getD m 0 ≠ -1 := by
  unfold step; split
  · rename_i hg
    have h2 := (goes_is hg).2
    show (s.by_.set _ _).getD m 0 ≠ -1
    have e : nxt xs n k ≠ m := fun e => h (e ▸ h2)
    rw [List.getD_eq_getElem?_getD, List.getElem?_set_ne e, ← List.getD_eq_getElem?_getD]; exact h
  · exact h
theorem step_q {xs : List I3} {fs : List Int} {n : Int} {s : St} {k j : Nat} (h : j < s.q.length) : j < (step xs fs n s k).q.length ∧ (step xs fs n s k).q.getD j 0 = s.q.getD j 0 := by
  unfold step; split
  · constructor
    · show j < (s.q ++ [_]).length; simp; omega
    · show (s.q ++ [_]).getD j 0 = _; simp [List.getD_eq_getElem?_getD, List.getElem?_append_left h]
  · exact ⟨h, rfl⟩
structure Scan (xs : List I3) (fs : List Int) (f n : Int) (s s' : St) : Prop where
  tree : Tree xs fs f s'
  keep : s'.by_.getD n.toNat 0 ≠ -1
  more : ∀ j, j < s.q.length → j < s'.q.length ∧ s'.q.getD j 0 = s.q.getD j 0
theorem scan_ok {xs : List I3} {fs : List Int} {f : Int} {s : St} (hok : okP xs = true) (hf : 0 ≤ f ∧ f ≤ 7) (h : Tree xs fs f s) {n : Int} (hn : 0 ≤ n ∧ n ≤ 7) (hr : s.by_.getD n.toNat 0 ≠ -1) (k : Nat) (hk : k ≤ xs.length) : Scan xs fs f n s (scan xs fs n s k) := by
  induction k with
  | zero => exact ⟨h, hr, fun j hj => ⟨hj, rfl⟩⟩
  | succ k ih =>
    have i := ih (by omega)
    refine ⟨i.tree.step hok hf hn i.keep (by omega), step_keeps i.keep, fun j hj => ?_⟩
    have a := i.more j hj
    have b := step_q (xs := xs) (fs := fs) (n := n) (k := k) a.1
    exact ⟨b.1, b.2.trans a.2⟩
theorem at8_tree {xs : List I3} {fs : List Int} {f : Int} (hok : okP xs = true) (hf : 0 ≤ f ∧ f ≤ 7) (i : Nat) : Tree xs fs f (at8 xs fs f i) := by
  induction i with
  | zero => exact start_tree hf
  | succ i ih =>
    rw [at8]; split
    · rename_i h
      obtain ⟨a, b, c⟩ := ih.inq i h
      exact (scan_ok hok hf ih ⟨a, b⟩ c xs.length (Nat.le_refl _)).tree
    · exact ih
theorem Tree.short {xs : List I3} {fs : List Int} {f : Int} {s : St} (h : Tree xs fs f s) : s.q.length ≤ 8 := by have := h.cnt; omega
theorem at8_stays {xs : List I3} {fs : List Int} {f : Int} {i : Nat} (h : (at8 xs fs f i).q.length ≤ i) (d : Nat) : at8 xs fs f (i + d) = at8 xs fs f i := by
  induction d with
  | zero => rfl
  | succ d ih => rw [← Nat.add_assoc, at8, ih, if_neg (by omega)]
def srch (xs : List I3) (fs : List Int) (f : Int) : St := at8 xs fs f 8
theorem srch_is {xs : List I3} {fs : List Int} {f : Int} {i : Nat} (hi : i ≤ 8) (h : (at8 xs fs f i).q.length ≤ i) : srch xs fs f = at8 xs fs f i := by
  unfold srch
  rw [show 8 = i + (8 - i) from by omega]; exact at8_stays h _
theorem srch_tree {xs : List I3} {fs : List Int} {f : Int} (hok : okP xs = true) (hf : 0 ≤ f ∧ f ≤ 7) : Tree xs fs f (srch xs fs f) := at8_tree hok hf 8
end FL
end Go.Proofs.Ytkciheanjcnkkaa
