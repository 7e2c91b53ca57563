/- The search for a row of pipes, and what is put on it: plain facts, over whatever program. What is put on a row of pipes, and the most that gets through: plain facts, over whatever program. The search in memory, as the specification has it: plain facts. -/
import Derived.Test.YtpabhjnpbnabiaaMFO
import Derived.Test.YtpabhjnpbnabiaaM5
import Derived.Test.YtpabhjnpbnabiaaMCur
import Derived.Maps.AppendAt
namespace Go.Proofs.Ytpabhjnpbnabiaa
namespace FL
open Go.RowKit
/-- A pipe gone along or back. -/
structure Stp where
  k : Nat
  back : Bool
  to : Int
  room : Int
def rm (c : I3) (v n : Int) : Int := if c.a0 = n then c.a2 - v else if c.a1 = n then v else 0
def nx (c : I3) (n : Int) : Int := if c.a0 = n then c.a1 else if c.a1 = n then c.a0 else 0
def bk (c : I3) (n : Int) : Bool := decide (c.a0 ≠ n)
def stp (xs : List I3) (fs : List Int) (n : Int) (k : Nat) : Stp := ⟨k, bk (MI3.at_ xs k) n, nx (MI3.at_ xs k) n, rm (MI3.at_ xs k) (fs.getD k 0) n⟩
/-- By which pipe each node was reached, the nodes in their order, and the rows of pipes that lead there. -/
structure St where
  by_ : List Int
  q : List Int
  L : Nat → List Stp
def nxt (xs : List I3) (n : Int) (k : Nat) : Nat := (nx (MI3.at_ xs k) n).toNat
def goes (xs : List I3) (fs : List Int) (s : St) (n : Int) (k : Nat) : Bool := decide (0 < rm (MI3.at_ xs k) (fs.getD k 0) n) && decide (s.by_.getD (nxt xs n k) 0 = -1)
def stepd (xs : List I3) (fs : List Int) (n : Int) (s : St) (k : Nat) : St := ⟨s.by_.set (nxt xs n k) (k : Int), s.q ++ [nx (MI3.at_ xs k) n], fun m => if m = nxt xs n k then s.L n.toNat ++ [stp xs fs n k] else s.L m⟩
def step (xs : List I3) (fs : List Int) (n : Int) (s : St) (k : Nat) : St := if goes xs fs s n k = true then stepd xs fs n s k else s
def scan (xs : List I3) (fs : List Int) (n : Int) (s : St) : Nat → St
  | 0 => s
  | k + 1 => step xs fs n (scan xs fs n s k) k
def start (f : Int) : St := ⟨(List.replicate 8 (-1 : Int)).set f.toNat (-2), [f], fun _ => []⟩
def at8 (xs : List I3) (fs : List Int) (f : Int) : Nat → St
  | 0 => start f
  | i + 1 => if i < (at8 xs fs f i).q.length then scan xs fs ((at8 xs fs f i).q.getD i 0) (at8 xs fs f i) xs.length else at8 xs fs f i
/-- What is known all the while. -/
structure Tree (xs : List I3) (fs : List Int) (f : Int) (s : St) : Prop where
  len : s.by_.length = 8
  cnt : s.by_.count (-1) + s.q.length = 8
  low : ∀ m : Nat, m < 8 → s.by_.getD m 0 < 0 → s.by_.getD m 0 = -1 ∨ (m : Int) = f
  fst : s.by_.getD f.toNat 0 = -2
  nil : s.L f.toNat = []
  inq : ∀ j, j < s.q.length → 0 ≤ s.q.getD j 0 ∧ s.q.getD j 0 ≤ 7 ∧ s.by_.getD (s.q.getD j 0).toNat 0 ≠ -1
  via : ∀ m : Nat, m < 8 → s.by_.getD m 0 ≠ -1 → (m : Int) ≠ f → ∃ k p : Nat, k < xs.length ∧ p < 8 ∧ s.by_.getD m 0 = (k : Int) ∧ s.by_.getD p 0 ≠ -1 ∧ nx (MI3.at_ xs k) (p : Int) = (m : Int) ∧ 0 < rm (MI3.at_ xs k) (fs.getD k 0) (p : Int) ∧ s.L m = s.L p ++ [stp xs fs (p : Int) k]
  all : ∀ m : Nat, m < 8 → s.by_.getD m 0 ≠ -1 → ∀ x ∈ s.L m, x.k < xs.length ∧ s.by_.getD (MI3.at_ xs x.k).a0.toNat 0 ≠ -1 ∧ s.by_.getD (MI3.at_ xs x.k).a1.toNat 0 ≠ -1
  one : ∀ m : Nat, m < 8 → s.by_.getD m 0 ≠ -1 → ((s.L m).map Stp.k).Nodup
theorem getD_set (l : List Int) (i j : Nat) (v d : Int) (h : i < l.length) : (l.set i v).getD j d = if i = j then v else l.getD j d := by
  rw [List.getD_eq_getElem?_getD, List.getD_eq_getElem?_getD, List.getElem?_set]
  by_cases e : i = j
  · subst e; simp [h]
  · simp [e]
theorem count_set (l : List Int) (i : Nat) (v : Int) (h : i < l.length) (h0 : l.getD i 0 = -1) (hv : v ≠ -1) : (l.set i v).count (-1) + 1 = l.count (-1) := by
  have hi : l[i] = -1 := by rw [List.getD_eq_getElem?_getD, List.getElem?_eq_getElem h] at h0; exact h0
  induction l generalizing i with
  | nil => simp at h
  | cons a l ih =>
    cases i with
    | zero => simp at hi; subst hi; simp [hv]
    | succ i =>
      simp only [List.set_cons_succ, List.count_cons]
      have := ih i (by simpa using h) (by simpa using h0) (by simpa using hi)
      omega
theorem rm_pos {c : I3} {v n : Int} (h : 0 < rm c v n) : (c.a0 = n ∧ rm c v n = c.a2 - v ∧ nx c n = c.a1 ∧ bk c n = false) ∨ (c.a0 ≠ n ∧ c.a1 = n ∧ rm c v n = v ∧ nx c n = c.a0 ∧ bk c n = true) := by
  unfold rm nx bk at *
  by_cases h0 : c.a0 = n
  · left; simp [h0]
  · by_cases h1 : c.a1 = n
    · right; simp [h0, h1]
    · simp [h0, h1] at h
theorem nx_within {c : I3} (hg : Good c) {v n : Int} (h : 0 < rm c v n) : 0 ≤ nx c n ∧ nx c n ≤ 7 ∧ nx c n ≠ n := by
  have := hg.f0; have := hg.f1; have := hg.t0; have := hg.t1; have := hg.ne
  rcases rm_pos h with ⟨a, _, b, _⟩ | ⟨a, b, _, c, _⟩ <;> omega
theorem goes_is {xs : List I3} {fs : List Int} {s : St} {n : Int} {k : Nat} (h : goes xs fs s n k = true) : 0 < rm (MI3.at_ xs k) (fs.getD k 0) n ∧ s.by_.getD (nxt xs n k) 0 = -1 := by
  simpa [goes] using h
theorem Tree.stepd {xs : List I3} {fs : List Int} {f : Int} {s : St} (hok : okP xs = true) (_hf : 0 ≤ f ∧ f ≤ 7) (h : Tree xs fs f s) {n : Int} (hn : 0 ≤ n ∧ n ≤ 7) (hr : s.by_.getD n.toNat 0 ≠ -1) {k : Nat} (hk : k < xs.length) (hg : goes xs fs s n k = true) : Tree xs fs f (stepd xs fs n s k) := by
  obtain ⟨h1, h2⟩ := goes_is hg
  have G := okP_good hok hk
  obtain ⟨n0, n7, nn⟩ := nx_within G h1
  have ht : nxt xs n k < 8 := by unfold nxt; omega
  have htI : ((nxt xs n k : Nat) : Int) = nx (MI3.at_ xs k) n := by unfold nxt; omega
  have hlt : nxt xs n k < s.by_.length := by rw [h.len]; exact ht
  have hne : ∀ m : Nat, s.by_.getD m 0 ≠ -1 → nxt xs n k ≠ m := fun m hm e => hm (e ▸ h2)
  have gs : ∀ m : Nat, (s.by_.set (nxt xs n k) (k : Int)).getD m 0 = if nxt xs n k = m then (k : Int) else s.by_.getD m 0 := fun m => getD_set _ _ _ _ _ hlt
  have hkeep : ∀ m : Nat, s.by_.getD m 0 ≠ -1 → (s.by_.set (nxt xs n k) (k : Int)).getD m 0 ≠ -1 := fun m hm => by rw [gs, if_neg (hne m hm)]; exact hm
  have hp8 : n.toNat < 8 := by omega
  have hpI : ((n.toNat : Nat) : Int) = n := by omega
  have hallp := h.all n.toNat hp8 hr
  refine ⟨?_, ?_, ?_, ?_, ?_, ?_, ?_, ?_, ?_⟩
  · show (s.by_.set _ _).length = 8; rw [List.length_set]; exact h.len
  · show (s.by_.set _ _).count (-1) + (s.q ++ [_]).length = 8
    have := count_set s.by_ (nxt xs n k) (k : Int) hlt h2 (by omega)
    have := h.cnt
    simp only [List.length_append, List.length_cons, List.length_nil]
    omega
  · intro m hm hlow
    show _ ∨ _
    have hlow' : (s.by_.set (nxt xs n k) (k : Int)).getD m 0 < 0 := hlow
    rw [gs] at hlow'
    by_cases e : nxt xs n k = m
    · rw [if_pos e] at hlow'; omega
    · rw [if_neg e] at hlow'
      show (s.by_.set (nxt xs n k) (k : Int)).getD m 0 = -1 ∨ _
      rw [gs, if_neg e]
      exact h.low m hm hlow'
  · show (s.by_.set _ _).getD _ 0 = -2
    rw [gs, if_neg (hne _ (by rw [h.fst]; omega))]; exact h.fst
  · show (if f.toNat = nxt xs n k then _ else s.L f.toNat) = []
    rw [if_neg (fun e => hne f.toNat (by rw [h.fst]; omega) e.symm)]; exact h.nil
  · intro j hj
    have hj' : j < (s.q ++ [nx (MI3.at_ xs k) n]).length := hj
    show 0 ≤ (s.q ++ [nx (MI3.at_ xs k) n]).getD j 0 ∧ (s.q ++ [nx (MI3.at_ xs k) n]).getD j 0 ≤ 7 ∧ (s.by_.set (nxt xs n k) (k : Int)).getD ((s.q ++ [nx (MI3.at_ xs k) n]).getD j 0).toNat 0 ≠ -1
    by_cases e : j < s.q.length
    · rw [show (s.q ++ [nx (MI3.at_ xs k) n]).getD j 0 = s.q.getD j 0 from by simp [List.getD_eq_getElem?_getD, List.getElem?_append_left e]]
      obtain ⟨a, b, c⟩ := h.inq j e
      exact ⟨a, b, hkeep _ c⟩
    · have ej : j = s.q.length := by simp at hj'; omega
      rw [show (s.q ++ [nx (MI3.at_ xs k) n]).getD j 0 = nx (MI3.at_ xs k) n from by subst ej; simp [List.getD_eq_getElem?_getD]]
      refine ⟨n0, n7, ?_⟩
      show (s.by_.set (nxt xs n k) (k : Int)).getD (nxt xs n k) 0 ≠ -1
      rw [gs, if_pos rfl]; omega
  · intro m hm hr2 hmf
    have hr3 : (s.by_.set (nxt xs n k) (k : Int)).getD m 0 ≠ -1 := hr2
    by_cases e : nxt xs n k = m
    · refine ⟨k, n.toNat, hk, hp8, ?_, ?_, ?_, ?_, ?_⟩
      · show (s.by_.set (nxt xs n k) (k : Int)).getD m 0 = _; rw [gs, if_pos e]
      · exact hkeep _ hr
      · rw [hpI, ← e, htI]
      · rw [hpI]; exact h1
      · show (if m = nxt xs n k then _ else s.L m) = (if n.toNat = nxt xs n k then _ else s.L n.toNat) ++ _
        rw [if_pos e.symm, if_neg (fun e' => hne _ hr e'.symm), hpI]
    · rw [gs, if_neg e] at hr3
      obtain ⟨k', p, a, b, c, d, e1, e2, e3⟩ := h.via m hm hr3 hmf
      refine ⟨k', p, a, b, ?_, hkeep _ d, e1, e2, ?_⟩
      · show (s.by_.set (nxt xs n k) (k : Int)).getD m 0 = _; rw [gs, if_neg e]; exact c
      · show (if m = nxt xs n k then _ else s.L m) = (if p = nxt xs n k then _ else s.L p) ++ _
        rw [if_neg (fun e' => e e'.symm), if_neg (fun e' => hne _ d e'.symm)]; exact e3
  · intro m hm hr2 x hx
    have hr3 : (s.by_.set (nxt xs n k) (k : Int)).getD m 0 ≠ -1 := hr2
    have hx' : x ∈ (if m = nxt xs n k then s.L n.toNat ++ [stp xs fs n k] else s.L m) := hx
    by_cases e : nxt xs n k = m
    · rw [if_pos e.symm, List.mem_append, List.mem_singleton] at hx'
      rcases hx' with hx' | rfl
      · obtain ⟨a, b, c⟩ := hallp x hx'
        exact ⟨a, hkeep _ b, hkeep _ c⟩
      · refine ⟨hk, ?_, ?_⟩
        · show (s.by_.set (nxt xs n k) (k : Int)).getD (MI3.at_ xs k).a0.toNat 0 ≠ -1
          rcases rm_pos h1 with ⟨a, _, b, _⟩ | ⟨a, b, _, c, _⟩
          · rw [a]; exact hkeep _ hr
          · rw [← c, gs, if_pos (by rfl)]; omega
        · show (s.by_.set (nxt xs n k) (k : Int)).getD (MI3.at_ xs k).a1.toNat 0 ≠ -1
          rcases rm_pos h1 with ⟨a, _, b, _⟩ | ⟨a, b, _, c, _⟩
          · rw [← b, gs, if_pos (by rfl)]; omega
          · rw [b]; exact hkeep _ hr
    · rw [if_neg (fun e' => e e'.symm)] at hx'
      rw [gs, if_neg e] at hr3
      obtain ⟨a, b, c⟩ := h.all m hm hr3 x hx'
      exact ⟨a, hkeep _ b, hkeep _ c⟩
  · intro m hm hr2
    have hr3 : (s.by_.set (nxt xs n k) (k : Int)).getD m 0 ≠ -1 := hr2
    show ((if m = nxt xs n k then s.L n.toNat ++ [stp xs fs n k] else s.L m).map Stp.k).Nodup
    by_cases e : nxt xs n k = m
    · rw [if_pos e.symm, List.map_append, List.nodup_append]
      refine ⟨h.one n.toNat hp8 hr, by simp, ?_⟩
      intro y hy z hz
      simp only [List.map_cons, List.map_nil, List.mem_singleton] at hz
      have hzk : z = k := hz
      intro eyz
      obtain ⟨x, hx, rfl⟩ := List.mem_map.1 hy
      obtain ⟨_, b, c⟩ := hallp x hx
      rw [show x.k = k from eyz.trans hzk] at b c
      rcases rm_pos h1 with ⟨_, _, b', _⟩ | ⟨_, _, _, c', _⟩
      · exact c (by rw [← b']; exact h2)
      · exact b (by rw [← c']; exact h2)
    · rw [if_neg (fun e' => e e'.symm)]
      rw [gs, if_neg e] at hr3
      exact h.one m hm hr3
theorem start_tree {xs : List I3} {fs : List Int} {f : Int} (hf : 0 ≤ f ∧ f ≤ 7) : Tree xs fs f (start f) := by
  have hl : f.toNat < (List.replicate 8 (-1 : Int)).length := by simp; omega
  have gs : ∀ m : Nat, ((List.replicate 8 (-1 : Int)).set f.toNat (-2)).getD m 0 = if f.toNat = m then -2 else (List.replicate 8 (-1 : Int)).getD m 0 := fun m => getD_set _ _ _ _ _ hl
  have gr : ∀ m : Nat, m < 8 → (List.replicate 8 (-1 : Int)).getD m 0 = -1 := fun m hm => by rw [List.getD_eq_getElem?_getD, List.getElem?_replicate, if_pos hm]; rfl
  have only : ∀ m : Nat, m < 8 → (start f).by_.getD m 0 ≠ -1 → f.toNat = m := fun m hm h => by
    by_cases e : f.toNat = m
    · exact e
    · have h' : ((List.replicate 8 (-1 : Int)).set f.toNat (-2)).getD m 0 ≠ -1 := h
      rw [gs, if_neg e, gr m hm] at h'; exact absurd rfl h'
  refine ⟨by simp [start], ?_, ?_, ?_, rfl, ?_, ?_, ?_, ?_⟩
  · have := count_set (List.replicate 8 (-1 : Int)) f.toNat (-2) hl (gr _ (by omega)) (by omega)
    simp only [List.count_replicate_self] at this
    show ((List.replicate 8 (-1 : Int)).set f.toNat (-2)).count (-1) + 1 = 8
    omega
  · intro m hm h
    by_cases e : f.toNat = m
    · right; omega
    · left; show ((List.replicate 8 (-1 : Int)).set f.toNat (-2)).getD m 0 = -1; rw [gs, if_neg e, gr m hm]
  · show ((List.replicate 8 (-1 : Int)).set f.toNat (-2)).getD f.toNat 0 = -2; rw [gs, if_pos rfl]
  · intro j hj
    have : j = 0 := by simp [start] at hj; exact hj
    subst this
    show 0 ≤ f ∧ f ≤ 7 ∧ ((List.replicate 8 (-1 : Int)).set f.toNat (-2)).getD f.toNat 0 ≠ -1
    rw [gs, if_pos rfl]; omega
  · intro m hm h hmf; have := only m hm h; omega
  · intro m hm h x hx; simp [start] at hx
  · intro m hm h; simp [start]
theorem Tree.step {xs : List I3} {fs : List Int} {f : Int} {s : St} (hok : okP xs = true) (hf : 0 ≤ f ∧ f ≤ 7) (h : Tree xs fs f s) {n : Int} (hn : 0 ≤ n ∧ n ≤ 7) (hr : s.by_.getD n.toNat 0 ≠ -1) {k : Nat} (hk : k < xs.length) : Tree xs fs f (step xs fs n s k) := by
  unfold FL.step; split
  · rename_i hg; exact h.stepd hok hf hn hr hk hg
  · exact h
/-- Who was reached stays so; the row of nodes grows behind. -/
theorem step_keeps {xs : List I3} {fs : List Int} {n : Int} {s : St} {k m : Nat} (h : s.by_.getD m 0 ≠ -1) : (step xs fs n s k).by_.getD m 0 ≠ -1 := by
  unfold step; split
  · rename_i hg
    have h2 := (goes_is hg).2
    show (s.by_.set _ _).getD m 0 ≠ -1
    have e : nxt xs n k ≠ m := fun e => h (e ▸ h2)
    rw [List.getD_eq_getElem?_getD, List.getElem?_set_ne e, ← List.getD_eq_getElem?_getD]; exact h
  · exact h
theorem step_q {xs : List I3} {fs : List Int} {n : Int} {s : St} {k j : Nat} (h : j < s.q.length) : j < (step xs fs n s k).q.length ∧ (step xs fs n s k).q.getD j 0 = s.q.getD j 0 := by
  unfold step; split
  · constructor
    · show j < (s.q ++ [_]).length; simp; omega
    · show (s.q ++ [_]).getD j 0 = _; simp [List.getD_eq_getElem?_getD, List.getElem?_append_left h]
  · exact ⟨h, rfl⟩
structure Scan (xs : List I3) (fs : List Int) (f n : Int) (s s' : St) : Prop where
  tree : Tree xs fs f s'
  keep : s'.by_.getD n.toNat 0 ≠ -1
  more : ∀ j, j < s.q.length → j < s'.q.length ∧ s'.q.getD j 0 = s.q.getD j 0
theorem scan_ok {xs : List I3} {fs : List Int} {f : Int} {s : St} (hok : okP xs = true) (hf : 0 ≤ f ∧ f ≤ 7) (h : Tree xs fs f s) {n : Int} (hn : 0 ≤ n ∧ n ≤ 7) (hr : s.by_.getD n.toNat 0 ≠ -1) (k : Nat) (hk : k ≤ xs.length) : Scan xs fs f n s (scan xs fs n s k) := by
  induction k with
  | zero => exact ⟨h, hr, fun j hj => ⟨hj, rfl⟩⟩
  | succ k ih =>
    have i := ih (by omega)
    refine ⟨i.tree.step hok hf hn i.keep (by omega), step_keeps i.keep, fun j hj => ?_⟩
    have a := i.more j hj
    have b := step_q (xs := xs) (fs := fs) (n := n) (k := k) a.1
    exact ⟨b.1, b.2.trans a.2⟩
theorem at8_tree {xs : List I3} {fs : List Int} {f : Int} (hok : okP xs = true) (hf : 0 ≤ f ∧ f ≤ 7) (i : Nat) : Tree xs fs f (at8 xs fs f i) := by
  induction i with
  | zero => exact start_tree hf
  | succ i ih =>
    rw [at8]; split
    · rename_i h
      obtain ⟨a, b, c⟩ := ih.inq i h
      exact (scan_ok hok hf ih ⟨a, b⟩ c xs.length (Nat.le_refl _)).tree
    · exact ih
theorem Tree.short {xs : List I3} {fs : List Int} {f : Int} {s : St} (h : Tree xs fs f s) : s.q.length ≤ 8 := by have := h.cnt; omega
theorem at8_stays {xs : List I3} {fs : List Int} {f : Int} {i : Nat} (h : (at8 xs fs f i).q.length ≤ i) (d : Nat) : at8 xs fs f (i + d) = at8 xs fs f i := by
  induction d with
  | zero => rfl
  | succ d ih => rw [← Nat.add_assoc, at8, ih, if_neg (by omega)]
def srch (xs : List I3) (fs : List Int) (f : Int) : St := at8 xs fs f 8
theorem srch_is {xs : List I3} {fs : List Int} {f : Int} {i : Nat} (hi : i ≤ 8) (h : (at8 xs fs f i).q.length ≤ i) : srch xs fs f = at8 xs fs f i := by
  unfold srch
  rw [show 8 = i + (8 - i) from by omega]; exact at8_stays h _
theorem srch_tree {xs : List I3} {fs : List Int} {f : Int} (hok : okP xs = true) (hf : 0 ≤ f ∧ f ≤ 7) : Tree xs fs f (srch xs fs f) := at8_tree hok hf 8
end FL
end Go.Proofs.Ytpabhjnpbnabiaa
namespace Go.Proofs.Ytpabhjnpbnabiaa
namespace FL
open Go.RowKit
def mostOf (l : List Stp) : Int := l.foldl (fun m s => min m s.room) 100
def dl (more : Int) (s : Stp) : Int := if s.back = true then -more else more
def put1 (more : Int) (fs : List Int) (s : Stp) : List Int := fs.set s.k (fs.getD s.k 0 + dl more s)
def putL (more : Int) (fs : List Int) (l : List Stp) : List Int := l.foldl (put1 more) fs
theorem put1_len (more : Int) (fs : List Int) (s : Stp) : (put1 more fs s).length = fs.length := by simp [put1]
theorem putL_len (more : Int) (l : List Stp) (fs : List Int) : (putL more fs l).length = fs.length := by
  induction l generalizing fs with
  | nil => rfl
  | cons s l ih => show (putL more (put1 more fs s) l).length = _; rw [ih, put1_len]
theorem putL_snoc (more : Int) (fs : List Int) (l : List Stp) (s : Stp) : putL more fs (l ++ [s]) = put1 more (putL more fs l) s := by simp [putL]
theorem mostOf_snoc (l : List Stp) (s : Stp) : mostOf (l ++ [s]) = min (mostOf l) s.room := by simp [mostOf]
/-- The number at a pipe behind one step. -/
theorem put1_at (more : Int) (fs : List Int) (s : Stp) (j : Nat) (h : s.k < fs.length) : (put1 more fs s).getD j 0 = if s.k = j then fs.getD j 0 + dl more s else fs.getD j 0 := by
  unfold put1; rw [getD_set _ _ _ _ _ h]
  by_cases e : s.k = j
  · rw [if_pos e, if_pos e, e]
  · rw [if_neg e, if_neg e]
theorem list_ext {l l' : List Int} (hl : l.length = l'.length) (h : ∀ j, l.getD j 0 = l'.getD j 0) : l = l' := by
  apply List.ext_getElem hl
  intro j h1 h2
  have := h j
  rw [List.getD_eq_getElem?_getD, List.getD_eq_getElem?_getD, List.getElem?_eq_getElem h1, List.getElem?_eq_getElem h2] at this
  exact this
theorem put1_comm (more : Int) (fs : List Int) (s t : Stp) (hs : s.k < fs.length) (ht : t.k < fs.length) : put1 more (put1 more fs s) t = put1 more (put1 more fs t) s := by
  refine list_ext (by simp [put1_len]) fun j => ?_
  rw [put1_at _ _ _ _ (by rw [put1_len]; exact ht), put1_at _ _ _ _ hs, put1_at _ _ _ _ (by rw [put1_len]; exact hs), put1_at _ _ _ _ ht]
  by_cases e1 : s.k = j <;> by_cases e2 : t.k = j <;> simp [e1, e2] <;> omega
/-- Put on from the end: the same. -/
def putR (more : Int) (fs : List Int) (l : List Stp) : List Int := l.foldr (fun s g => put1 more g s) fs
theorem putR_len (more : Int) (l : List Stp) (fs : List Int) : (putR more fs l).length = fs.length := by
  induction l with
  | nil => rfl
  | cons s l ih => show (put1 more (putR more fs l) s).length = _; rw [put1_len, ih]
theorem putL_put1 (more : Int) (l : List Stp) (fs : List Int) (s : Stp) (hs : s.k < fs.length) (hl : ∀ x ∈ l, x.k < fs.length) : putL more (put1 more fs s) l = put1 more (putL more fs l) s := by
  induction l generalizing fs with
  | nil => rfl
  | cons t l ih =>
    show putL more (put1 more (put1 more fs s) t) l = put1 more (putL more (put1 more fs t) l) s
    have ht := hl t (List.mem_cons_self ..)
    rw [put1_comm _ _ _ _ hs ht, ih (put1 more fs t) (by rw [put1_len]; exact hs) (fun x hx => by rw [put1_len]; exact hl x (List.mem_cons_of_mem _ hx))]
theorem putR_is (more : Int) (l : List Stp) (fs : List Int) (hl : ∀ x ∈ l, x.k < fs.length) : putR more fs l = putL more fs l := by
  induction l with
  | nil => rfl
  | cons s l ih =>
    show put1 more (putR more fs l) s = putL more (put1 more fs s) l
    rw [ih (fun x hx => hl x (List.mem_cons_of_mem _ hx)), putL_put1 _ _ _ _ (hl s (List.mem_cons_self ..)) (fun x hx => hl x (List.mem_cons_of_mem _ hx))]
/-- The least room, as the specification takes it from the end on: 0 where nothing was met yet. -/
def lst : List Stp → Int
  | [] => 0
  | s :: l => if lst l = 0 ∨ s.room < lst l then s.room else lst l
theorem lst_is {l : List Stp} (h : ∀ x ∈ l, 0 < x.room ∧ x.room ≤ 100) (hl : l ≠ []) : lst l = mostOf l ∧ 0 < lst l ∧ lst l ≤ 100 := by
  have key : ∀ (l : List Stp) (c : Int), l.foldl (fun m s => min m s.room) c = min c (l.foldl (fun m s => min m s.room) 100) ∨ 100 < c := by
    intro l
    induction l with
    | nil => intro c; by_cases h : c ≤ 100
             · left; simp; omega
             · right; omega
    | cons s l ih =>
      intro c
      by_cases hc : c ≤ 100
      · left
        simp only [List.foldl_cons]
        rcases ih (min c s.room) with e | e
        · rcases ih (min 100 s.room) with e2 | e2
          · rw [e, e2]; omega
          · omega
        · omega
      · right; omega
  have key2 : ∀ l : List Stp, (∀ x ∈ l, 0 < x.room ∧ x.room ≤ 100) → 0 < l.foldl (fun m s => min m s.room) 100 := by
    intro l
    induction l with
    | nil => intro _; simp
    | cons s l ih =>
      intro h
      simp only [List.foldl_cons]
      have := h s (List.mem_cons_self ..)
      have i := ih (fun x hx => h x (List.mem_cons_of_mem _ hx))
      rcases key l (min 100 s.room) with e | e <;> omega
  induction l with
  | nil => exact absurd rfl hl
  | cons s l ih =>
    have hs := h s (List.mem_cons_self ..)
    have hl' : ∀ x ∈ l, 0 < x.room ∧ x.room ≤ 100 := fun x hx => h x (List.mem_cons_of_mem _ hx)
    have k := key l (min 100 s.room)
    have k2 := key2 l hl'
    unfold mostOf
    simp only [List.foldl_cons, lst]
    by_cases e : l = []
    · subst e; simp [lst]; omega
    · have i := ih hl' e
      unfold mostOf at i
      by_cases c : lst l = 0 ∨ s.room < lst l
      · rw [if_pos c]; omega
      · rw [if_neg c]; omega
/-- Within the pipes it stays. -/
theorem putL_not {more : Int} {j : Nat} (l : List Stp) (fs : List Int) (hl : ∀ x ∈ l, x.k < fs.length) (h : j ∉ l.map Stp.k) : (putL more fs l).getD j 0 = fs.getD j 0 := by
  induction l generalizing fs with
  | nil => rfl
  | cons s l ih =>
    simp only [List.map_cons, List.mem_cons, not_or] at h
    show (putL more (put1 more fs s) l).getD j 0 = _
    rw [ih (put1 more fs s) (fun x hx => by rw [put1_len]; exact hl x (List.mem_cons_of_mem _ hx)) h.2, put1_at _ _ _ _ (hl s (List.mem_cons_self ..)), if_neg (fun e => h.1 e.symm)]
theorem putL_mem {more : Int} {s : Stp} (l : List Stp) (fs : List Int) (hl : ∀ x ∈ l, x.k < fs.length) (hn : (l.map Stp.k).Nodup) (h : s ∈ l) : (putL more fs l).getD s.k 0 = fs.getD s.k 0 + dl more s := by
  induction l generalizing fs with
  | nil => cases h
  | cons t l ih =>
    simp only [List.map_cons, List.nodup_cons] at hn
    have hl2 : ∀ x ∈ l, x.k < (put1 more fs t).length := fun x hx => by rw [put1_len]; exact hl x (List.mem_cons_of_mem _ hx)
    show (putL more (put1 more fs t) l).getD s.k 0 = _
    rcases List.mem_cons.1 h with rfl | h
    · rw [putL_not l _ hl2 hn.1, put1_at _ _ _ _ (hl _ (List.mem_cons_self ..)), if_pos rfl]
    · rw [ih _ hl2 hn.2 h, put1_at _ _ _ _ (hl t (List.mem_cons_self ..)), if_neg (fun e : t.k = s.k => hn.1 (by rw [e]; exact List.mem_map_of_mem h))]
/-- What each step of a found row is. -/
theorem Tree.rooms {xs : List I3} {fs : List Int} {f : Int} {s : St} (hok : okP xs = true) (hfit : fitUp xs fs xs.length) (h : Tree xs fs f s) (n : Nat) : ∀ m : Nat, m < 8 → s.by_.getD m 0 ≠ -1 → (s.L m).length = n → ∀ x ∈ s.L m, x.k < xs.length ∧ 0 < x.room ∧ x.room ≤ 100 ∧ (x.back = false → x.room = (MI3.at_ xs x.k).a2 - fs.getD x.k 0) ∧ (x.back = true → x.room = fs.getD x.k 0) := by
  induction n with
  | zero => intro m hm hr hl x hx; rw [List.length_eq_zero_iff.1 hl] at hx; cases hx
  | succ n ih =>
    intro m hm hr hl x hx
    by_cases e : (m : Int) = f
    · rw [show m = f.toNat from by omega, h.nil] at hx; cases hx
    · obtain ⟨k, p, hk, hp, _, hp2, _, h0, hL⟩ := h.via m hm hr e
      rw [hL] at hl hx
      simp only [List.length_append, List.length_cons, List.length_nil] at hl
      rcases List.mem_append.1 hx with hx | hx
      · exact ih p hp hp2 (by omega) x hx
      · rw [List.mem_singleton] at hx; subst hx
        have G := okP_good hok hk
        have hf := hfit k hk
        have := G.c1
        show k < xs.length ∧ 0 < rm (MI3.at_ xs k) (fs.getD k 0) p ∧ rm (MI3.at_ xs k) (fs.getD k 0) p ≤ 100 ∧ (bk (MI3.at_ xs k) p = false → rm (MI3.at_ xs k) (fs.getD k 0) p = _) ∧ (bk (MI3.at_ xs k) p = true → rm (MI3.at_ xs k) (fs.getD k 0) p = _)
        rcases rm_pos h0 with ⟨_, b, _, d⟩ | ⟨_, _, b, _, d⟩
        · rw [b, d]; exact ⟨hk, by omega, by omega, (fun _ => rfl), (fun e => by cases e)⟩
        · rw [b, d]; exact ⟨hk, by omega, by omega, (fun e => by cases e), (fun _ => rfl)⟩
theorem Tree.nonnil {xs : List I3} {fs : List Int} {f : Int} {s : St} (h : Tree xs fs f s) {m : Nat} (hm : m < 8) (hr : s.by_.getD m 0 ≠ -1) (hf : (m : Int) ≠ f) : s.L m ≠ [] := by
  obtain ⟨k, p, _, _, _, _, _, _, hL⟩ := h.via m hm hr hf
  rw [hL]; simp
/-- What is put on: nothing where no row leads there. -/
def reach (xs : List I3) (fs : List Int) (f t : Int) : Bool := !decide ((srch xs fs f).by_.getD t.toNat 0 = -1)
def rowL (xs : List I3) (fs : List Int) (f t : Int) : List Stp := (srch xs fs f).L t.toNat
def augN (xs : List I3) (fs : List Int) (f t : Int) : Int := if reach xs fs f t = true then mostOf (rowL xs fs f t) else 0
def augL (xs : List I3) (fs : List Int) (f t : Int) : List Int := if reach xs fs f t = true then putL (mostOf (rowL xs fs f t)) fs (rowL xs fs f t) else fs
theorem augL_len (xs : List I3) (fs : List Int) (f t : Int) : (augL xs fs f t).length = fs.length := by
  unfold augL; split
  · exact putL_len _ _ _
  · rfl
structure Row (xs : List I3) (fs : List Int) (f t : Int) : Prop where
  tree : Tree xs fs f (srch xs fs f)
  is : (srch xs fs f).by_.getD t.toNat 0 ≠ -1
  non : rowL xs fs f t ≠ []
  rooms : ∀ x ∈ rowL xs fs f t, x.k < xs.length ∧ 0 < x.room ∧ x.room ≤ 100 ∧ (x.back = false → x.room = (MI3.at_ xs x.k).a2 - fs.getD x.k 0) ∧ (x.back = true → x.room = fs.getD x.k 0)
  most : lst (rowL xs fs f t) = mostOf (rowL xs fs f t)
  pos : 0 < mostOf (rowL xs fs f t)
  up : mostOf (rowL xs fs f t) ≤ 100
  one : ((rowL xs fs f t).map Stp.k).Nodup
theorem row_of {xs : List I3} {fs : List Int} {f t : Int} (A : Ask xs f t) (hfit : fitUp xs fs xs.length) (h : reach xs fs f t = true) : Row xs fs f t := by
  have h0 := A.f0; have h7 := A.f7; have t0 := A.t0; have t7 := A.t7; have ne := A.ne
  have T := srch_tree (fs := fs) A.ok ⟨h0, h7⟩
  have hr : (srch xs fs f).by_.getD t.toNat 0 ≠ -1 := by simpa [reach] using h
  have hn : rowL xs fs f t ≠ [] := T.nonnil (m := t.toNat) (by omega) hr (by omega)
  have R := T.rooms A.ok hfit _ t.toNat (by omega) hr rfl
  have L := lst_is (l := rowL xs fs f t) (fun x hx => ⟨(R x hx).2.1, (R x hx).2.2.1⟩) hn
  exact ⟨T, hr, hn, R, L.1, by rw [← L.1]; exact L.2.1, by rw [← L.1]; exact L.2.2, T.one t.toNat (by omega) hr⟩
theorem most_le {l : List Stp} {x : Stp} (hx : x ∈ l) : mostOf l ≤ x.room := by
  have key : ∀ (l : List Stp) (c : Int), l.foldl (fun m s => min m s.room) c ≤ c ∧ ∀ x ∈ l, l.foldl (fun m s => min m s.room) c ≤ x.room := by
    intro l
    induction l with
    | nil => intro c; exact ⟨Int.le_refl _, fun x hx => by cases hx⟩
    | cons s l ih =>
      intro c
      simp only [List.foldl_cons]
      have i := ih (min c s.room)
      refine ⟨by omega, fun x hx => ?_⟩
      rcases List.mem_cons.1 hx with rfl | hx
      · omega
      · exact i.2 x hx
  exact (key l 100).2 x hx
theorem aug_fit {xs : List I3} {fs : List Int} {f t : Int} (A : Ask xs f t) (hl : fs.length = xs.length) (hfit : fitUp xs fs xs.length) : fitUp xs (augL xs fs f t) xs.length := by
  unfold augL
  by_cases h : reach xs fs f t = true
  · rw [if_pos h]
    have R := row_of A hfit h
    intro j hj
    have hf := hfit j hj
    have hk : ∀ x ∈ rowL xs fs f t, x.k < fs.length := fun x hx => by rw [hl]; exact (R.rooms x hx).1
    by_cases hm : j ∈ (rowL xs fs f t).map Stp.k
    · obtain ⟨x, hx, rfl⟩ := List.mem_map.1 hm
      rw [putL_mem _ _ hk R.one hx]
      have := R.rooms x hx
      have := most_le hx
      have := R.pos
      unfold dl
      cases hb : x.back with
      | false => have := (R.rooms x hx).2.2.2.1 hb; rw [if_neg (by decide)]; omega
      | true => have := (R.rooms x hx).2.2.2.2 hb; rw [if_pos rfl]; omega
    · rw [putL_not _ _ hk hm]; exact hf
  · rw [if_neg h]; exact hfit
/-- What goes out of from grows by what is put on. -/
theorem sg_add (c : I3) (n v d : Int) : sg c n (v + d) = sg c n v + sg c n d := by
  unfold sg; split
  · rfl
  · split <;> omega
theorem outUp_put (xs : List I3) (fs : List Int) (n more : Int) (s : Stp) (hs : s.k < fs.length) (m : Nat) : outUp xs (put1 more fs s) n m = outUp xs fs n m + (if s.k < m then sg (MI3.at_ xs s.k) n (dl more s) else 0) := by
  induction m with
  | zero => simp [outUp]
  | succ m ih =>
    rw [outUp, outUp, ih, put1_at _ _ _ _ hs]
    by_cases e : s.k = m
    · subst e; rw [if_pos rfl, if_neg (by omega), if_pos (by omega), sg_add]; omega
    · rw [if_neg e]
      by_cases c : s.k < m
      · rw [if_pos c, if_pos (by omega)]; omega
      · rw [if_neg c, if_neg (by omega)]; omega
theorem outUp_row {xs : List I3} {fs : List Int} {f : Int} {s : St} (hl : fs.length = xs.length) (_hf : 0 ≤ f) (more : Int) (h : Tree xs fs f s) (n : Nat) : ∀ m : Nat, m < 8 → s.by_.getD m 0 ≠ -1 → (s.L m).length = n → outUp xs (putL more fs (s.L m)) f xs.length = outUp xs fs f xs.length + (if (m : Int) = f then 0 else more) := by
  induction n with
  | zero =>
    intro m hm hr hn
    by_cases e : (m : Int) = f
    · rw [if_pos e, List.length_eq_zero_iff.1 hn]; simp [putL]
    · exact absurd (List.length_eq_zero_iff.1 hn) (h.nonnil hm hr e)
  | succ n ih =>
    intro m hm hr hn
    by_cases e : (m : Int) = f
    · rw [show m = f.toNat from by omega, h.nil] at hn; cases hn
    · rw [if_neg e]
      obtain ⟨k, p, hk, hp, _, hp2, hnx, h0, hL⟩ := h.via m hm hr e
      rw [hL] at hn ⊢
      simp only [List.length_append, List.length_cons, List.length_nil] at hn
      rw [putL_snoc, outUp_put _ _ _ _ _ (by rw [putL_len, hl]; exact hk), ih p hp hp2 (by omega), if_pos (show (stp xs fs (p : Int) k).k < xs.length from hk)]
      have hd : dl more (stp xs fs (p : Int) k) = if bk (MI3.at_ xs k) (p : Int) = true then -more else more := rfl
      have hat : MI3.at_ xs (stp xs fs (p : Int) k).k = MI3.at_ xs k := rfl
      rw [hd, hat]
      unfold sg
      rcases rm_pos h0 with ⟨a, _, b, d⟩ | ⟨a, b, _, c, d⟩
      · rw [d]
        by_cases ep : (p : Int) = f
        · rw [if_pos ep, if_pos (a.trans ep)]; simp
        · rw [if_neg ep, if_neg (fun e' => ep (a.symm.trans e')), if_neg (fun e' => e (by rw [← hnx, b]; exact e'))]; simp
      · rw [d]
        by_cases ep : (p : Int) = f
        · rw [if_pos ep, if_neg (fun e' => a (by rw [e', ep])), if_pos (b.trans ep)]; simp
        · rw [if_neg ep, if_neg (fun e' => e (by rw [← hnx, c]; exact e')), if_neg (fun e' => ep (b.symm.trans e'))]; simp
theorem aug_out {xs : List I3} {fs : List Int} {f t : Int} (A : Ask xs f t) (hl : fs.length = xs.length) (hfit : fitUp xs fs xs.length) (h : reach xs fs f t = true) : outUp xs (augL xs fs f t) f xs.length = outUp xs fs f xs.length + augN xs fs f t := by
  have R := row_of A hfit h
  have t0 := A.t0; have t7 := A.t7; have ne := A.ne
  unfold augL augN
  rw [if_pos h, if_pos h]
  have := outUp_row hl A.f0 (mostOf (rowL xs fs f t)) R.tree _ t.toNat (by omega) R.is rfl
  rw [if_neg (by omega)] at this
  exact this
/-- From nothing on. -/
def flowAt (xs : List I3) (f t : Int) : Nat → List Int
  | 0 => List.replicate xs.length 0
  | i + 1 => augL xs (flowAt xs f t i) f t
theorem flowAt_ok {xs : List I3} {f t : Int} (A : Ask xs f t) (i : Nat) : (flowAt xs f t i).length = xs.length ∧ fitUp xs (flowAt xs f t i) xs.length := by
  induction i with
  | zero =>
    refine ⟨by simp [flowAt], fun j hj => ?_⟩
    rw [show (flowAt xs f t 0).getD j 0 = 0 from by simp [flowAt, List.getD_eq_getElem?_getD, hj]]
    have := (A.good hj).c0; omega
  | succ i ih => exact ⟨by rw [flowAt, augL_len]; exact ih.1, aug_fit A ih.1 ih.2⟩
theorem flowAt_stays {xs : List I3} {f t : Int} {i : Nat} (h : reach xs (flowAt xs f t i) f t = false) (d : Nat) : flowAt xs f t (i + d) = flowAt xs f t i := by
  induction d with
  | zero => rfl
  | succ d ih => rw [← Nat.add_assoc, flowAt, ih]; unfold augL; rw [if_neg (by rw [h]; decide)]
def maxF (xs : List I3) (f t : Int) : List Int := flowAt xs f t 2000
theorem maxF_is {xs : List I3} {f t : Int} {i : Nat} (A : Ask xs f t) (hi : (i : Int) ≤ outUp xs (flowAt xs f t i) f xs.length) (h : reach xs (flowAt xs f t i) f t = false) : maxF xs f t = flowAt xs f t i := by
  have w := (outUp_within (n := f) A.ok (flowAt_ok A i).2 xs.length (Nat.le_refl _)).2
  have := A.len
  unfold maxF
  rw [show 2000 = i + (2000 - i) from by omega]
  exact flowAt_stays h _
theorem flowAt_next {xs : List I3} {f t : Int} {i : Nat} (A : Ask xs f t) (hi : (i : Int) ≤ outUp xs (flowAt xs f t i) f xs.length) (h : reach xs (flowAt xs f t i) f t = true) : ((i + 1 : Nat) : Int) ≤ outUp xs (flowAt xs f t (i + 1)) f xs.length ∧ outUp xs (flowAt xs f t i) f xs.length < outUp xs (flowAt xs f t (i + 1)) f xs.length := by
  have o := flowAt_ok A i
  have a := aug_out A o.1 o.2 h
  have R := (row_of A o.2 h).pos
  have e : augN xs (flowAt xs f t i) f t = mostOf (rowL xs (flowAt xs f t i) f t) := by unfold augN; rw [if_pos h]
  rw [flowAt, a, e]
  push_cast
  omega
end FL
end Go.Proofs.Ytpabhjnpbnabiaa
namespace Go.Proofs.Ytpabhjnpbnabiaa
open Go.RowKit
namespace FL
theorem own_grown {W W' : World} {base e sz n : Nat} {v : Value} {xs : List Value} {r : Option Nat} (h : W.ownsRow base e sz v n xs) (hg : W.grownBy W' r) (hne : ∀ g, v.ownBlock = some g → r ≠ some g) : W'.ownsRow base e sz v n xs := by
  refine ⟨h.1, ?_⟩
  rcases h.2 with h' | ⟨g, cap, cur, rfl, h2, h3, h4⟩
  · exact .inl h'
  · refine .inr ⟨g, cap, cur, rfl, h2, ?_, h4⟩
    rw [hg.block g (Array.getElem?_eq_some_iff.1 h3).1 (fun e => hne g rfl e.symm)]; exact h3
theorem own_lt {W : World} {base e sz n : Nat} {v : Value} {xs : List Value} (h : W.ownsRow base e sz v n xs) {g : Nat} (hg : v.ownBlock = some g) : g < W.heap.size := (h.lt g hg).2
theorem grown_a {base : Nat} {W w1 : World} {u v v' : Value} {m n : Nat} {L M L' : List Value} {o : Obj} (_ha : W.ownsRow base 3 1 u n L) (hb : W.ownsRow base 3 1 v m M) (ne : ∀ g, u.ownBlock = some g → v.ownBlock ≠ some g)
    (_hown : w1.ownsRow base 3 1 v' (n + 1) L') (hgrow : (W.alloc o).grownBy w1 u.ownBlock) (loc : v'.ownBlock = u.ownBlock ∨ v'.ownBlock = some (W.heap.size + 1)) :
    w1.ownsRow base 3 1 v m M ∧ (∀ g, v'.ownBlock = some g → v.ownBlock ≠ some g) := by
  refine ⟨own_grown (hb.alloc o) hgrow fun g hg e => ne g e hg, fun g hg e => ?_⟩
  rcases loc with l | l
  · exact ne g (l ▸ hg) e
  · rw [l] at hg
    simp only [Option.some.injEq] at hg
    have := own_lt hb e
    omega
theorem iv_snoc (k : Nat) : M4.iv (List.replicate k (-1)) ++ [.int .i64 (-1)] = M4.iv (List.replicate (k + 1) (-1)) := by
  simp [M4.iv, List.replicate_succ', List.map_append]
theorem own_some {W : World} {base : Nat} {v : Value} {L : List Value} (h : W.ownsRow base 3 1 v 8 L) : ∃ g c, v = .slice (some ⟨g, 0, none⟩) 8 c := by
  rcases h.2 with ⟨_, h'⟩ | ⟨g, cap, cur, rfl, _⟩
  · omega
  · exact ⟨g, cap, rfl⟩
theorem own_only_ne {w w' : World} {p base e size n g cap : Nat} {xs : List Value} (h : w.ownsRow base e size (.slice (some ⟨g, 0, none⟩) n cap) n xs) (ho : MC.Only p w w') (hp : g ≠ p) : w'.ownsRow base e size (.slice (some ⟨g, 0, none⟩) n cap) n xs := by
  refine ⟨h.1, ?_⟩
  rcases h.2 with ⟨h1, _⟩ | ⟨g', cap', cur, h1, h2, h3, h4⟩
  · cases h1
  · cases h1
    refine .inr ⟨g, cap, cur, rfl, h2, ?_, h4⟩
    rw [ho.block g (Array.getElem?_eq_some_iff.1 h3).1 hp]; exact h3
/-- By which pipe each was reached, and the nodes in their order, in rows that the call owns. -/
structure SQ (base : Nat) (w W : World) (g1 c1 : Nat) (v : Value) (s : St) : Prop where
  a : W.ownsRow base 3 1 (.slice (some ⟨g1, 0, none⟩) 8 c1) 8 (M4.iv s.by_)
  b : W.ownsRow base 3 1 v s.q.length (M4.iv s.q)
  ne : v.ownBlock ≠ some g1
  bl : Below base w W
theorem SQ.kept {base : Nat} {w W W' : World} {g1 c1 : Nat} {v : Value} {s : St} (h : SQ base w W g1 c1 v s) (hB : base ≤ w.heap.size) (hb : Below W.heap.size W W') : SQ base w W' g1 c1 v s :=
  ⟨M5.own_below h.a hb, M5.own_below h.b hb, h.ne, h.bl.trans (hb.mono (Nat.le_trans hB h.bl.size))⟩
theorem SQ.l1 {base : Nat} {w W : World} {g1 c1 : Nat} {v : Value} {s : St} (h : SQ base w W g1 c1 v s) : base ≤ g1 ∧ g1 < W.heap.size := h.a.lt g1 rfl
theorem get_of (l : List Int) {i : Nat} (h : i < l.length) : l[i]? = some (l.getD i 0) := by rw [List.getD_eq_getElem?_getD, List.getElem?_eq_getElem h]; rfl
theorem SQ.cell {base : Nat} {w W : World} {g1 c1 : Nat} {v : Value} {s : St} (h : SQ base w W g1 c1 v s) (hl : s.by_.length = 8) {i : Nat} (hi : i < 8) : W.cell? ⟨g1, i, none⟩ = some (.int .i64 (s.by_.getD i 0)) := by
  rw [h.a.cellAt i (by omega)]; exact M4.iv_get _ _ _ (get_of _ (by omega))
theorem SQ.node {base : Nat} {w W : World} {g1 c1 : Nat} {v : Value} {s : St} (h : SQ base w W g1 c1 v s) {i : Nat} (hi : i < s.q.length) : ∃ gq cq, v = .slice (some ⟨gq, 0, none⟩) s.q.length cq ∧ gq < W.heap.size ∧ W.cell? ⟨gq, i, none⟩ = some (.int .i64 (s.q.getD i 0)) := by
  rcases h.b.2 with ⟨_, h'⟩ | ⟨g, cap, cur, rfl, h2, h3, h4⟩
  · omega
  · refine ⟨g, cap, rfl, (Array.getElem?_eq_some_iff.1 h3).1, ?_⟩
    rw [h.b.cellAt i (by omega)]; exact M4.iv_get _ _ _ (get_of _ hi)
theorem own_only_ne' {w w' : World} {p base e size n : Nat} {v : Value} {xs : List Value} (h : w.ownsRow base e size v n xs) (ho : MC.Only p w w') (hp : v.ownBlock ≠ some p) : w'.ownsRow base e size v n xs := by
  refine ⟨h.1, ?_⟩
  rcases h.2 with h1 | ⟨g', cap', cur, rfl, h2, h3, h4⟩
  · exact .inl h1
  · refine .inr ⟨g', cap', cur, rfl, h2, ?_, h4⟩
    rw [ho.block g' (Array.getElem?_eq_some_iff.1 h3).1 (fun e => hp (by rw [← e]; rfl))]; exact h3
theorem SQ.put {base : Nat} {w W : World} {g1 c1 : Nat} {v : Value} {s : St} (h : SQ base w W g1 c1 v s) (hB : base ≤ w.heap.size) (i : Nat) (k : Int) (L : Nat → List Stp) : SQ base w (W.setCell ⟨g1, i, none⟩ (.int .i64 k)) g1 c1 v ⟨s.by_.set i k, s.q, L⟩ := by
  have hs := h.a.stored i (.int .i64 k)
  rw [M4.iv_set] at hs
  exact ⟨hs.1, own_only_ne' h.b ((MC.Only.refl g1 W).setCell i _) h.ne, h.ne, h.bl.trans (((MC.Only.refl g1 W).setCell i _).below h.l1.1 (Nat.le_trans hB h.bl.size))⟩
theorem SQ.grown {base : Nat} {w W w1 : World} {g1 c1 : Nat} {v v' : Value} {s : St} {x : Int} {o : Obj} {L : Nat → List Stp} (h : SQ base w W g1 c1 v s) (hB : base ≤ w.heap.size) (hown : w1.ownsRow base 3 1 v' (s.q.length + 1) (M4.iv s.q ++ [.int .i64 x])) (hgrow : (W.alloc o).grownBy w1 v.ownBlock) (loc : v'.ownBlock = v.ownBlock ∨ v'.ownBlock = some (W.heap.size + 1)) : SQ base w w1 g1 c1 v' ⟨s.by_, s.q ++ [x], L⟩ := by
  have hs := h.bl.size
  obtain ⟨r, n⟩ := grown_a h.b h.a (fun g hg e => h.ne (by cases e; exact hg)) hown hgrow loc
  refine ⟨r, ?_, fun e => n g1 e rfl, (h.bl.alloc (by omega) _).grown hgrow (by simp; omega) (fun j hj => (h.b.lt j hj).1)⟩
  rw [show (s.q ++ [x]).length = s.q.length + 1 from by simp, show M4.iv (s.q ++ [x]) = M4.iv s.q ++ [.int .i64 x] from by simp [M4.iv]]
  exact hown
end FL
end Go.Proofs.Ytpabhjnpbnabiaa
