import Derived.Test.YtpabhjnpbnabiaaM4
import Derived.Test.YtpabhjnpbnabiaaMLK
import Derived.Test.YtpabhjnpbnabiaaMEG
/- A number put to its place in a rising row: plain facts. -/
namespace Go.Proofs.Ytpabhjnpbnabiaa
namespace EG
/-- Put to its place. -/
def putS : List Int → Int → List Int
  | [], n => [n]
  | x :: l, n => if x < n then x :: putS l n else n :: x :: l
theorem putS_perm : ∀ (l : List Int) (n : Int), (putS l n).Perm (l ++ [n])
  | [], n => List.Perm.refl _
  | x :: l, n => by
    rw [putS]; split
    · exact (putS_perm l n).cons x
    · exact (List.perm_append_comm (l₁ := [n]) (l₂ := x :: l))
theorem putS_sorted : ∀ (l : List Int) (n : Int), l.Pairwise (· ≤ ·) → (putS l n).Pairwise (· ≤ ·)
  | [], n, _ => by simp [putS]
  | x :: l, n, h => by
    rw [List.pairwise_cons] at h
    rw [putS]; split
    · rename_i hx
      rw [List.pairwise_cons]
      refine ⟨fun y hy => ?_, putS_sorted l n h.2⟩
      have := (putS_perm l n).mem_iff.1 hy
      rcases List.mem_append.1 this with hy | hy
      · exact h.1 y hy
      · rw [List.mem_singleton.1 hy]; omega
    · rename_i hx
      rw [List.pairwise_cons, List.pairwise_cons]
      refine ⟨fun y hy => ?_, h.1, h.2⟩
      rcases List.mem_cons.1 hy with rfl | hy
      · omega
      · have := h.1 y hy; omega
theorem putS_at : ∀ (l : List Int) (n : Int) (k : Nat), k ≤ l.length → (∀ j, j < k → l.getD j 0 < n) → (k < l.length → n ≤ l.getD k 0) → putS l n = l.take k ++ n :: l.drop k
  | [], n, k, hk, h1, h2 => by simp [putS]
  | x :: l, n, 0, hk, h1, h2 => by
    have := h2 (by simp)
    rw [putS, if_neg (by simpa using this)]; rfl
  | x :: l, n, k + 1, hk, h1, h2 => by
    have h0 : x < n := by simpa using h1 0 (by omega)
    rw [putS, if_pos h0, putS_at l n k (by simpa using hk) (fun j hj => by simpa using h1 (j + 1) (by omega)) (fun hj => by simpa using h2 (by simpa using hj))]
    rfl
end EG
end Go.Proofs.Ytpabhjnpbnabiaa

/- Who is reached by links, some of them left out: plain facts, over whatever program. -/
namespace Go.Proofs.Ytpabhjnpbnabiaa
namespace FL
/-- What the search leaves: whoever is reached was in the row of nodes, and the first i of that row were gone from by each pipe. -/
structure Cl (xs : List I3) (fs : List Int) (s : St) (i : Nat) : Prop where
  full : ∀ m : Nat, m < 8 → s.by_.getD m 0 ≠ -1 → ∃ j, j < s.q.length ∧ s.q.getD j 0 = (m : Int)
  done : ∀ j, j < i → j < s.q.length → ∀ k, k < xs.length → 0 < rm (MI3.at_ xs k) (fs.getD k 0) (s.q.getD j 0) → s.by_.getD (nxt xs (s.q.getD j 0) k) 0 ≠ -1
theorem full_step {xs : List I3} {fs : List Int} {f : Int} {s : St} (hok : okP xs = true) (T : Tree xs fs f s) {n : Int} {k : Nat} (hk : k < xs.length) (h : ∀ m : Nat, m < 8 → s.by_.getD m 0 ≠ -1 → ∃ j, j < s.q.length ∧ s.q.getD j 0 = (m : Int)) :
    ∀ m : Nat, m < 8 → (step xs fs n s k).by_.getD m 0 ≠ -1 → ∃ j, j < (step xs fs n s k).q.length ∧ (step xs fs n s k).q.getD j 0 = (m : Int) := by
  intro m hm hr
  by_cases hg : goes xs fs s n k = true
  · have e : step xs fs n s k = stepd xs fs n s k := by unfold step; rw [if_pos hg]
    rw [e] at hr ⊢
    obtain ⟨h1, h2⟩ := goes_is hg
    obtain ⟨n0, n7, _⟩ := nx_within (okP_good hok hk) h1
    have hlt : nxt xs n k < s.by_.length := by rw [T.len]; unfold nxt; omega
    have hr' : (s.by_.set (nxt xs n k) (k : Int)).getD m 0 ≠ -1 := hr
    rw [getD_set _ _ _ _ _ hlt] at hr'
    show ∃ j, j < (s.q ++ [nx (MI3.at_ xs k) n]).length ∧ (s.q ++ [nx (MI3.at_ xs k) n]).getD j 0 = (m : Int)
    by_cases em : nxt xs n k = m
    · refine ⟨s.q.length, by simp, ?_⟩
      rw [show (s.q ++ [nx (MI3.at_ xs k) n]).getD s.q.length 0 = nx (MI3.at_ xs k) n from by simp [List.getD_eq_getElem?_getD], ← em]
      unfold nxt; omega
    · rw [if_neg em] at hr'
      obtain ⟨j, hj, hq⟩ := h m hm hr'
      refine ⟨j, by simp; omega, ?_⟩
      rw [show (s.q ++ [nx (MI3.at_ xs k) n]).getD j 0 = s.q.getD j 0 from by simp [List.getD_eq_getElem?_getD, List.getElem?_append_left hj], hq]
  · have e : step xs fs n s k = s := by unfold step; rw [if_neg hg]
    rw [e] at hr ⊢; exact h m hm hr
theorem step_done {xs : List I3} {fs : List Int} {f : Int} {s : St} (hok : okP xs = true) (T : Tree xs fs f s) {n : Int} {k : Nat} (hk : k < xs.length) (h : 0 < rm (MI3.at_ xs k) (fs.getD k 0) n) : (step xs fs n s k).by_.getD (nxt xs n k) 0 ≠ -1 := by
  by_cases hg : goes xs fs s n k = true
  · have e : step xs fs n s k = stepd xs fs n s k := by unfold step; rw [if_pos hg]
    rw [e]
    obtain ⟨n0, n7, _⟩ := nx_within (okP_good hok hk) h
    have hlt : nxt xs n k < s.by_.length := by rw [T.len]; unfold nxt; omega
    show (s.by_.set (nxt xs n k) (k : Int)).getD (nxt xs n k) 0 ≠ -1
    rw [getD_set _ _ _ _ _ hlt, if_pos rfl]; omega
  · have e : step xs fs n s k = s := by unfold step; rw [if_neg hg]
    rw [e]
    intro h2
    exact hg (by unfold goes; rw [Bool.and_eq_true, decide_eq_true_eq, decide_eq_true_eq]; exact ⟨h, h2⟩)
structure Sc (xs : List I3) (fs : List Int) (n : Int) (s s' : St) (k : Nat) : Prop where
  full : ∀ m : Nat, m < 8 → s'.by_.getD m 0 ≠ -1 → ∃ j, j < s'.q.length ∧ s'.q.getD j 0 = (m : Int)
  done : ∀ k', k' < k → 0 < rm (MI3.at_ xs k') (fs.getD k' 0) n → s'.by_.getD (nxt xs n k') 0 ≠ -1
  keep : ∀ m : Nat, s.by_.getD m 0 ≠ -1 → s'.by_.getD m 0 ≠ -1
theorem scan_sc {xs : List I3} {fs : List Int} {f : Int} {s : St} (hok : okP xs = true) (hf : 0 ≤ f ∧ f ≤ 7) (T : Tree xs fs f s) {n : Int} (hn : 0 ≤ n ∧ n ≤ 7) (hr : s.by_.getD n.toNat 0 ≠ -1) (hfull : ∀ m : Nat, m < 8 → s.by_.getD m 0 ≠ -1 → ∃ j, j < s.q.length ∧ s.q.getD j 0 = (m : Int)) (k : Nat) (hk : k ≤ xs.length) : Sc xs fs n s (scan xs fs n s k) k := by
  induction k with
  | zero => exact ⟨hfull, fun k' hk' => by omega, fun m h => h⟩
  | succ k ih =>
    have i := ih (by omega)
    have T2 := (scan_ok hok hf T hn hr k (by omega)).tree
    refine ⟨full_step hok T2 (by omega) i.full, fun k' hk' h0 => ?_, fun m h => step_keeps (i.keep m h)⟩
    by_cases e : k' = k
    · subst e; exact step_done hok T2 (by omega) h0
    · exact step_keeps (i.done k' (by omega) h0)
theorem at8_cl {xs : List I3} {fs : List Int} {f : Int} (hok : okP xs = true) (hf : 0 ≤ f ∧ f ≤ 7) (i : Nat) : Cl xs fs (at8 xs fs f i) i := by
  induction i with
  | zero =>
    refine ⟨fun m hm h => ?_, fun j hj => by omega⟩
    refine ⟨0, by simp [at8, start], ?_⟩
    have h' : ((List.replicate 8 (-1 : Int)).set f.toNat (-2)).getD m 0 ≠ -1 := h
    show f = (m : Int)
    by_cases e : f.toNat = m
    · omega
    · rw [getD_set _ _ _ _ _ (by simp; omega), if_neg e] at h'
      rw [List.getD_eq_getElem?_getD, List.getElem?_replicate, if_pos hm] at h'
      exact absurd rfl h'
  | succ i ih =>
    have T := at8_tree (fs := fs) hok hf i
    rw [at8]; split
    · rename_i h
      obtain ⟨a, b, c⟩ := T.inq i h
      have S := scan_sc hok hf T ⟨a, b⟩ c ih.full xs.length (Nat.le_refl _)
      have M := (scan_ok hok hf T ⟨a, b⟩ c xs.length (Nat.le_refl _)).more
      refine ⟨S.full, fun j hj hjq k hk h0 => ?_⟩
      have hjl : j < (at8 xs fs f i).q.length := by omega
      rw [(M j hjl).2] at h0 ⊢
      by_cases e : j = i
      · subst e; exact S.done k hk h0
      · exact S.keep _ (ih.done j (by omega) hjl k hk h0)
    · rename_i h
      exact ⟨ih.full, fun j hj hjq k hk h0 => ih.done j (by omega) hjq k hk h0⟩
/-- Closed: from whoever is reached, each pipe that has room leads to somebody who is. -/
theorem srch_closed {xs : List I3} {fs : List Int} {f : Int} (hok : okP xs = true) (hf : 0 ≤ f ∧ f ≤ 7) {m k : Nat} (hm : m < 8) (hr : (srch xs fs f).by_.getD m 0 ≠ -1) (hk : k < xs.length) (h0 : 0 < rm (MI3.at_ xs k) (fs.getD k 0) (m : Int)) : (srch xs fs f).by_.getD (nx (MI3.at_ xs k) (m : Int)).toNat 0 ≠ -1 := by
  have C := at8_cl (fs := fs) hok hf 8
  obtain ⟨j, hj, hq⟩ := C.full m hm hr
  have hs := (srch_tree (fs := fs) hok hf).short
  have := C.done j (by unfold srch at hs; omega) hj k hk (by rw [hq]; exact h0)
  rwa [hq] at this
end FL
namespace LK
open Go.RowKit
/-- The links as pipes, some of which bear nothing. -/
def pw1 (xs : List I2) (wo : List Int) (j : Nat) : I3 := ⟨(MI2.at_ xs j).a0, (MI2.at_ xs j).a1, if (j : Int) ∈ wo then 0 else 1⟩
def pwL (xs : List I2) (wo : List Int) : List I3 := (List.range xs.length).map (pw1 xs wo)
theorem pw_len (xs : List I2) (wo : List Int) : (pwL xs wo).length = xs.length := by simp [pwL]
theorem pw_at (xs : List I2) (wo : List Int) {k : Nat} (hk : k < xs.length) : MI3.at_ (pwL xs wo) k = pw1 xs wo k := by
  rw [MI3.at_eq _ _ (by rw [pw_len]; exact hk)]; simp [pwL]
theorem pw_nil (xs : List I2) : pwL xs [] = pip xs := by
  apply List.ext_getElem (by simp [pwL, pip])
  intro j h1 h2
  have hj : j < xs.length := by simpa [pwL] using h1
  simp [pwL, pip, pw1, pip1, MI2.at_eq xs j hj]
theorem pw_put (xs : List I2) (wo : List Int) {m k : Nat} (hm : m < wo.length) (he : wo.getD m 0 = (k : Int)) : pwL xs (wo.take (m + 1)) = (pwL xs (wo.take m)).set k ⟨(MI2.at_ xs k).a0, (MI2.at_ xs k).a1, 0⟩ := by
  have hw : wo.take (m + 1) = wo.take m ++ [(k : Int)] := by
    rw [List.take_succ_eq_append_getElem hm]
    rw [List.getD_eq_getElem?_getD, List.getElem?_eq_getElem hm] at he
    rw [show wo[m] = (k : Int) from he]
  apply List.ext_getElem (by simp [pwL])
  intro j h1 h2
  have hj : j < xs.length := by simpa [pwL] using h1
  rw [List.getElem_set]
  by_cases e : k = j
  · subst e
    simp [pwL, pw1, hw]
  · rw [if_neg e]
    have : ((j : Int) ∈ wo.take (m + 1)) ↔ ((j : Int) ∈ wo.take m) := by
      rw [hw, List.mem_append, List.mem_singleton]
      exact ⟨fun h => h.elim id (fun h => absurd (by omega) e), fun h => .inl h⟩
    simp [pwL, pw1, this]
theorem ok_of {c : I3} (g : FL.Good c) : FL.okE c = true := by
  simp only [FL.okE, decide_eq_true_eq]; exact ⟨g.f0, g.f1, g.t0, g.t1, g.ne, g.c0, g.c1⟩
theorem pw_ok {xs : List I2} {wo : List Int} (h : FL.okP (pip xs) = true) : FL.okP (pwL xs wo) = true := by
  rw [FL.okP_iff] at h ⊢
  rw [pw_len]
  refine ⟨by have := h.1; rwa [pip_len] at this, fun j hj => ?_⟩
  have h1 := h.2 j (by rw [pip_len]; exact hj)
  rw [pip_at xs j hj] at h1
  rw [pw_at xs wo hj]
  have G := FL.good_of h1
  exact ok_of ⟨G.f0, G.f1, G.t0, G.t1, G.ne, by simp only [pw1]; split <;> omega, by simp only [pw1]; split <;> omega⟩
theorem pw_fit (xs : List I2) (wo : List Int) : FL.fitUp (pwL xs wo) (List.replicate xs.length 0) (pwL xs wo).length := by
  intro j hj
  rw [pw_len] at hj
  rw [pw_at xs wo hj, List.getD_eq_getElem?_getD, List.getElem?_replicate, if_pos hj]
  simp only [Option.getD_some, pw1]
  split <;> omega
theorem zero_at (n k : Nat) : (List.replicate n (0 : Int)).getD k 0 = 0 := by
  rw [List.getD_eq_getElem?_getD, List.getElem?_replicate]; split <;> rfl
/-- Who is reached. -/
def reachB (xs : List I2) (f : Int) (wo : List Int) : List Int := (FL.srch (pwL xs wo) (List.replicate xs.length 0) f).by_
def R (xs : List I2) (f : Int) (wo : List Int) (n : Int) : Prop := 0 ≤ n ∧ n ≤ 7 ∧ (reachB xs f wo).getD n.toNat 0 ≠ -1
theorem R_start {xs : List I2} {f : Int} {wo : List Int} (h : FL.okP (pip xs) = true) (hf : 0 ≤ f ∧ f ≤ 7) : R xs f wo f := by
  refine ⟨hf.1, hf.2, ?_⟩
  have := (FL.srch_tree (fs := List.replicate xs.length 0) (pw_ok (wo := wo) h) hf).fst
  unfold reachB; rw [this]; omega
theorem R_closed {xs : List I2} {f : Int} {wo : List Int} (h : FL.okP (pip xs) = true) (hf : 0 ≤ f ∧ f ≤ 7) {k : Nat} (hk : k < xs.length) (hw : (k : Int) ∉ wo) (h0 : R xs f wo (MI2.at_ xs k).a0) : R xs f wo (MI2.at_ xs k).a1 := by
  have G := FL.okP_good h (k := k) (by rw [pip_len]; exact hk)
  rw [pip_at xs k hk] at G
  have g0 : 0 ≤ (MI2.at_ xs k).a1 := G.t0
  have g1 : (MI2.at_ xs k).a1 ≤ 7 := G.t1
  obtain ⟨p0, p7, hr⟩ := h0
  have e : (((MI2.at_ xs k).a0.toNat : Nat) : Int) = (MI2.at_ xs k).a0 := by omega
  have ha : MI3.at_ (pwL xs wo) k = ⟨(MI2.at_ xs k).a0, (MI2.at_ xs k).a1, 1⟩ := by rw [pw_at xs wo hk, pw1, if_neg hw]
  have := FL.srch_closed (fs := List.replicate xs.length 0) (pw_ok (wo := wo) h) hf (m := (MI2.at_ xs k).a0.toNat) (k := k) (by omega) hr (by rw [pw_len]; exact hk) (by rw [ha, e, zero_at]; simp [FL.rm])
  rw [ha, e] at this
  refine ⟨g0, g1, ?_⟩
  show (FL.srch (pwL xs wo) (List.replicate xs.length 0) f).by_.getD _ 0 ≠ -1
  simpa [FL.nx] using this
theorem R_least {xs : List I2} {f : Int} {wo : List Int} (h : FL.okP (pip xs) = true) (hf : 0 ≤ f ∧ f ≤ 7) (P : Int → Prop) (hP : P f) (hc : ∀ k, k < xs.length → (k : Int) ∉ wo → P (MI2.at_ xs k).a0 → P (MI2.at_ xs k).a1) : ∀ n, R xs f wo n → P n := by
  have T := FL.srch_tree (fs := List.replicate xs.length 0) (pw_ok (wo := wo) h) hf
  have key : ∀ (d m : Nat), m < 8 → (reachB xs f wo).getD m 0 ≠ -1 → ((FL.srch (pwL xs wo) (List.replicate xs.length 0) f).L m).length = d → P (m : Int) := by
    intro d
    induction d with
    | zero =>
      intro m hm hr hl
      by_cases e : (m : Int) = f
      · rw [e]; exact hP
      · exact absurd (List.length_eq_zero_iff.1 hl) (T.nonnil hm hr e)
    | succ d ih =>
      intro m hm hr hl
      by_cases e : (m : Int) = f
      · rw [e]; exact hP
      · obtain ⟨k, p, hk, hp, _, hp2, hnx, h0, hL⟩ := T.via m hm hr e
        rw [hL] at hl
        simp only [List.length_append, List.length_cons, List.length_nil] at hl
        have i := ih p hp hp2 (by omega)
        rw [pw_len] at hk
        rw [zero_at] at h0
        rcases FL.rm_pos h0 with ⟨a, b, c, _⟩ | ⟨_, _, b, _, _⟩
        · rw [b] at h0
          rw [c] at hnx
          rw [pw_at xs wo hk] at a h0 hnx
          simp only [pw1] at a h0 hnx
          have hw : (k : Int) ∉ wo := fun hw => by rw [if_pos hw] at h0; omega
          rw [← hnx]
          exact hc k hk hw (by rw [a]; exact i)
        · omega
  intro n ⟨n0, n7, hr⟩
  have := key _ n.toNat (by omega) hr rfl
  rwa [show ((n.toNat : Nat) : Int) = n from by omega] at this
/-- Rows that rise strictly. -/
def Up (l : List Int) : Prop := l.Pairwise (· < ·)
theorem up_same {l l' : List Int} (h : Up l) (h' : Up l') (hm : ∀ x, x ∈ l ↔ x ∈ l') : l = l' := by
  have nd : l.Nodup := h.imp fun h => by omega
  have nd' : l'.Nodup := h'.imp fun h => by omega
  exact List.Perm.eq_of_pairwise (le := fun a b : Int => a ≤ b) (fun a b _ _ h1 h2 => by omega) (h.imp fun h => by omega) (h'.imp fun h => by omega) ((List.perm_ext_iff_of_nodup nd nd').2 hm)
theorem up_len : ∀ (l : List Int) (lo : Int), Up l → (∀ x ∈ l, lo ≤ x ∧ x ≤ 7) → lo ≤ 8 → (l.length : Int) ≤ 8 - lo
  | [], lo, _, _, h => by simp; omega
  | x :: l, lo, hu, hx, h => by
    unfold Up at hu
    rw [List.pairwise_cons] at hu
    have h1 := hx x (List.mem_cons_self ..)
    have := up_len l (x + 1) hu.2 (fun y hy => ⟨by have := hu.1 y hy; omega, (hx y (List.mem_cons_of_mem _ hy)).2⟩) (by omega)
    simp only [List.length_cons]; push_cast; omega
theorem put_up : ∀ (l : List Int) (n : Int), Up l → n ∉ l → Up (EG.putS l n)
  | [], n, _, _ => by simp [EG.putS, Up]
  | x :: l, n, h, hn => by
    unfold Up at *
    rw [List.pairwise_cons] at h
    simp only [List.mem_cons, not_or] at hn
    rw [EG.putS]; split
    · rename_i hx
      rw [List.pairwise_cons]
      refine ⟨fun y hy => ?_, put_up l n h.2 hn.2⟩
      rcases List.mem_append.1 ((EG.putS_perm l n).mem_iff.1 hy) with hy | hy
      · exact h.1 y hy
      · rw [List.mem_singleton.1 hy]; omega
    · rename_i hx
      rw [List.pairwise_cons, List.pairwise_cons]
      refine ⟨fun y hy => ?_, h.1, h.2⟩
      rcases List.mem_cons.1 hy with rfl | hy
      · omega
      · have := h.1 y hy; omega
theorem put_mem (l : List Int) (n x : Int) : x ∈ EG.putS l n ↔ x ∈ l ∨ x = n := by
  rw [(EG.putS_perm l n).mem_iff, List.mem_append, List.mem_singleton]
theorem put_length (l : List Int) (n : Int) : (EG.putS l n).length = l.length + 1 := by
  rw [(EG.putS_perm l n).length_eq]; simp
theorem side_mem (B : List Int) (m : Nat) (x : Int) : x ∈ FL.sideUp B m ↔ ∃ j : Nat, j < m ∧ x = (j : Int) ∧ B.getD j 0 ≠ -1 := by
  induction m with
  | zero => simp [FL.sideUp]
  | succ m ih =>
    rw [FL.sideUp, List.mem_append, ih]
    constructor
    · rintro (⟨j, h1, h2, h3⟩ | h)
      · exact ⟨j, by omega, h2, h3⟩
      · split at h
        · rename_i hb; rw [List.mem_singleton] at h; exact ⟨m, by omega, h, hb⟩
        · cases h
    · rintro ⟨j, h1, h2, h3⟩
      by_cases e : j = m
      · subst e; right; rw [if_pos h3, List.mem_singleton]; exact h2
      · left; exact ⟨j, by omega, h2, h3⟩
theorem side_up (B : List Int) (m : Nat) : Up (FL.sideUp B m) := by
  induction m with
  | zero => simp [FL.sideUp, Up]
  | succ m ih =>
    unfold Up at *
    rw [FL.sideUp, List.pairwise_append]
    refine ⟨ih, by split <;> simp, fun a ha b hb => ?_⟩
    obtain ⟨j, h1, h2, _⟩ := (side_mem B m a).1 ha
    split at hb
    · rw [List.mem_singleton] at hb; omega
    · cases hb
theorem side_R (xs : List I2) (f : Int) (wo : List Int) (x : Int) : x ∈ FL.sideUp (reachB xs f wo) 8 ↔ R xs f wo x := by
  rw [side_mem]
  constructor
  · rintro ⟨j, h1, rfl, h3⟩
    exact ⟨by omega, by omega, by rw [show ((j : Nat) : Int).toNat = j from by omega]; exact h3⟩
  · rintro ⟨h0, h7, h⟩
    exact ⟨x.toNat, by omega, by omega, h⟩
/-- What the specification has while it goes round: nobody but who is reached, the start among them. -/
structure Rb (xs : List I2) (f : Int) (wo os : List Int) : Prop where
  up : Up os
  inR : ∀ x ∈ os, R xs f wo x
  st : f ∈ os
theorem Rb.len {xs : List I2} {f : Int} {wo os : List Int} (h : Rb xs f wo os) : os.length ≤ 8 := by
  have := up_len os 0 h.up (fun x hx => ⟨(h.inR x hx).1, (h.inR x hx).2.1⟩) (by omega)
  omega
/-- Behind the first k links of a round that began with bs. -/
structure Pass (xs : List I2) (wo bs os : List Int) (k : Nat) : Prop where
  sub : ∀ x ∈ bs, x ∈ os
  alt : os = bs ∨ bs.length < os.length
  did : ∀ j, j < k → (j : Int) ∉ wo → (MI2.at_ xs j).a0 ∈ bs → (MI2.at_ xs j).a1 ∈ os
theorem Pass.start (xs : List I2) (wo bs : List Int) : Pass xs wo bs bs 0 := ⟨fun _ h => h, .inl rfl, fun j hj => by omega⟩
theorem Pass.skip {xs : List I2} {wo bs os : List Int} {k : Nat} (h : Pass xs wo bs os k) (hn : (k : Int) ∈ wo ∨ (MI2.at_ xs k).a0 ∉ os) : Pass xs wo bs os (k + 1) := by
  refine ⟨h.sub, h.alt, fun j hj hw h0 => ?_⟩
  by_cases e : j = k
  · subst e
    rcases hn with hn | hn
    · exact absurd hn hw
    · exact absurd (h.sub _ h0) hn
  · exact h.did j (by omega) hw h0
theorem Pass.has {xs : List I2} {wo bs os : List Int} {k : Nat} (h : Pass xs wo bs os k) (hn : (MI2.at_ xs k).a1 ∈ os) : Pass xs wo bs os (k + 1) := by
  refine ⟨h.sub, h.alt, fun j hj hw h0 => ?_⟩
  by_cases e : j = k
  · subst e; exact hn
  · exact h.did j (by omega) hw h0
theorem Pass.put {xs : List I2} {wo bs os : List Int} {k : Nat} (h : Pass xs wo bs os k) : Pass xs wo bs (EG.putS os (MI2.at_ xs k).a1) (k + 1) := by
  refine ⟨fun x hx => (put_mem _ _ _).2 (.inl (h.sub x hx)), .inr ?_, fun j hj hw h0 => (put_mem _ _ _).2 ?_⟩
  · rw [put_length]
    rcases h.alt with e | e
    · rw [e]; omega
    · omega
  · by_cases e : j = k
    · subst e; exact .inr rfl
    · exact .inl (h.did j (by omega) hw h0)
theorem Rb.put {xs : List I2} {f : Int} {wo os : List Int} (H : Rb xs f wo os) (h : FL.okP (pip xs) = true) (hf : 0 ≤ f ∧ f ≤ 7) {k : Nat} (hk : k < xs.length) (hw : (k : Int) ∉ wo) (h0 : (MI2.at_ xs k).a0 ∈ os) (h1 : (MI2.at_ xs k).a1 ∉ os) : Rb xs f wo (EG.putS os (MI2.at_ xs k).a1) := by
  refine ⟨put_up _ _ H.up h1, fun x hx => ?_, (put_mem _ _ _).2 (.inl H.st)⟩
  rcases (put_mem _ _ _).1 hx with hx | rfl
  · exact H.inR x hx
  · exact R_closed h hf hk hw (H.inR _ h0)
theorem Rb.fin {xs : List I2} {f : Int} {wo os : List Int} (H : Rb xs f wo os) (h : FL.okP (pip xs) = true) (hf : 0 ≤ f ∧ f ≤ 7) (P : Pass xs wo os os xs.length) : os = FL.sideUp (reachB xs f wo) 8 := by
  refine up_same H.up (side_up _ _) fun x => ?_
  rw [side_R]
  refine ⟨H.inR x, R_least h hf (fun n => n ∈ os) H.st (fun k hk hw h0 => P.did k hk hw h0) x⟩
theorem Rb.start {xs : List I2} {f : Int} {wo : List Int} (h : FL.okP (pip xs) = true) (hf : 0 ≤ f ∧ f ≤ 7) : Rb xs f wo [f] :=
  ⟨by simp [Up], fun x hx => by rw [List.mem_singleton] at hx; subst hx; exact R_start h hf, by simp⟩
/-- What is answered. -/
noncomputable def rbOk (xs : List I2) (f : Int) (wo : List Int) : Bool := FL.okP (pip xs) && (FL.nodeOk f && EG.rises xs.length wo)
noncomputable def rbL (xs : List I2) (f : Int) (wo : List Int) : List Int := if rbOk xs f wo = true then FL.sideUp (reachB xs f wo) 8 else []
theorem rbL_len (xs : List I2) (f : Int) (wo : List Int) : (rbL xs f wo).length ≤ 1048576 := by
  unfold rbL; split
  · have := FL.side_len (reachB xs f wo) 8; omega
  · simp
theorem rb_no {xs : List I2} {f : Int} {wo : List Int} (h : rbOk xs f wo = false) : rbL xs f wo = [] := by simp [rbL, h]
theorem rb_yes {xs : List I2} {f : Int} {wo : List Int} (h : rbOk xs f wo = true) : rbL xs f wo = FL.sideUp (reachB xs f wo) 8 := by simp [rbL, h]
end LK
end Go.Proofs.Ytpabhjnpbnabiaa
