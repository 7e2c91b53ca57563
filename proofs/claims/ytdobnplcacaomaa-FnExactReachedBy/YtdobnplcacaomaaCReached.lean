import Derived.Test.YtdobnplcacaomaaMLK
import Derived.Test.YtdobnplcacaomaaMPS
import Derived.Test.YtdobnplcacaomaaMEG
import Derived.Test.YtdobnplcacaomaaRows
import Derived.Test.YtdobnplcacaomaaCLinks
import Derived.Test.YtdobnplcacaomaaCMinI
import Derived.Test.YtdobnplcacaomaaCRise
import Derived.Test.YtdobnplcacaomaaCPut
import Derived.WalkKit
import Derived.WalkSpells
import Derived.WalkLawsBesides
import Derived.Outline
/- Who is reached by links, some of them left out: plain facts, over whatever program. -/
namespace Go.Proofs.Ytdobnplcacaomaa
namespace FL
/-- What the search leaves: whoever is reached was in the row of nodes, and the first i of that row were gone from by each pipe. -/
structure Cl (xs : List I3) (fs : List Int) (s : St) (i : Nat) : Prop where
  full : ∀ m : Nat, m < 8 → s.by_.getD m 0 ≠ -1 → ∃ j, j < s.q.length ∧ s.q.getD j 0 = (m : Int)
  done : ∀ j, j < i → j < s.q.length → ∀ k, k < xs.length → 0 < rm (MI3.at_ xs k) (fs.getD k 0) (s.q.getD j 0) → s.by_.getD (nxt xs (s.q.getD j 0) k) 0 ≠ -1
theorem full_step {xs : List I3} {fs : List Int} {f : Int} {s : St} (hok : okP xs = true) (T : Tree xs fs f s) {n : Int} {k : Nat} (hk : k < xs.length) (h : ∀ m : Nat, m < 8 → s.by_.getD m 0 ≠ -1 → ∃ j, j < s.q.length ∧ s.q.getD j 0 = (m : Int)) :
    ∀ m : Nat, m < 8 → (step xs fs n s k).by_.getD m 0 ≠ -1 → ∃ j, j < (step xs fs n s k).q.length ∧ (step xs fs n s k).q.getD j 0 = (m : Int) := by
  intro m hm hr
  by_cases hg : goes xs fs s n k = true
  · have e : step xs fs n s k = stepd xs fs n s k := by unfold step; rw [if_pos hg]
    rw [e] at hr ⊢
    obtain ⟨h1, h2⟩ := goes_is hg
    obtain ⟨n0, n7, _⟩ := nx_within (okP_good hok hk) h1
    have hlt : nxt xs n k < s.by_.length := by rw [T.len]; unfold nxt; omega
    have hr' : (s.by_.set (nxt xs n k) (k : Int)).getD m 0 ≠ -1 := hr
    rw [getD_set _ _ _ _ _ hlt] at hr'
    show ∃ j, j < (s.q ++ [nx (MI3.at_ xs k) n]).length ∧ (s.q ++ [nx (MI3.at_ xs k) n]).getD j 0 = (m : Int)
    by_cases em : nxt xs n k = m
    · refine ⟨s.q.length, by simp, ?_⟩
      rw [show (s.q ++ [nx (MI3.at_ xs k) n]).getD s.q.length 0 = nx (MI3.at_ xs k) n from by simp [List.getD_eq_getElem?_getD], ← em]
      unfold nxt; omega
    · rw [if_neg em] at hr'
      obtain ⟨j, hj, hq⟩ := h m hm hr'
      refine ⟨j, by simp; omega, ?_⟩
      rw [show (s.q ++ [nx (MI3.at_ xs k) n]).getD j 0 = s.q.getD j 0 from by simp [List.getD_eq_getElem?_getD, List.getElem?_append_left hj], hq]
  · have e : step xs fs n s k = s := by unfold step; rw [if_neg hg]
    rw [e] at hr ⊢; exact h m hm hr
theorem step_done {xs : List I3} {fs : List Int} {f : Int} {s : St} (hok : okP xs = true) (T : Tree xs fs f s) {n : Int} {k : Nat} (hk : k < xs.length) (h : 0 < rm (MI3.at_ xs k) (fs.getD k 0) n) : (step xs fs n s k).by_.getD (nxt xs n k) 0 ≠ -1 := by
  by_cases hg : goes xs fs s n k = true
  · have e : step xs fs n s k = stepd xs fs n s k := by unfold step; rw [if_pos hg]
    rw [e]
    obtain ⟨n0, n7, _⟩ := nx_within (okP_good hok hk) h
    have hlt : nxt xs n k < s.by_.length := by rw [T.len]; unfold nxt; omega
    show (s.by_.set (nxt xs n k) (k : Int)).getD (nxt xs n k) 0 ≠ -1
    rw [getD_set _ _ _ _ _ hlt, if_pos rfl]; omega
  · have e : step xs fs n s k = s := by unfold step; rw [if_neg hg]
    rw [e]
    intro h2
    exact hg (by unfold goes; rw [Bool.and_eq_true, decide_eq_true_eq, decide_eq_true_eq]; exact ⟨h, h2⟩)
structure Sc (xs : List I3) (fs : List Int) (n : Int) (s s' : St) (k : Nat) : Prop where
  full : ∀ m : Nat, m < 8 → s'.by_.getD m 0 ≠ -1 → ∃ j, j < s'.q.length ∧ s'.q.getD j 0 = (m : Int)
  done : ∀ k', k' < k → 0 < rm (MI3.at_ xs k') (fs.getD k' 0) n → s'.by_.getD (nxt xs n k') 0 ≠ -1
  keep : ∀ m : Nat, s.by_.getD m 0 ≠ -1 → s'.by_.getD m 0 ≠ -1
theorem scan_sc {xs : List I3} {fs : List Int} {f : Int} {s : St} (hok : okP xs = true) (hf : 0 ≤ f ∧ f ≤ 7) (T : Tree xs fs f s) {n : Int} (hn : 0 ≤ n ∧ n ≤ 7) (hr : s.by_.getD n.toNat 0 ≠ -1) (hfull : ∀ m : Nat, m < 8 → s.by_.getD m 0 ≠ -1 → ∃ j, j < s.q.length ∧ s.q.getD j 0 = (m : Int)) (k : Nat) (hk : k ≤ xs.length) : Sc xs fs n s (scan xs fs n s k) k := by
  induction k with
  | zero => exact ⟨hfull, fun k' hk' => by omega, fun m h => h⟩
  | succ k ih =>
    have i := ih (by omega)
    have T2 := (scan_ok hok hf T hn hr k (by omega)).tree
    refine ⟨full_step hok T2 (by omega) i.full, fun k' hk' h0 => ?_, fun m h => step_keeps (i.keep m h)⟩
    by_cases e : k' = k
    · subst e; exact step_done hok T2 (by omega) h0
    · exact step_keeps (i.done k' (by omega) h0)
theorem at8_cl {xs : List I3} {fs : List Int} {f : Int} (hok : okP xs = true) (hf : 0 ≤ f ∧ f ≤ 7) (i : Nat) : Cl xs fs (at8 xs fs f i) i := by
  induction i with
  | zero =>
    refine ⟨fun m hm h => ?_, fun j hj => by omega⟩
    refine ⟨0, by simp [at8, start], ?_⟩
    have h' : ((List.replicate 8 (-1 : Int)).set f.toNat (-2)).getD m 0 ≠ -1 := h
    show f = (m : Int)
    by_cases e : f.toNat = m
    · omega
    · rw [getD_set _ _ _ _ _ (by simp; omega), if_neg e] at h'
      rw [List.getD_eq_getElem?_getD, List.getElem?_replicate, if_pos hm] at h'
      exact absurd rfl h'
  | succ i ih =>
    have T := at8_tree (fs := fs) hok hf i
    rw [at8]; split
    · rename_i h
      obtain ⟨a, b, c⟩ := T.inq i h
      have S := scan_sc hok hf T ⟨a, b⟩ c ih.full xs.length (Nat.le_refl _)
      have M := (scan_ok hok hf T ⟨a, b⟩ c xs.length (Nat.le_refl _)).more
      refine ⟨S.full, fun j hj hjq k hk h0 => ?_⟩
      have hjl : j < (at8 xs fs f i).q.length := by omega
      rw [(M j hjl).2] at h0 ⊢
      by_cases e : j = i
      · subst e; exact S.done k hk h0
      · exact S.keep _ (ih.done j (by omega) hjl k hk h0)
    · rename_i h
      exact ⟨ih.full, fun j hj hjq k hk h0 => ih.done j (by omega) hjq k hk h0⟩
/-- Closed: from whoever is reached, each pipe that has room leads to somebody who is. -/
theorem srch_closed {xs : List I3} {fs : List Int} {f : Int} (hok : okP xs = true) (hf : 0 ≤ f ∧ f ≤ 7) {m k : Nat} (hm : m < 8) (hr : (srch xs fs f).by_.getD m 0 ≠ -1) (hk : k < xs.length) (h0 : 0 < rm (MI3.at_ xs k) (fs.getD k 0) (m : Int)) : (srch xs fs f).by_.getD (nx (MI3.at_ xs k) (m : Int)).toNat 0 ≠ -1 := by
  have C := at8_cl (fs := fs) hok hf 8
  obtain ⟨j, hj, hq⟩ := C.full m hm hr
  have hs := (srch_tree (fs := fs) hok hf).short
  have := C.done j (by unfold srch at hs; omega) hj k hk (by rw [hq]; exact h0)
  rwa [hq] at this
end FL
namespace LK
open Go.RowKit
/-- The links as pipes, some of which bear nothing. -/
def pw1 (xs : List I2) (wo : List Int) (j : Nat) : I3 := ⟨(MI2.at_ xs j).a0, (MI2.at_ xs j).a1, if (j : Int) ∈ wo then 0 else 1⟩
def pwL (xs : List I2) (wo : List Int) : List I3 := (List.range xs.length).map (pw1 xs wo)
theorem pw_len (xs : List I2) (wo : List Int) : (pwL xs wo).length = xs.length := by simp [pwL]
theorem pw_at (xs : List I2) (wo : List Int) {k : Nat} (hk : k < xs.length) : MI3.at_ (pwL xs wo) k = pw1 xs wo k := by
  rw [MI3.at_eq _ _ (by rw [pw_len]; exact hk)]; simp [pwL]
theorem pw_nil (xs : List I2) : pwL xs [] = pip xs := by
  apply List.ext_getElem (by simp [pwL, pip])
  intro j h1 h2
  have hj : j < xs.length := by simpa [pwL] using h1
  simp [pwL, pip, pw1, pip1, MI2.at_eq xs j hj]
theorem pw_put (xs : List I2) (wo : List Int) {m k : Nat} (hm : m < wo.length) (he : wo.getD m 0 = (k : Int)) : pwL xs (wo.take (m + 1)) = (pwL xs (wo.take m)).set k ⟨(MI2.at_ xs k).a0, (MI2.at_ xs k).a1, 0⟩ := by
  have hw : wo.take (m + 1) = wo.take m ++ [(k : Int)] := by
    rw [List.take_succ_eq_append_getElem hm]
    rw [List.getD_eq_getElem?_getD, List.getElem?_eq_getElem hm] at he
    rw [show wo[m] = (k : Int) from he]
  apply List.ext_getElem (by simp [pwL])
  intro j h1 h2
  have hj : j < xs.length := by simpa [pwL] using h1
  rw [List.getElem_set]
  by_cases e : k = j
  · subst e
    simp [pwL, pw1, hw]
  · rw [if_neg e]
    have : ((j : Int) ∈ wo.take (m + 1)) ↔ ((j : Int) ∈ wo.take m) := by
      rw [hw, List.mem_append, List.mem_singleton]
      exact ⟨fun h => h.elim id (fun h => absurd (by omega) e), fun h => .inl h⟩
    simp [pwL, pw1, this]
theorem ok_of {c : I3} (g : FL.Good c) : FL.okE c = true := by
  simp only [FL.okE, decide_eq_true_eq]; exact ⟨g.f0, g.f1, g.t0, g.t1, g.ne, g.c0, g.c1⟩
theorem pw_ok {xs : List I2} {wo : List Int} (h : FL.okP (pip xs) = true) : FL.okP (pwL xs wo) = true := by
  rw [FL.okP_iff] at h ⊢
  rw [pw_len]
  refine ⟨by have := h.1; rwa [pip_len] at this, fun j hj => ?_⟩
  have h1 := h.2 j (by rw [pip_len]; exact hj)
  rw [pip_at xs j hj] at h1
  rw [pw_at xs wo hj]
  have G := FL.good_of h1
  exact ok_of ⟨G.f0, G.f1, G.t0, G.t1, G.ne, by simp only [pw1]; split <;> omega, by simp only [pw1]; split <;> omega⟩
theorem pw_fit (xs : List I2) (wo : List Int) : FL.fitUp (pwL xs wo) (List.replicate xs.length 0) (pwL xs wo).length := by
  intro j hj
  rw [pw_len] at hj
  rw [pw_at xs wo hj, List.getD_eq_getElem?_getD, List.getElem?_replicate, if_pos hj]
  simp only [Option.getD_some, pw1]
  split <;> omega
theorem zero_at (n k : Nat) : (List.replicate n (0 : Int)).getD k 0 = 0 := by
  rw [List.getD_eq_getElem?_getD, List.getElem?_replicate]; split <;> rfl
/-- Who is reached. -/
def reachB (xs : List I2) (f : Int) (wo : List Int) : List Int := (FL.srch (pwL xs wo) (List.replicate xs.length 0) f).by_
def R (xs : List I2) (f : Int) (wo : List Int) (n : Int) : Prop := 0 ≤ n ∧ n ≤ 7 ∧ (reachB xs f wo).getD n.toNat 0 ≠ -1
theorem R_start {xs : List I2} {f : Int} {wo : List Int} (h : FL.okP (pip xs) = true) (hf : 0 ≤ f ∧ f ≤ 7) : R xs f wo f := by
  refine ⟨hf.1, hf.2, ?_⟩
  have := (FL.srch_tree (fs := List.replicate xs.length 0) (pw_ok (wo := wo) h) hf).fst
  unfold reachB; rw [this]; omega
theorem R_closed {xs : List I2} {f : Int} {wo : List Int} (h : FL.okP (pip xs) = true) (hf : 0 ≤ f ∧ f ≤ 7) {k : Nat} (hk : k < xs.length) (hw : (k : Int) ∉ wo) (h0 : R xs f wo (MI2.at_ xs k).a0) : R xs f wo (MI2.at_ xs k).a1 := by
  have G := FL.okP_good h (k := k) (by rw [pip_len]; exact hk)
  rw [pip_at xs k hk] at G
  have g0 : 0 ≤ (MI2.at_ xs k).a1 := G.t0
  have g1 : (MI2.at_ xs k).a1 ≤ 7 := G.t1
  obtain ⟨p0, p7, hr⟩ := h0
  have e : (((MI2.at_ xs k).a0.toNat : Nat) : Int) = (MI2.at_ xs k).a0 := by omega
  have ha : MI3.at_ (pwL xs wo) k = ⟨(MI2.at_ xs k).a0, (MI2.at_ xs k).a1, 1⟩ := by rw [pw_at xs wo hk, pw1, if_neg hw]
  have := FL.srch_closed (fs := List.replicate xs.length 0) (pw_ok (wo := wo) h) hf (m := (MI2.at_ xs k).a0.toNat) (k := k) (by omega) hr (by rw [pw_len]; exact hk) (by rw [ha, e, zero_at]; simp [FL.rm])
  rw [ha, e] at this
  refine ⟨g0, g1, ?_⟩
  show (FL.srch (pwL xs wo) (List.replicate xs.length 0) f).by_.getD _ 0 ≠ -1
  simpa [FL.nx] using this
theorem R_least {xs : List I2} {f : Int} {wo : List Int} (h : FL.okP (pip xs) = true) (hf : 0 ≤ f ∧ f ≤ 7) (P : Int → Prop) (hP : P f) (hc : ∀ k, k < xs.length → (k : Int) ∉ wo → P (MI2.at_ xs k).a0 → P (MI2.at_ xs k).a1) : ∀ n, R xs f wo n → P n := by
  have T := FL.srch_tree (fs := List.replicate xs.length 0) (pw_ok (wo := wo) h) hf
  have key : ∀ (d m : Nat), m < 8 → (reachB xs f wo).getD m 0 ≠ -1 → ((FL.srch (pwL xs wo) (List.replicate xs.length 0) f).L m).length = d → P (m : Int) := by
    intro d
    induction d with
    | zero =>
      intro m hm hr hl
      by_cases e : (m : Int) = f
      · rw [e]; exact hP
      · exact absurd (List.length_eq_zero_iff.1 hl) (T.nonnil hm hr e)
    | succ d ih =>
      intro m hm hr hl
      by_cases e : (m : Int) = f
      · rw [e]; exact hP
      · obtain ⟨k, p, hk, hp, _, hp2, hnx, h0, hL⟩ := T.via m hm hr e
        rw [hL] at hl
        simp only [List.length_append, List.length_cons, List.length_nil] at hl
        have i := ih p hp hp2 (by omega)
        rw [pw_len] at hk
        rw [zero_at] at h0
        rcases FL.rm_pos h0 with ⟨a, b, c, _⟩ | ⟨_, _, b, _, _⟩
        · rw [b] at h0
          rw [c] at hnx
          rw [pw_at xs wo hk] at a h0 hnx
          simp only [pw1] at a h0 hnx
          have hw : (k : Int) ∉ wo := fun hw => by rw [if_pos hw] at h0; omega
          rw [← hnx]
          exact hc k hk hw (by rw [a]; exact i)
        · omega
  intro n ⟨n0, n7, hr⟩
  have := key _ n.toNat (by omega) hr rfl
  rwa [show ((n.toNat : Nat) : Int) = n from by omega] at this
/-- Rows that rise strictly. -/
def Up (l : List Int) : Prop := l.Pairwise (· < ·)
theorem up_same {l l' : List Int} (h : Up l) (h' : Up l') (hm : ∀ x, x ∈ l ↔ x ∈ l') : l = l' := by
  have nd : l.Nodup := h.imp fun h => by omega
  have nd' : l'.Nodup := h'.imp fun h => by omega
  exact List.Perm.eq_of_pairwise (le := fun a b : Int => a ≤ b) (fun a b _ _ h1 h2 => by omega) (h.imp fun h => by omega) (h'.imp fun h => by omega) ((List.perm_ext_iff_of_nodup nd nd').2 hm)
theorem up_len : ∀ (l : List Int) (lo : Int), Up l → (∀ x ∈ l, lo ≤ x ∧ x ≤ 7) → lo ≤ 8 → (l.length : Int) ≤ 8 - lo
  | [], lo, _, _, h => by simp; omega
  | x :: l, lo, hu, hx, h => by
    unfold Up at hu
    rw [List.pairwise_cons] at hu
    have h1 := hx x (List.mem_cons_self ..)
    have := up_len l (x + 1) hu.2 (fun y hy => ⟨by have := hu.1 y hy; omega, (hx y (List.mem_cons_of_mem _ hy)).2⟩) (by omega)
    simp only [List.length_cons]; push_cast; omega
theorem put_up : ∀ (l : List Int) (n : Int), Up l → n ∉ l → Up (EG.putS l n)
  | [], n, _, _ => by simp [EG.putS, Up]
  | x :: l, n, h, hn => by
    unfold Up at *
    rw [List.pairwise_cons] at h
    simp only [List.mem_cons, not_or] at hn
    rw [EG.putS]; split
    · rename_i hx
      rw [List.pairwise_cons]
      refine ⟨fun y hy => ?_, put_up l n h.2 hn.2⟩
      rcases List.mem_append.1 ((EG.putS_perm l n).mem_iff.1 hy) with hy | hy
      · exact h.1 y hy
      · rw [List.mem_singleton.1 hy]; omega
    · rename_i hx
      rw [List.pairwise_cons, List.pairwise_cons]
      refine ⟨fun y hy => ?_, h.1, h.2⟩
      rcases List.mem_cons.1 hy with rfl | hy
      · omega
      · have := h.1 y hy; omega
theorem put_mem (l : List Int) (n x : Int) : x ∈ EG.putS l n ↔ x ∈ l ∨ x = n := by
  rw [(EG.putS_perm l n).mem_iff, List.mem_append, List.mem_singleton]
theorem put_length (l : List Int) (n : Int) : (EG.putS l n).length = l.length + 1 := by
  rw [(EG.putS_perm l n).length_eq]; simp
theorem side_mem (B : List Int) (m : Nat) (x : Int) : x ∈ FL.sideUp B m ↔ ∃ j : Nat, j < m ∧ x = (j : Int) ∧ B.getD j 0 ≠ -1 := by
  induction m with
  | zero => simp [FL.sideUp]
  | succ m ih =>
    rw [FL.sideUp, List.mem_append, ih]
    constructor
    · rintro (⟨j, h1, h2, h3⟩ | h)
      · exact ⟨j, by omega, h2, h3⟩
      · split at h
        · rename_i hb; rw [List.mem_singleton] at h; exact ⟨m, by omega, h, hb⟩
        · cases h
    · rintro ⟨j, h1, h2, h3⟩
      by_cases e : j = m
      · subst e; right; rw [if_pos h3, List.mem_singleton]; exact h2
      · left; exact ⟨j, by omega, h2, h3⟩
theorem side_up (B : List Int) (m : Nat) : Up (FL.sideUp B m) := by
  induction m with
  | zero => simp [FL.sideUp, Up]
  | succ m ih =>
    unfold Up at *
    rw [FL.sideUp, List.pairwise_append]
    refine ⟨ih, by split <;> simp, fun a ha b hb => ?_⟩
    obtain ⟨j, h1, h2, _⟩ := (side_mem B m a).1 ha
    split at hb
    · rw [List.mem_singleton] at hb; omega
    · cases hb
theorem side_R (xs : List I2) (f : Int) (wo : List Int) (x : Int) : x ∈ FL.sideUp (reachB xs f wo) 8 ↔ R xs f wo x := by
  rw [side_mem]
  constructor
  · rintro ⟨j, h1, rfl, h3⟩
    exact ⟨by omega, by omega, by rw [show ((j : Nat) : Int).toNat = j from by omega]; exact h3⟩
  · rintro ⟨h0, h7, h⟩
    exact ⟨x.toNat, by omega, by omega, h⟩
/-- What the specification has while it goes round: nobody but who is reached, the start among them. -/
structure Rb (xs : List I2) (f : Int) (wo os : List Int) : Prop where
  up : Up os
  inR : ∀ x ∈ os, R xs f wo x
  st : f ∈ os
theorem Rb.len {xs : List I2} {f : Int} {wo os : List Int} (h : Rb xs f wo os) : os.length ≤ 8 := by
  have := up_len os 0 h.up (fun x hx => ⟨(h.inR x hx).1, (h.inR x hx).2.1⟩) (by omega)
  omega
/-- Behind the first k links of a round that began with bs. -/
structure Pass (xs : List I2) (wo bs os : List Int) (k : Nat) : Prop where
  sub : ∀ x ∈ bs, x ∈ os
  alt : os = bs ∨ bs.length < os.length
  did : ∀ j, j < k → (j : Int) ∉ wo → (MI2.at_ xs j).a0 ∈ bs → (MI2.at_ xs j).a1 ∈ os
theorem Pass.start (xs : List I2) (wo bs : List Int) : Pass xs wo bs bs 0 := ⟨fun _ h => h, .inl rfl, fun j hj => by omega⟩
theorem Pass.skip {xs : List I2} {wo bs os : List Int} {k : Nat} (h : Pass xs wo bs os k) (hn : (k : Int) ∈ wo ∨ (MI2.at_ xs k).a0 ∉ os) : Pass xs wo bs os (k + 1) := by
  refine ⟨h.sub, h.alt, fun j hj hw h0 => ?_⟩
  by_cases e : j = k
  · subst e
    rcases hn with hn | hn
    · exact absurd hn hw
    · exact absurd (h.sub _ h0) hn
  · exact h.did j (by omega) hw h0
theorem Pass.has {xs : List I2} {wo bs os : List Int} {k : Nat} (h : Pass xs wo bs os k) (hn : (MI2.at_ xs k).a1 ∈ os) : Pass xs wo bs os (k + 1) := by
  refine ⟨h.sub, h.alt, fun j hj hw h0 => ?_⟩
  by_cases e : j = k
  · subst e; exact hn
  · exact h.did j (by omega) hw h0
theorem Pass.put {xs : List I2} {wo bs os : List Int} {k : Nat} (h : Pass xs wo bs os k) : Pass xs wo bs (EG.putS os (MI2.at_ xs k).a1) (k + 1) := by
  refine ⟨fun x hx => (put_mem _ _ _).2 (.inl (h.sub x hx)), .inr ?_, fun j hj hw h0 => (put_mem _ _ _).2 ?_⟩
  · rw [put_length]
    rcases h.alt with e | e
    · rw [e]; omega
    · omega
  · by_cases e : j = k
    · subst e; exact .inr rfl
    · exact .inl (h.did j (by omega) hw h0)
theorem Rb.put {xs : List I2} {f : Int} {wo os : List Int} (H : Rb xs f wo os) (h : FL.okP (pip xs) = true) (hf : 0 ≤ f ∧ f ≤ 7) {k : Nat} (hk : k < xs.length) (hw : (k : Int) ∉ wo) (h0 : (MI2.at_ xs k).a0 ∈ os) (h1 : (MI2.at_ xs k).a1 ∉ os) : Rb xs f wo (EG.putS os (MI2.at_ xs k).a1) := by
  refine ⟨put_up _ _ H.up h1, fun x hx => ?_, (put_mem _ _ _).2 (.inl H.st)⟩
  rcases (put_mem _ _ _).1 hx with hx | rfl
  · exact H.inR x hx
  · exact R_closed h hf hk hw (H.inR _ h0)
theorem Rb.fin {xs : List I2} {f : Int} {wo os : List Int} (H : Rb xs f wo os) (h : FL.okP (pip xs) = true) (hf : 0 ≤ f ∧ f ≤ 7) (P : Pass xs wo os os xs.length) : os = FL.sideUp (reachB xs f wo) 8 := by
  refine up_same H.up (side_up _ _) fun x => ?_
  rw [side_R]
  refine ⟨H.inR x, R_least h hf (fun n => n ∈ os) H.st (fun k hk hw h0 => P.did k hk hw h0) x⟩
theorem Rb.start {xs : List I2} {f : Int} {wo : List Int} (h : FL.okP (pip xs) = true) (hf : 0 ≤ f ∧ f ≤ 7) : Rb xs f wo [f] :=
  ⟨by simp [Up], fun x hx => by rw [List.mem_singleton] at hx; subst hx; exact R_start h hf, by simp⟩
/-- What is answered. -/
noncomputable def rbOk (xs : List I2) (f : Int) (wo : List Int) : Bool := FL.okP (pip xs) && (FL.nodeOk f && EG.rises xs.length wo)
noncomputable def rbL (xs : List I2) (f : Int) (wo : List Int) : List Int := if rbOk xs f wo = true then FL.sideUp (reachB xs f wo) 8 else []
theorem rbL_len (xs : List I2) (f : Int) (wo : List Int) : (rbL xs f wo).length ≤ 1048576 := by
  unfold rbL; split
  · have := FL.side_len (reachB xs f wo) 8; omega
  · simp
theorem rb_no {xs : List I2} {f : Int} {wo : List Int} (h : rbOk xs f wo = false) : rbL xs f wo = [] := by simp [rbL, h]
theorem rb_yes {xs : List I2} {f : Int} {wo : List Int} (h : rbOk xs f wo = true) : rbL xs f wo = FL.sideUp (reachB xs f wo) 8 := by simp [rbL, h]
end LK
end Go.Proofs.Ytdobnplcacaomaa

/- ReachedBy of the program and of the specification. -/
namespace Go.Proofs.Ytdobnplcacaomaa
open Go.RowKit
namespace LK
theorem flat_put : ∀ (ps : List I3) (k : Nat) (c : I3), k < ps.length → (MI3.at_ ps k).a0 = c.a0 → (MI3.at_ ps k).a1 = c.a1 → (MI3.flat ps).set (k * 3 + 2) (.int .i64 c.a2) = MI3.flat (ps.set k c)
  | [], k, c, h, _, _ => by simp at h
  | x :: ps, 0, c, h, h0, h1 => by
    have e0 : x.a0 = c.a0 := h0
    have e1 : x.a1 = c.a1 := h1
    simp [MI3.flat, I3.cs, e0, e1]
  | x :: ps, k + 1, c, h, h0, h1 => by
    have ih := flat_put ps k c (by simpa using h) h0 h1
    show (x.cs ++ MI3.flat ps).set ((k + 1) * 3 + 2) _ = x.cs ++ MI3.flat (ps.set k c)
    have hx : x.cs.length = 3 := rfl
    rw [List.set_append_right _ _ (by omega), hx, show (k + 1) * 3 + 2 - 3 = k * 3 + 2 from by omega, ih]
def lenV : Value → Nat
  | .slice _ n _ => n
  | _ => 0
theorem rises_at {n : Nat} {wo : List Int} (h : EG.rises n wo = true) {m : Nat} (hm : m < wo.length) : ∃ j : Nat, wo.getD m 0 = (j : Int) ∧ j < n := by
  have := EG.rises_is h m hm
  exact ⟨(wo.getD m 0).toNat, by omega, by omega⟩
theorem up_at {l : List Int} (h : Up l) {n : Int} (hn : n ∈ l) : ∃ k, k < l.length ∧ l.getD k 0 = n ∧ ∀ j, j < k → l.getD j 0 < n := by
  induction l with
  | nil => cases hn
  | cons x l ih =>
    unfold Up at h
    rw [List.pairwise_cons] at h
    rcases List.mem_cons.1 hn with rfl | hn
    · exact ⟨0, by simp, rfl, fun j hj => by omega⟩
    · obtain ⟨k, h1, h2, h3⟩ := ih h.2 hn
      refine ⟨k + 1, by simp; omega, by simpa using h2, fun j hj => ?_⟩
      cases j with
      | zero => simpa using h.1 n hn
      | succ j => simpa using h3 j (by omega)
end LK
set_option linter.unusedSimpArgs false in
set_option maxHeartbeats 1600000 in
set_option maxRecDepth 100000 in
/-- A number that is there already. -/
theorem l7Put_has (a : Option Addr) (ca : Nat) (os : List Int) (n : Int) (w : World) (ho : os.length ≤ 1000) (hu : LK.Up os) (hn : n ∈ os) (hos : M4.IntsAt w a os) :
    Calls Try.prog 63 #[.slice a os.length ca, .int .i64 n] w fun e w' => e = .returned (.slice a os.length ca) ∧ w = w' := by
  obtain ⟨p, hp, hpn, hlo⟩ := LK.up_at hu hn
  have HLO : Hid (∀ j, j < p → os.getD j 0 < n) := hlo
  have HPN : Hid (os.getD p 0 = n) := hpn
  have HS : Hid (M4.IntsAt w a os) := hos
  clear hlo hpn hos hu hn
  go_enter Try.func63, Try.ntmps63
  go_wp2
  go_loopw [5] (fun iv wr => ∃ k : Nat, iv = .int .i64 k ∧ k ≤ p ∧ w = wr) (fun iv _ => (p - intOf iv).toNat)
  case atStart => exact ⟨0, rfl, by omega, rfl⟩
  case round =>
    obtain ⟨k, rfl, hk, rfl⟩ := hrel
    have hkl : k < os.length := by omega
    obtain ⟨b, off, rfl, hlt, c0⟩ := M4.IntsAt.at HS.out hkl
    by_cases e : k = p
    · subst e
      rw [HPN.out] at c0
      clear HLO HPN HS
      go_wp2
      go_ret
      exact ⟨rfl, rfl⟩
    · have hl := HLO.out k (by omega)
      generalize os.getD k 0 = y at *
      clear HLO HPN HS
      go_wp2
      go_roundw
      case rel => exact ⟨k + 1, by go_num, by omega, trivial⟩
      case measure => simp [intOf]; omega
set_option linter.unusedSimpArgs false in
set_option maxHeartbeats 1600000 in
set_option maxRecDepth 100000 in
theorem implReached_any (a b : Option Addr) (ca cb : Nat) (xs : List I2) (f : Int) (wo : List Int) (w : World) (hn : xs.length ≤ 1048576) (hz : wo.length ≤ 1048576) (hin : MI2.RowAt w a xs) (hos : M4.IntsAt w b wo) :
    Calls Try.prog 35 #[.slice a xs.length ca, .int .i64 f, .slice b wo.length cb] w fun e w' => ∃ a1 c1, e = .returned (.tuple #[.slice a1 (LK.rbL xs f wo).length c1, .bool (LK.rbOk xs f wo)]) ∧ w'.ownsRow w.heap.size 3 1 (.slice a1 (LK.rbL xs f wo).length c1) (LK.rbL xs f wo).length (M4.iv (LK.rbL xs f wo)) ∧ Below w.heap.size w w' := by
  obtain ⟨i0, hi, hz0, hz1, hz2⟩ := info_parts Try.info3
  have HI : Hid (MI2.RowAt w a xs) := hin
  have HS : Hid (M4.IntsAt w b wo) := hos
  have GL : Hid _ := implGoodLinks_any a ca xs w hn hin _ rfl
  have NO : Hid (∀ W : World, _) := fun W => node8I_any f W
  have RI : Hid (∀ W : World, M4.IntsAt W b wo → Calls Try.prog 49 #[.slice b wo.length cb, .int .i64 ((xs.length : Int) - 1)] W fun e w' => e = .returned (.bool (EG.rises xs.length wo)) ∧ W = w') := fun W h => areRising_any b cb xs.length wo W hn hz h _ rfl
  have PO : Hid (∀ W : World, MI2.RowAt W a xs → _) := fun W h => pipesOfOne_any a ca xs W hn h
  have NK : Hid _ := fun h => LK.rb_no (xs := xs) (f := f) (wo := wo) h
  have YK : Hid _ := fun h => LK.rb_yes (xs := xs) (f := f) (wo := wo) h
  have OK : Hid (LK.rbOk xs f wo = (FL.okP (LK.pip xs) && (FL.nodeOk f && EG.rises xs.length wo))) := rfl
  have NF : Hid _ := fun h => FL.node_yes (n := f) h
  have RE : Hid (FL.okP (LK.pip xs) = true → 0 ≤ f → f ≤ 7 → ∀ (g : Nat) (v : Option Addr) (cv : Nat) (W : World), MI3.RowAt W (some ⟨g, 0, none⟩) (LK.pwL xs wo) → M4.IntsAt W v (List.replicate xs.length 0) → Calls Try.prog 42 #[.slice (some ⟨g, 0, none⟩) xs.length xs.length, .int .i64 f, .slice v xs.length cv] W fun e w' => ∃ a1 c1, e = .returned (.slice a1 (FL.sideUp (LK.reachB xs f wo) 8).length c1) ∧ w'.ownsRow W.heap.size 3 1 (.slice a1 (FL.sideUp (LK.reachB xs f wo) 8).length c1) (FL.sideUp (LK.reachB xs f wo) 8).length (M4.iv (FL.sideUp (LK.reachB xs f wo) 8)) ∧ Below W.heap.size W w') := fun h h0 h7 g v cv W h1 h2 => by
    have := reachedFrom_any (some ⟨g, 0, none⟩) v xs.length cv (LK.pwL xs wo) (List.replicate xs.length 0) f W (LK.pw_ok h) h0 h7 (by rw [LK.pw_len]; simp) (LK.pw_fit xs wo) h1 h2 (FL.sideUp (LK.reachB xs f wo) 8) rfl
    rwa [LK.pw_len] at this
  generalize LK.rbOk xs f wo = is at *
  generalize LK.rbL xs f wo = L at *
  generalize FL.sideUp (LK.reachB xs f wo) 8 = M at *
  generalize FL.okP (LK.pip xs) = p at *
  generalize FL.nodeOk f = q at *
  have RA : Hid (EG.rises xs.length wo = true → ∀ m, m < wo.length → ∃ j : Nat, wo.getD m 0 = (j : Int) ∧ j < xs.length) := fun h m hm => LK.rises_at h hm
  generalize EG.rises xs.length wo = r at *
  clear hin hos
  go_enter Try.func35, Try.ntmps35
  go_wp2_with fail
  refine Calls.mono GL.out ?_
  rintro e w0 ⟨rfl, hb0⟩
  clear GL
  cases p with
  | false =>
    have h0 : is = false := OK.out
    subst h0
    have hL := NK.out (by trivial)
    subst hL
    clear NO RI PO NK YK OK NF RE RA
    go_wp2
    go_ret2
    exact ⟨none, 0, rfl, World.ownsRow_nil _ _ _ _, hb0⟩
  | true =>
    go_wp2_with fail
    refine (NO.out _).mono ?_
    rintro e w1 ⟨rfl, rfl⟩
    clear NO
    cases q with
    | false =>
      have h0 : is = false := OK.out
      subst h0
      have hL := NK.out (by trivial)
      subst hL
      clear RI PO NK YK OK NF RE RA
      go_wp2
      go_ret2
      exact ⟨none, 0, rfl, World.ownsRow_nil _ _ _ _, hb0⟩
    | true =>
      have RI2 : Hid _ := RI.out w0 (M4.IntsAt.below HS.out hb0)
      clear RI
      go_wp2_with fail
      refine Calls.mono RI2.out ?_
      rintro e w1 ⟨rfl, rfl⟩
      clear RI2
      cases r with
      | false =>
        have h0 : is = false := OK.out
        subst h0
        have hL := NK.out (by trivial)
        subst hL
        clear PO NK YK OK NF RE RA
        go_wp2
        go_ret2
        exact ⟨none, 0, rfl, World.ownsRow_nil _ _ _ _, hb0⟩
      | true =>
        have h0 : is = true := OK.out
        subst h0
        have hL := YK.out (by trivial)
        subst hL
        obtain ⟨f0, f7⟩ := NF.out (by trivial)
        have RE2 : Hid _ := RE.out (by trivial) f0 f7
        have PO2 : Hid _ := PO.out w0 (HI.out.below hb0)
        have RA2 : Hid _ := RA.out (by trivial)
        clear PO NK YK OK NF RE RA HI
        go_wp2_with fail
        refine Calls.mono PO2.out ?_
        rintro e w1 ⟨g, rfl, ho, hb1⟩
        have hB1 := hb0.trans (hb1.mono hb0.size)
        have HO : Hid (World.ownsRow w1 w0.heap.size 61 3 (.slice (some ⟨g, 0, none⟩) xs.length xs.length) xs.length (MI3.flat (LK.pwL xs (wo.take 0)))) := by
          show World.ownsRow _ _ _ _ _ _ _; rw [List.take_zero, LK.pw_nil]; exact ho
        have hg1 := (ho.lt g rfl).1
        clear PO2 ho
        have hS1 : Hid (M4.IntsAt w0 b wo) := M4.IntsAt.below HS.out hb0
        clear HS
        go_wp2
        go_loopw [31] (fun iv wr => ∃ m : Nat, iv = .int .i64 m ∧ m ≤ wo.length ∧ wr.ownsRow w0.heap.size 61 3 (.slice (some ⟨g, 0, none⟩) xs.length xs.length) xs.length (MI3.flat (LK.pwL xs (wo.take m))) ∧ Below w0.heap.size w0 wr) (fun iv _ => (wo.length - intOf iv).toNat)
        case atStart => exact ⟨0, rfl, by omega, HO.out, hb1⟩
        case round =>
          clear HO hb1 hB1
          obtain ⟨m, rfl, hm, hown, hb⟩ := hrel
          by_cases hlm : m < wo.length
          · obtain ⟨j, hj, hjx⟩ := RA2.out m hlm
            obtain ⟨b2, off2, rfl, hlt2, d0⟩ := M4.IntsAt.at (M4.IntsAt.below hS1.out hb) hlm
            rw [hj] at d0
            have HP : Hid _ := LK.pw_put xs wo hlm hj
            have hfl := LK.flat_put (LK.pwL xs (wo.take m)) j ⟨(MI2.at_ xs j).a0, (MI2.at_ xs j).a1, 0⟩ (by rw [LK.pw_len]; exact hjx) (by rw [LK.pw_at xs _ hjx]; rfl) (by rw [LK.pw_at xs _ hjx]; rfl)
            rw [← HP.out] at hfl
            have hlen := hown.1
            obtain ⟨y2, q2⟩ : ∃ y, wr.cell? ⟨g, j * 3 + 2, none⟩ = some y := MI3.some_at hown _ (by omega)
            have z2 := hown.frozenAt (j * 3 + 2)
            have s2 := World.ownsRow.stored hown (j * 3 + 2) (.int .i64 0)
            have R1 := s2.1
            rw [hfl] at R1
            have R2 := hb.grown s2.2 (hb.size) (fun j hj => by simp at hj; omega)
            clear s2 hfl hlen hown hb HP hj
            go_wp2
            go_roundw
            case rel => exact ⟨m + 1, by go_num, by omega, R1, R2⟩
            case measure => simp [intOf]; omega
          · obtain rfl : m = wo.length := by omega
            rw [List.take_length] at hown
            have HO : Hid (World.ownsRow wr w0.heap.size 61 3 (.slice (some ⟨g, 0, none⟩) xs.length xs.length) xs.length (MI3.flat (LK.pwL xs wo))) := hown
            clear hown RA2 hS1
            go_wp2_with (at_make; refine wpList_make_full _ rfl _ _ 24 rfl wr.heap.size 3 i0 (.int .i64 0) 1 Try.underlying24 hi hz0 hz1 .i64 .i64 _ _ xs.length rfl rfl rfl rfl ?_ ?_ ?_ ?_)
            · rw [hz2]; omega
            · unfold maxLen; omega
            · omega
            intro w2 hown2 hgrow
            rw [M4.made_iv] at hown2
            have hb2 : Below wr.heap.size wr w2 := (Below.refl _ _).grown hgrow (Nat.le_refl _) (fun k hk => by cases hk)
            have hB2 := (hb0.trans (hb.mono hb0.size)).trans (hb2.mono (Nat.le_trans hb0.size hb.size))
            have RE3 : Hid _ := RE2.out g (some ⟨wr.heap.size, 0, none⟩) xs.length w2 (MI3.RowAt.of_own (M5.own_below HO.out hb2)) (M4.IntsAt.of_own hown2)
            clear hgrow hown2 hb2 RE2 HO hi hz0 hz1 hz2
            generalize hll : L.length = ll at *
            have HLL : Hid _ := hll
            clear hll
            go_wp2_with fail
            refine Calls.mono RE3.out ?_
            rintro e w3 ⟨a3, c3, rfl, ho, hb3⟩
            have HO : Hid _ := FL.own_base ho hB2.size
            clear RE3 ho
            go_wp2
            go_ret2
            exact ⟨a3, c3, by rw [HLL.out]; rfl, by rw [HLL.out]; exact HO.out, hB2.trans (hb3.mono hB2.size)⟩
set_option linter.unusedSimpArgs false in
set_option maxHeartbeats 3200000 in
set_option maxRecDepth 100000 in
theorem specReached_any (a b : Option Addr) (ca cb : Nat) (xs : List I2) (f : Int) (wo : List Int) (w : World) (hn : xs.length ≤ 1048576) (hz : wo.length ≤ 1048576) (hin : MI2.RowAt w a xs) (hos : M4.IntsAt w b wo) :
    Calls Try.prog 34 #[.slice a xs.length ca, .int .i64 f, .slice b wo.length cb] w fun e w' => ∃ a1 c1, e = .returned (.tuple #[.slice a1 (LK.rbL xs f wo).length c1, .bool (LK.rbOk xs f wo)]) ∧ w'.ownsRow w.heap.size 3 1 (.slice a1 (LK.rbL xs f wo).length c1) (LK.rbL xs f wo).length (M4.iv (LK.rbL xs f wo)) ∧ Below w.heap.size w w' := by
  have HI : Hid (MI2.RowAt w a xs) := hin
  have HS : Hid (M4.IntsAt w b wo) := hos
  have GL : Hid _ := specGoodLinks_any a ca xs w hn hin _ rfl
  have NO : Hid (∀ W : World, _) := fun W => node8S_any f W
  have RI : Hid (∀ W : World, M4.IntsAt W b wo → Calls Try.prog 47 #[.slice b wo.length cb, .int .i64 (xs.length : Int)] W fun e w' => e = .returned (.bool (EG.rises xs.length wo)) ∧ Below W.heap.size W w') := fun W h => l1Some_any b cb xs.length wo W hn hz h _ rfl
  have NK : Hid _ := fun h => LK.rb_no (xs := xs) (f := f) (wo := wo) h
  have YK : Hid _ := fun h => LK.rb_yes (xs := xs) (f := f) (wo := wo) h
  have OK : Hid (LK.rbOk xs f wo = (FL.okP (LK.pip xs) && (FL.nodeOk f && EG.rises xs.length wo))) := rfl
  have NF : Hid _ := fun h => FL.node_yes (n := f) h
  have FI : Hid (FL.okP (LK.pip xs) = true → 0 ≤ f → f ≤ 7 → ∀ os, LK.Rb xs f wo os → LK.Pass xs wo os os xs.length → os = FL.sideUp (LK.reachB xs f wo) 8) := fun h h0 h7 os H P => H.fin h ⟨h0, h7⟩ P
  have ST : Hid (FL.okP (LK.pip xs) = true → 0 ≤ f → f ≤ 7 → LK.Rb xs f wo [f]) := fun h h0 h7 => LK.Rb.start h ⟨h0, h7⟩
  have PU : Hid (FL.okP (LK.pip xs) = true → 0 ≤ f → f ≤ 7 → ∀ os k, k < xs.length → (k : Int) ∉ wo → (MI2.at_ xs k).a0 ∈ os → (MI2.at_ xs k).a1 ∉ os → LK.Rb xs f wo os → LK.Rb xs f wo (EG.putS os (MI2.at_ xs k).a1)) := fun h h0 h7 os k hk hw h1 h2 H => H.put h ⟨h0, h7⟩ hk hw h1 h2
  generalize LK.rbOk xs f wo = is at *
  generalize LK.rbL xs f wo = L at *
  generalize FL.sideUp (LK.reachB xs f wo) 8 = M at *
  have H20 : Hid (FL.okP (LK.pip xs) = true → xs.length ≤ 20) := fun h => by have := ((FL.okP_iff _).1 h).1; rwa [LK.pip_len] at this
  generalize FL.okP (LK.pip xs) = p at *
  generalize FL.nodeOk f = q at *
  generalize EG.rises xs.length wo = r at *
  clear hin hos
  go_enter Try.func34, Try.ntmps34
  go_wp2_with fail
  refine Calls.mono GL.out ?_
  rintro e w0 ⟨rfl, hb0⟩
  clear GL
  cases p with
  | false =>
    have h0 : is = false := OK.out
    subst h0
    have hL := NK.out (by trivial)
    subst hL
    clear NO RI NK YK OK NF FI ST PU H20
    go_wp2
    go_ret2
    exact ⟨none, 0, rfl, World.ownsRow_nil _ _ _ _, hb0⟩
  | true =>
    go_wp2_with fail
    refine (NO.out _).mono ?_
    rintro e w1 ⟨rfl, rfl⟩
    clear NO
    cases q with
    | false =>
      have h0 : is = false := OK.out
      subst h0
      have hL := NK.out (by trivial)
      subst hL
      clear RI NK YK OK NF FI ST PU H20
      go_wp2
      go_ret2
      exact ⟨none, 0, rfl, World.ownsRow_nil _ _ _ _, hb0⟩
    | true =>
      have RI2 : Hid _ := RI.out w0 (M4.IntsAt.below HS.out hb0)
      clear RI
      go_wp2_with fail
      refine Calls.mono RI2.out ?_
      rintro e w1 ⟨rfl, hb1⟩
      have hB1 := hb0.trans (hb1.mono hb0.size)
      clear RI2 hb0 hb1
      cases r with
      | false =>
        have h0 : is = false := OK.out
        subst h0
        have hL := NK.out (by trivial)
        subst hL
        clear NK YK OK NF FI ST PU H20
        go_wp2
        go_ret2
        exact ⟨none, 0, rfl, World.ownsRow_nil _ _ _ _, hB1⟩
      | true =>
        have h0 : is = true := OK.out
        subst h0
        have hL := YK.out (by trivial)
        subst hL
        obtain ⟨f0, f7⟩ := NF.out (by trivial)
        have FI2 : Hid _ := FI.out (by trivial) f0 f7
        have ST2 : Hid _ := ST.out (by trivial) f0 f7
        have PU2 : Hid _ := PU.out (by trivial) f0 f7
        have h20 := H20.out (by trivial)
        have own0 : (w1.alloc (.cells #[.int .i64 f] 3)).ownsRow w1.heap.size 3 1 (.slice (some ⟨w1.heap.size, 0, none⟩) 1 1) 1 (M4.iv [f]) := by
          have := World.ownsRow_lit (base := w1.heap.size) (e := 3) (size := 1) w1 #[.int .i64 f] 1 (by simp) (by unfold maxLen; omega) (by simp)
          simpa [M4.iv] using this
        have OWN0 : Hid ((w1.alloc (.cells #[.int .i64 f] 3)).ownsRow w1.heap.size 3 1 (.slice (some ⟨w1.heap.size, 0, none⟩) 1 1) 1 (M4.iv [f])) := own0
        have hb2 : Below w1.heap.size w1 (w1.alloc (.cells #[.int .i64 f] 3)) := (Below.refl _ w1).alloc (Nat.le_refl _) _
        have HI1 : Hid (MI2.RowAt w1 a xs) := HI.out.below hB1
        have HS1 : Hid (M4.IntsAt w1 b wo) := M4.IntsAt.below HS.out hB1
        clear NK YK OK NF FI ST PU H20 HI HS own0
        go_wp2
        go_loopw [8] (fun v wr => ∃ (s : List Int) (a1 : Option Addr) (c1 : Nat), v = .slice a1 s.length c1 ∧ Hid (LK.Rb xs f wo s) ∧ wr.ownsRow w1.heap.size 3 1 (.slice a1 s.length c1) s.length (M4.iv s) ∧ Below w1.heap.size w1 wr) (fun v _ => 8 - LK.lenV v)
        case atStart => exact ⟨[f], some ⟨w1.heap.size, 0, none⟩, 1, rfl, ST2, OWN0.out, hb2⟩
        case round =>
          clear OWN0 hb2 ST2
          obtain ⟨bs, a1, c1, rfl, HRB, hown, hb⟩ := hrel
          have hbl : bs.length ≤ 8 := HRB.out.len
          have HOW : Hid _ := hown
          clear hown
          go_wp2
          go_loopw [8, 33] (fun v iv wi => ∃ (k : Nat) (s : List Int) (a2 : Option Addr) (c2 : Nat), iv = .int .i64 k ∧ k ≤ xs.length ∧ v = .slice a2 s.length c2 ∧ Hid (LK.Rb xs f wo s) ∧ Hid (LK.Pass xs wo bs s k) ∧ wi.ownsRow w1.heap.size 3 1 (.slice a2 s.length c2) s.length (M4.iv s) ∧ Below w1.heap.size w1 wi) (fun _ iv _ => (xs.length - intOf iv).toNat)
          case atStart => exact ⟨0, bs, a1, c1, rfl, by omega, rfl, HRB, LK.Pass.start _ _ _, HOW.out, hb⟩
          case round =>
            clear HOW hb
            obtain ⟨k, s, a2, c2, rfl, hk, rfl, HR2, HP, hown, hb⟩ := hrel
            have hsl : s.length ≤ 8 := HR2.out.len
            by_cases hlk : k < xs.length
            · obtain ⟨b1, off, rfl, hlt, c0, c1⟩ := (HI1.out.below hb).at hlk
              have PU3 : Hid _ := fun hw h0 h1 => PU2.out s k hlk hw h0 h1 HR2.out
              have SK : Hid _ := fun h => HP.out.skip h
              have HA : Hid _ := fun h => HP.out.has h
              have PT : Hid _ := HP.out.put
              generalize MI2.at_ xs k = x at *
              obtain ⟨x0, x1⟩ := x
              have HB : Hid (Below w1.heap.size w1 (wr.alloc (.cells #[.int .i64 x0, .int .i64 x1] 68))) := hb.alloc hb.size _
              have HO : Hid (World.ownsRow (wr.alloc (.cells #[.int .i64 x0, .int .i64 x1] 68)) w1.heap.size 3 1 (.slice a2 s.length c2) s.length (M4.iv s)) := hown.alloc _
              have H0 : Hid (Calls Try.prog 61 #[.slice b wo.length cb, .int .i64 (k : Int)] (wr.alloc (.cells #[.int .i64 x0, .int .i64 x1] 68)) fun e w' => e = .returned (.bool (EG.hasB wo (k : Int))) ∧ (wr.alloc (.cells #[.int .i64 x0, .int .i64 x1] 68)) = w') := l1Has_any _ _ wo _ _ hz (M4.IntsAt.below HS1.out HB.out)
              have H1 : Hid (Calls Try.prog 61 #[.slice a2 s.length c2, .int .i64 x0] (wr.alloc (.cells #[.int .i64 x0, .int .i64 x1] 68)) fun e w' => e = .returned (.bool (EG.hasB s x0)) ∧ (wr.alloc (.cells #[.int .i64 x0, .int .i64 x1] 68)) = w') := l1Has_any _ _ s _ _ (by omega) (M5.own_ints HO.out)
              have EW : Hid (EG.hasB wo (k : Int) = true ↔ (k : Int) ∈ wo) := by show _ ↔ _; simp [EG.hasB]
              have ES : Hid (EG.hasB s x0 = true ↔ x0 ∈ s) := by show _ ↔ _; simp [EG.hasB]
              generalize EG.hasB wo (k : Int) = p1 at *
              generalize EG.hasB s x0 = p2 at *
              clear hown hb HP PU2 FI2 HI1 HS1
              go_wp2_with fail
              refine Calls.mono H0.out ?_
              rintro e w3 ⟨rfl, rfl⟩
              clear H0
              cases p1 with
              | true =>
                have HE : Hid _ := SK.out (.inl (EW.out.1 rfl))
                clear SK HA PT PU3 EW ES H1
                go_wp2
                go_roundw
                case rel => exact ⟨k + 1, s, a2, c2, by go_num, by omega, rfl, HR2, HE, HO.out, HB.out⟩
                case measure => simp [intOf]; omega
              | false =>
                have hnw : (k : Int) ∉ wo := fun h => by have := EW.out.2 h; cases this
                have HNW : Hid _ := hnw
                clear hnw EW
                go_wp2_with fail
                refine Calls.mono H1.out ?_
                rintro e w3 ⟨rfl, rfl⟩
                clear H1
                cases p2 with
                | false =>
                  have HE : Hid _ := SK.out (.inr (fun h => by have := ES.out.2 h; cases this))
                  clear SK HA PT PU3 ES
                  go_wp2
                  go_roundw
                  case rel => exact ⟨k + 1, s, a2, c2, by go_num, by omega, rfl, HR2, HE, HO.out, HB.out⟩
                  case measure => simp [intOf]; omega
                | true =>
                  have HIN : Hid (x0 ∈ s) := ES.out.1 rfl
                  clear ES SK
                  by_cases h1 : x1 ∈ s
                  · have HE : Hid _ := HA.out h1
                    have PC : Hid _ := l7Put_has a2 c2 s x1 (wr.alloc (.cells #[.int .i64 x0, .int .i64 x1] 68)) (by omega) HR2.out.up h1 (M5.own_ints HO.out)
                    clear h1 HA PT PU3 HIN
                    go_wp2_with fail
                    refine Calls.mono PC.out ?_
                    rintro e w3 ⟨rfl, rfl⟩
                    clear PC
                    go_wp2
                    go_roundw
                    case rel => exact ⟨k + 1, s, a2, c2, by go_num, by omega, rfl, HR2, HE, HO.out, HB.out⟩
                    case measure => simp [intOf]; omega
                  · have HE : Hid _ := PT
                    have HR3 : Hid _ := PU3.out HNW.out HIN.out h1
                    have PC : Hid _ := l7Put_any w1.heap.size (.slice a2 s.length c2) s x1 (wr.alloc (.cells #[.int .i64 x0, .int .i64 x1] 68)) (by omega) h1 HO.out
                    generalize EG.putS s x1 = s' at *
                    have hsz := HB.out.size
                    clear h1 HA PT PU3 HIN HNW
                    go_wp2_with fail
                    refine Calls.mono PC.out ?_
                    rintro e w3 ⟨a3, c3, rfl, ho3, hb3⟩
                    have R1 : Hid (w3.ownsRow w1.heap.size 3 1 (.slice a3 s'.length c3) s'.length (M4.iv s')) := FL.own_base ho3 HB.out.size
                    have R2 := HB.out.trans (hb3.mono HB.out.size)
                    clear PC ho3 hb3 HO HB
                    go_wp2
                    go_roundw
                    case rel => exact ⟨k + 1, s', a3, c3, by go_num, by omega, rfl, HR3, HE, R1.out, R2⟩
                    case measure => simp [intOf]; omega
            · obtain rfl : k = xs.length := by omega
              have HO : Hid (World.ownsRow wr w1.heap.size 3 1 (.slice a2 s.length c2) s.length (M4.iv s)) := hown
              clear hown HI1 HS1 PU2
              by_cases hle : s.length = bs.length
              · have hsb : s = bs := by
                  rcases HP.out.alt with h | h
                  · exact h
                  · omega
                subst hsb
                have hE := FI2.out s HR2.out HP.out
                subst hE
                have HOB : Hid _ := FL.own_base HO.out hB1.size
                clear HP HR2 HRB FI2 HO hle
                generalize hll : s.length = ll at *
                have HLL : Hid _ := hll
                clear hll
                go_wp2
                go_ret2
                exact ⟨a2, c2, by rw [HLL.out]; rfl, by rw [HLL.out]; exact HOB.out, hB1.trans (hb.mono hB1.size)⟩
              · have hne : ((s.length : Int) == (bs.length : Int)) = false := by simp; omega
                have hlt : bs.length < s.length := by
                  rcases HP.out.alt with h | h
                  · exact absurd (by rw [h]) hle
                  · exact h
                clear HP FI2 hle HRB
                go_wp2
                go_roundw
                case rel => exact ⟨s, a2, c2, rfl, HR2, HO.out, hb⟩
                case measure => simp only [LK.lenV]; omega
end Go.Proofs.Ytdobnplcacaomaa
