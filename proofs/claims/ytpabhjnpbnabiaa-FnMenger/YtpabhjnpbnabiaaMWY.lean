/- Ways along a flow, and what goes round left out: plain facts, over whatever program. -/
import Derived.Test.YtpabhjnpbnabiaaMLK
namespace Go.Proofs.Ytpabhjnpbnabiaa
namespace FL
/-- What is put on a row makes more at its ends alone. -/
theorem outUp_rowN {xs : List I3} {fs : List Int} {f : Int} {s : St} (hok : okP xs = true) (hl : fs.length = xs.length) (more : Int) (h : Tree xs fs f s) (v : Int) (n : Nat) : ∀ m : Nat, m < 8 → s.by_.getD m 0 ≠ -1 → (s.L m).length = n → outUp xs (putL more fs (s.L m)) v xs.length = outUp xs fs v xs.length + (if v = f then more else 0) - (if v = (m : Int) then more else 0) := by
  induction n with
  | zero =>
    intro m hm hr hn
    by_cases e : (m : Int) = f
    · rw [List.length_eq_zero_iff.1 hn, e]; simp [putL]
    · exact absurd (List.length_eq_zero_iff.1 hn) (h.nonnil hm hr e)
  | succ n ih =>
    intro m hm hr hn
    by_cases e : (m : Int) = f
    · rw [show m = f.toNat from by omega, h.nil] at hn; cases hn
    · obtain ⟨k, p, hk, hp, _, hp2, hnx, h0, hL⟩ := h.via m hm hr e
      rw [hL] at hn ⊢
      simp only [List.length_append, List.length_cons, List.length_nil] at hn
      rw [putL_snoc, outUp_put _ _ _ _ _ (by rw [putL_len, hl]; exact hk), ih p hp hp2 (by omega), if_pos (show (stp xs fs (p : Int) k).k < xs.length from hk)]
      have hd : dl more (stp xs fs (p : Int) k) = if bk (MI3.at_ xs k) (p : Int) = true then -more else more := rfl
      have hat : MI3.at_ xs (stp xs fs (p : Int) k).k = MI3.at_ xs k := rfl
      rw [hd, hat]
      have G := okP_good hok hk
      have ne := G.ne
      unfold sg
      generalize (if v = f then more else 0) = F
      rcases rm_pos h0 with ⟨a, _, b, d⟩ | ⟨a, b, _, c, d⟩
      · rw [d]
        rw [b] at hnx
        rw [a, hnx] at ne
        rw [a, hnx]
        simp only [Bool.false_eq_true, if_false]
        by_cases e1 : v = (p : Int)
        · subst e1
          rw [if_pos rfl, if_pos rfl, if_neg ne]; omega
        · rw [if_neg e1, if_neg (fun e => e1 e.symm)]
          by_cases e2 : v = (m : Int)
          · subst e2; rw [if_pos rfl, if_pos rfl]; omega
          · rw [if_neg (fun e => e2 e.symm), if_neg e2]; omega
      · rw [d]
        rw [c] at hnx
        rw [b, hnx] at ne
        rw [b, hnx]
        simp only [if_true]
        by_cases e1 : v = (p : Int)
        · subst e1
          rw [if_pos rfl, if_pos rfl, if_neg ne, if_neg (fun e => ne e.symm)]; omega
        · rw [if_neg e1]
          by_cases e2 : v = (m : Int)
          · subst e2; rw [if_pos rfl, if_pos rfl]; omega
          · rw [if_neg (fun e => e2 e.symm), if_neg e2, if_neg (fun e => e1 e.symm)]; omega
theorem outUp_zero (xs : List I3) (v : Int) (n : Nat) : ∀ k, outUp xs (List.replicate n 0) v k = 0
  | 0 => rfl
  | k + 1 => by
    rw [outUp, outUp_zero xs v n k]
    have h0 : (List.replicate n (0 : Int)).getD k 0 = 0 := by
      rw [List.getD_eq_getElem?_getD, List.getElem?_replicate]; split <;> rfl
    rw [h0]; unfold sg; split
    · rfl
    · split <;> rfl
theorem flowAt_calm {xs : List I3} {f t : Int} (A : Ask xs f t) (i : Nat) : (∀ v, v ≠ f → v ≠ t → outUp xs (flowAt xs f t i) v xs.length = 0) ∧ 0 ≤ outUp xs (flowAt xs f t i) f xs.length := by
  induction i with
  | zero => exact ⟨fun v _ _ => outUp_zero _ _ _ _, by rw [flowAt, outUp_zero]; omega⟩
  | succ i ih =>
    have o := flowAt_ok A i
    rw [flowAt]; unfold augL
    by_cases h : reach xs (flowAt xs f t i) f t = true
    · rw [if_pos h]
      have R := row_of A o.2 h
      have t0 := A.t0; have t7 := A.t7; have ne := A.ne; have rp := R.pos
      have key := fun v => outUp_rowN A.ok o.1 (mostOf (rowL xs (flowAt xs f t i) f t)) R.tree v _ t.toNat (by omega) R.is rfl
      refine ⟨fun v hf ht => ?_, ?_⟩
      · have := key v
        rw [if_neg hf, if_neg (by omega), ih.1 v hf ht] at this
        exact this.trans (by omega)
      · have := key f
        rw [if_pos rfl, if_neg (by omega)] at this
        have h2 := ih.2
        exact Int.le_trans (by omega) (Int.le_of_eq this.symm)
    · rw [if_neg h]; exact ih
theorem maxF_calm {xs : List I3} {f t : Int} (A : Ask xs f t) : (∀ v, v ≠ f → v ≠ t → outUp xs (maxF xs f t) v xs.length = 0) ∧ 0 ≤ outUp xs (maxF xs f t) f xs.length := flowAt_calm A 2000
end FL
namespace LK
open Go.RowKit
theorem sg_pip (x : I2) (n v : Int) : FL.sg (pip1 x) n v = if x.a0 = n then v else if x.a1 = n then -v else 0 := rfl
/-- A link that leaves a node and has flow. -/
def hit (xs : List I2) (fs : List Int) (u : Int) (k : Nat) : Prop := (MI2.at_ xs k).a0 = u ∧ fs.getD k 0 ≠ 0
structure Fst (xs : List I2) (fs : List Int) (u : Int) (k : Nat) : Prop where
  lt : k < xs.length
  is : hit xs fs u k
  no : ∀ j, j < k → ¬ hit xs fs u j
theorem Fst.same {xs : List I2} {fs : List Int} {u : Int} {k k' : Nat} (h : Fst xs fs u k) (h' : Fst xs fs u k') : k = k' := by
  by_cases a : k < k'
  · exact absurd h.is (h'.no k a)
  · by_cases b : k' < k
    · exact absurd h'.is (h.no k' b)
    · omega
theorem fst_of {xs : List I2} {fs : List Int} {u : Int} : ∀ k, k < xs.length → hit xs fs u k → ∃ k0, Fst xs fs u k0 := by
  intro k
  induction k using Nat.strongRecOn with
  | ind k ih =>
    intro hk h
    by_cases e : ∃ j, j < k ∧ hit xs fs u j
    · obtain ⟨j, hj, h2⟩ := e; exact ih j hj (by omega) h2
    · exact ⟨k, hk, h, fun j hj h2 => e ⟨j, hj, h2⟩⟩
open Classical in
noncomputable def fk (xs : List I2) (fs : List Int) (u : Int) : Nat := if h : ∃ k, Fst xs fs u k then h.choose else 0
theorem fk_is {xs : List I2} {fs : List Int} {u : Int} {k : Nat} (h : Fst xs fs u k) : fk xs fs u = k := by
  have e : ∃ k, Fst xs fs u k := ⟨k, h⟩
  unfold fk; rw [dif_pos e]; exact e.choose_spec.same h
/-- Where one is, the flow that is left, the links gone along. -/
structure Wk where
  pos : Int
  fs : List Int
  way : List Int
noncomputable def wstep (xs : List I2) (s : Wk) : Wk := ⟨(MI2.at_ xs (fk xs s.fs s.pos)).a1, s.fs.set (fk xs s.fs s.pos) 0, s.way ++ [((fk xs s.fs s.pos : Nat) : Int)]⟩
noncomputable def wlk (xs : List I2) (f t : Int) (fs : List Int) : Nat → Wk
  | 0 => ⟨f, fs, []⟩
  | i + 1 => if (wlk xs f t fs i).pos = t then wlk xs f t fs i else wstep xs (wlk xs f t fs i)
def cntUp (fs : List Int) : Nat → Nat
  | 0 => 0
  | k + 1 => cntUp fs k + (if fs.getD k 0 ≠ 0 then 1 else 0)
theorem cnt_le (fs : List Int) : ∀ k, cntUp fs k ≤ k
  | 0 => Nat.le_refl _
  | k + 1 => by have := cnt_le fs k; rw [cntUp]; split <;> omega
theorem cnt_set {fs : List Int} {k : Nat} (hk : k < fs.length) (h : fs.getD k 0 ≠ 0) : ∀ m, cntUp (fs.set k 0) m + (if k < m then 1 else 0) = cntUp fs m
  | 0 => rfl
  | m + 1 => by
    have ih := cnt_set hk h m
    rw [cntUp, cntUp, FL.getD_set _ _ _ _ _ hk]
    by_cases e : k = m
    · subst e
      rw [if_pos rfl, if_neg (by omega), if_pos (by omega), if_pos h]
      rw [if_neg (by omega)] at ih
      omega
    · rw [if_neg e]
      by_cases c : k < m
      · rw [if_pos c] at ih; rw [if_pos (by omega : k < m + 1)]; omega
      · rw [if_neg c] at ih; rw [if_neg (by omega : ¬ k < m + 1)]; omega
/-- A flow of as many ways as are still to be gone, one of them begun. -/
structure Gone (xs : List I2) (f t : Int) (r : Nat) (s : Wk) : Prop where
  len : s.fs.length = xs.length
  one : ∀ k, k < xs.length → s.fs.getD k 0 = 0 ∨ s.fs.getD k 0 = 1
  net : ∀ v, v ≠ t → FL.outUp (pip xs) s.fs v xs.length = (if v = f then (r : Int) else 0) + (if v = s.pos then 1 else 0)
theorem out_neg {xs : List I2} {fs : List Int} {u : Int} (hl : fs.length = xs.length) (h1 : ∀ k, k < xs.length → fs.getD k 0 = 0 ∨ fs.getD k 0 = 1) (h : ∀ k, k < xs.length → ¬ hit xs fs u k) : ∀ m, m ≤ xs.length → FL.outUp (pip xs) fs u m ≤ 0
  | 0, _ => by simp [FL.outUp]
  | m + 1, hm => by
    have ih := out_neg hl h1 h m (by omega)
    have hh := h m (by omega)
    have h2 := h1 m (by omega)
    rw [FL.outUp, pip_at xs m (by omega), sg_pip]
    by_cases e : (MI2.at_ xs m).a0 = u
    · rw [if_pos e]
      have : fs.getD m 0 = 0 := by
        by_cases z : fs.getD m 0 = 0
        · exact z
        · exact absurd ⟨e, z⟩ hh
      omega
    · rw [if_neg e]; split <;> omega
theorem Gone.some {xs : List I2} {f t : Int} {r : Nat} {s : Wk} (h : Gone xs f t r s) (hp : s.pos ≠ t) : ∃ k, Fst xs s.fs s.pos k := by
  by_cases e : ∃ k, k < xs.length ∧ hit xs s.fs s.pos k
  · obtain ⟨k, hk, h2⟩ := e; exact fst_of k hk h2
  · have := out_neg (u := s.pos) h.len h.one (fun k hk h2 => e ⟨k, hk, h2⟩) xs.length (Nat.le_refl _)
    rw [h.net s.pos hp, if_pos rfl] at this
    split at this <;> omega
theorem Gone.step {xs : List I2} {f t : Int} {r : Nat} {s : Wk} (hok : FL.okP (pip xs) = true) (h : Gone xs f t r s) {k : Nat} (hk : Fst xs s.fs s.pos k) : Gone xs f t r (wstep xs s) := by
  have hlk : k < s.fs.length := by rw [h.len]; exact hk.lt
  have h1 : s.fs.getD k 0 = 1 := (h.one k hk.lt).elim (fun e => absurd e hk.is.2) id
  unfold wstep
  rw [fk_is hk]
  refine ⟨by rw [List.length_set]; exact h.len, fun j hj => ?_, fun v hv => ?_⟩
  · show (s.fs.set k 0).getD j 0 = 0 ∨ _
    rw [FL.getD_set _ _ _ _ _ hlk]
    by_cases e : k = j
    · rw [if_pos e]; exact .inl rfl
    · rw [if_neg e]; exact h.one j hj
  · have e := FL.outUp_put (pip xs) s.fs v 1 ⟨k, true, 0, 0⟩ hlk xs.length
    have e1 : FL.put1 1 s.fs ⟨k, true, 0, 0⟩ = s.fs.set k 0 := by
      show s.fs.set k (s.fs.getD k 0 + -1) = _
      rw [h1]; rfl
    rw [e1] at e
    show FL.outUp (pip xs) (s.fs.set k 0) v xs.length = _ + (if v = (MI2.at_ xs k).a1 then 1 else 0)
    rw [e, h.net v hv, if_pos (show k < xs.length from hk.lt)]
    show _ + FL.sg (MI3.at_ (pip xs) k) v (-1) = _
    rw [pip_at xs k hk.lt]
    have G := FL.okP_good hok (k := k) (by rw [pip_len]; exact hk.lt)
    rw [pip_at xs k hk.lt] at G
    have ne : (MI2.at_ xs k).a0 ≠ (MI2.at_ xs k).a1 := G.ne
    have ep := hk.is.1
    rw [sg_pip]
    rw [ep] at ne ⊢
    generalize (if v = f then (r : Int) else 0) = F
    by_cases c1 : v = s.pos
    · subst c1; rw [if_pos rfl, if_pos rfl, if_neg ne]; omega
    · rw [if_neg c1, if_neg (fun e => c1 e.symm)]
      by_cases c2 : v = (MI2.at_ xs k).a1
      · rw [if_pos c2.symm, if_pos c2]; omega
      · rw [if_neg (fun e => c2 e.symm), if_neg c2]; omega
/-- Behind i links. -/
structure AtW (xs : List I2) (f t : Int) (r : Nat) (fs : List Int) (i : Nat) (s : Wk) : Prop where
  is : wlk xs f t fs i = s
  go : Gone xs f t r s
  up : i + cntUp s.fs xs.length ≤ xs.length
  no : ∀ x ∈ s.way, ∃ k : Nat, x = (k : Int) ∧ k < xs.length ∧ (MI2.at_ xs k).a0 ≠ t
  len : s.way.length = i
theorem AtW.start {xs : List I2} {f t : Int} {r : Nat} {fs : List Int} (h : Gone xs f t r ⟨f, fs, []⟩) : AtW xs f t r fs 0 ⟨f, fs, []⟩ :=
  ⟨rfl, h, by have := cnt_le fs xs.length; simpa using this, fun x hx => (by cases hx), rfl⟩
theorem AtW.step {xs : List I2} {f t : Int} {r i k : Nat} {fs : List Int} {s : Wk} (hok : FL.okP (pip xs) = true) (h : AtW xs f t r fs i s) (hp : s.pos ≠ t) (hk : Fst xs s.fs s.pos k) : AtW xs f t r fs (i + 1) ⟨(MI2.at_ xs k).a1, s.fs.set k 0, s.way ++ [(k : Int)]⟩ ∧ cntUp (s.fs.set k 0) xs.length < cntUp s.fs xs.length := by
  have e : wstep xs s = ⟨(MI2.at_ xs k).a1, s.fs.set k 0, s.way ++ [(k : Int)]⟩ := by unfold wstep; rw [fk_is hk]
  have c := cnt_set (fs := s.fs) (k := k) (by rw [h.go.len]; exact hk.lt) hk.is.2 xs.length
  rw [if_pos hk.lt] at c
  have hu := h.up
  refine ⟨⟨by rw [wlk, h.is, if_neg hp, e], by rw [← e]; exact h.go.step hok hk, by show i + 1 + cntUp (s.fs.set k 0) xs.length ≤ _; omega, ?_, by simp [h.len]⟩, by omega⟩
  intro x hx
  have hx' : x ∈ s.way ++ [(k : Int)] := hx
  rcases List.mem_append.1 hx' with hx | hx
  · exact h.no x hx
  · rw [List.mem_singleton] at hx; exact ⟨k, hx, hk.lt, by rw [hk.is.1]; exact hp⟩
theorem wlk_stays {xs : List I2} {f t : Int} {fs : List Int} {i : Nat} (h : (wlk xs f t fs i).pos = t) : ∀ d, wlk xs f t fs (i + d) = wlk xs f t fs i
  | 0 => rfl
  | d + 1 => by rw [← Nat.add_assoc, wlk, wlk_stays h d, if_pos h]
noncomputable def fin (xs : List I2) (f t : Int) (fs : List Int) : Wk := wlk xs f t fs xs.length
theorem AtW.fin {xs : List I2} {f t : Int} {r i : Nat} {fs : List Int} {s : Wk} (h : AtW xs f t r fs i s) (hp : s.pos = t) : fin xs f t fs = s := by
  unfold LK.fin
  have hu := h.up
  rw [show xs.length = i + (xs.length - i) from by omega, wlk_stays (by rw [h.is]; exact hp), h.is]
theorem Gone.next {xs : List I2} {f t : Int} {r : Nat} {s : Wk} (h : Gone xs f t r s) (hp : s.pos = t) (hr : 1 ≤ r) : Gone xs f t (r - 1) ⟨f, s.fs, []⟩ := by
  refine ⟨h.len, h.one, fun v hv => ?_⟩
  rw [h.net v hv, hp, if_neg hv]
  show _ = _ + (if v = f then 1 else 0)
  by_cases e : v = f
  · rw [if_pos e, if_pos e, if_pos e]; all_goals omega
  · rw [if_neg e, if_neg e, if_neg e]; all_goals omega
/-- Each round goes as it closes. -/
def cutW (xs : List I2) (l : List Int) (u : Int) : List Int := l.takeWhile fun k => decide ((MI2.at_ xs k.toNat).a0 ≠ u)
def ers (xs : List I2) (w : List Int) : List Int := w.foldl (fun acc k => cutW xs (acc ++ [k]) (MI2.at_ xs k.toNat).a1) []
theorem ers_snoc (xs : List I2) (w : List Int) (k : Int) : ers xs (w ++ [k]) = cutW xs (ers xs w ++ [k]) (MI2.at_ xs k.toNat).a1 := by simp [ers]
/-- The last of a row that leaves a node, and what is behind it. -/
def lastOf (xs : List I2) (u : Int) : List Int → Option (Int × List Int)
  | [] => none
  | y :: w => match lastOf xs u w with
    | some r => some r
    | none => if (MI2.at_ xs y.toNat).a0 = u then some (y, w) else none
theorem lastOf_len {xs : List I2} {u : Int} : ∀ {w : List Int} {z : Int} {v : List Int}, lastOf xs u w = some (z, v) → v.length < w.length
  | y :: w, z, v, h => by
    rw [lastOf] at h
    split at h
    · rename_i r e
      cases h
      have := lastOf_len e
      simp; omega
    · split at h
      · cases h; simp
      · cases h
theorem lastOf_is {xs : List I2} {u : Int} : ∀ {w : List Int} {z : Int} {v : List Int}, lastOf xs u w = some (z, v) → (MI2.at_ xs z.toNat).a0 = u
  | y :: w, z, v, h => by
    rw [lastOf] at h
    split at h
    · rename_i r e; cases h; exact lastOf_is e
    · split at h
      · rename_i hy; cases h; exact hy
      · cases h
def strt (xs : List I2) (w : List Int) : List Int := match _h : lastOf xs (MI2.at_ xs (w.headD 0).toNat).a0 w with
  | none => []
  | some (z, v) => z :: strt xs v
termination_by w.length
decreasing_by exact lastOf_len _h
theorem lastOf_some (xs : List I2) (y : Int) (w : List Int) : ∃ z v, lastOf xs (MI2.at_ xs y.toNat).a0 (y :: w) = some (z, v) := by
  rw [lastOf]
  split
  · rename_i r e; exact ⟨r.1, r.2, rfl⟩
  · rw [if_pos rfl]; exact ⟨y, w, rfl⟩
theorem strt_nil (xs : List I2) : strt xs [] = [] := by rw [strt]; rfl
theorem strt_cons {xs : List I2} {y z : Int} {w v : List Int} (h : lastOf xs (MI2.at_ xs y.toNat).a0 (y :: w) = some (z, v)) : strt xs (y :: w) = z :: strt xs v := by
  rw [strt]
  split
  · rename_i e; simp only [List.headD_cons] at e; rw [h] at e; cases e
  · rename_i z' v' e; simp only [List.headD_cons] at e; rw [h] at e; cases e; rfl
theorem lastOf_snoc_eq {xs : List I2} {u : Int} {k : Int} (hk : (MI2.at_ xs k.toNat).a0 = u) : ∀ w : List Int, lastOf xs u (w ++ [k]) = some (k, [])
  | [] => by simp [lastOf, hk]
  | y :: w => by rw [List.cons_append, lastOf, lastOf_snoc_eq hk w]
theorem lastOf_snoc_ne {xs : List I2} {u : Int} {k : Int} (hk : (MI2.at_ xs k.toNat).a0 ≠ u) : ∀ w : List Int, lastOf xs u (w ++ [k]) = (lastOf xs u w).map fun r => (r.1, r.2 ++ [k])
  | [] => by simp [lastOf, hk]
  | y :: w => by
    rw [List.cons_append, lastOf, lastOf_snoc_ne hk w, lastOf]
    cases h : lastOf xs u w with
    | some r => simp
    | none => simp only [Option.map_none]; split <;> simp
theorem strt_snoc (xs : List I2) (k : Int) : ∀ (n : Nat) (w : List Int), w.length = n → strt xs (w ++ [k]) = cutW xs (strt xs w) (MI2.at_ xs k.toNat).a0 ++ [k] := by
  intro n
  induction n using Nat.strongRecOn with
  | ind n ih =>
    intro w hn
    cases w with
    | nil =>
      rw [List.nil_append, strt_cons (z := k) (v := []) (by simp [lastOf]), strt_nil, cutW]; rfl
    | cons y w =>
      obtain ⟨z, v, e⟩ := lastOf_some xs y w
      have hz := lastOf_is e
      have hv := lastOf_len e
      by_cases c : (MI2.at_ xs k.toNat).a0 = (MI2.at_ xs y.toNat).a0
      · rw [List.cons_append, strt_cons (z := k) (v := []) (by rw [← List.cons_append]; exact lastOf_snoc_eq c _), strt_nil, strt_cons e, cutW, List.takeWhile_cons, if_neg (by rw [hz, c]; simp)]
        rfl
      · rw [List.cons_append, strt_cons (z := z) (v := v ++ [k]) (by rw [← List.cons_append, lastOf_snoc_ne c, e]; rfl), strt_cons e, ih v.length (by omega) v rfl, cutW, cutW, List.takeWhile_cons, if_pos (by rw [hz]; simpa using fun h => c h.symm)]
        rfl
theorem cut_all {xs : List I2} {l : List Int} {u : Int} (h : ∀ x ∈ l, (MI2.at_ xs x.toNat).a0 ≠ u) : cutW xs l u = l := by
  induction l with
  | nil => rfl
  | cons y l ih =>
    have hy := h y (List.mem_cons_self ..)
    unfold cutW at ih ⊢
    rw [List.takeWhile_cons, if_pos (by simpa using hy), ih fun x hx => h x (List.mem_cons_of_mem _ hx)]
theorem strt_mem (xs : List I2) : ∀ (n : Nat) (w : List Int), w.length = n → ∀ x ∈ strt xs w, x ∈ w := by
  have key : ∀ (u : Int) (w : List Int) (z : Int) (v : List Int), lastOf xs u w = some (z, v) → z ∈ w ∧ ∀ x ∈ v, x ∈ w := by
    intro u w
    induction w with
    | nil => intro z v h; cases h
    | cons y w ih =>
      intro z v h
      rw [lastOf] at h
      split at h
      · rename_i r e
        cases h
        have := ih z v e
        exact ⟨List.mem_cons_of_mem _ this.1, fun x hx => List.mem_cons_of_mem _ (this.2 x hx)⟩
      · split at h
        · cases h; exact ⟨List.mem_cons_self .., fun x hx => List.mem_cons_of_mem _ hx⟩
        · cases h
  intro n
  induction n using Nat.strongRecOn with
  | ind n ih =>
    intro w hn x hx
    cases w with
    | nil => rw [strt_nil] at hx; cases hx
    | cons y w =>
      obtain ⟨z, v, e⟩ := lastOf_some xs y w
      rw [strt_cons e] at hx
      have k := key _ _ _ _ e
      have hv := lastOf_len e
      rcases List.mem_cons.1 hx with rfl | hx
      · exact k.1
      · exact k.2 x (ih v.length (by omega) v rfl x hx)
/-- The links lead on: the row ends at u. -/
theorem ers_is {xs : List I2} {f t : Int} {fs : List Int} : ∀ i, ers xs (wlk xs f t fs i).way = cutW xs (strt xs (wlk xs f t fs i).way) (wlk xs f t fs i).pos ∨ ∃ j, j ≤ i ∧ (wlk xs f t fs j).pos ≠ t ∧ ¬ ∃ k, Fst xs (wlk xs f t fs j).fs (wlk xs f t fs j).pos k := by
  intro i
  induction i with
  | zero => left; show ers xs [] = cutW xs (strt xs []) f; rw [strt_nil]; rfl
  | succ i ih =>
    rcases ih with ih | ⟨j, hj, h⟩
    · rw [wlk]
      by_cases c : (wlk xs f t fs i).pos = t
      · rw [if_pos c]; exact .inl ih
      · by_cases e : ∃ k, Fst xs (wlk xs f t fs i).fs (wlk xs f t fs i).pos k
        · left
          rw [if_neg c]
          obtain ⟨k, hk⟩ := e
          unfold wstep
          rw [fk_is hk]
          show ers xs ((wlk xs f t fs i).way ++ [(k : Int)]) = cutW xs (strt xs ((wlk xs f t fs i).way ++ [(k : Int)])) (MI2.at_ xs k).a1
          rw [ers_snoc, strt_snoc xs k _ _ rfl, ih, show ((k : Nat) : Int).toNat = k from by omega, hk.is.1]
        · exact .inr ⟨i, by omega, c, e⟩
    · exact .inr ⟨j, by omega, h⟩
theorem AtW.ers {xs : List I2} {f t : Int} {r i : Nat} {fs : List Int} {s : Wk} (hg : ∀ j, j ≤ i → (wlk xs f t fs j).pos ≠ t → ∃ k, Fst xs (wlk xs f t fs j).fs (wlk xs f t fs j).pos k) (h : AtW xs f t r fs i s) (hp : s.pos = t) : ers xs s.way = strt xs s.way := by
  rcases ers_is (xs := xs) (f := f) (t := t) (fs := fs) i with e | ⟨j, hj, h1, h2⟩
  · rw [h.is] at e
    rw [e]
    refine cut_all fun x hx => ?_
    obtain ⟨k, rfl, _, h3⟩ := h.no x (strt_mem xs _ _ rfl x hx)
    rw [hp]; simpa using h3
  · exact absurd (hg j hj h1) h2
theorem wlk_gone {xs : List I2} {f t : Int} {r : Nat} {fs : List Int} (hok : FL.okP (pip xs) = true) (h : Gone xs f t r ⟨f, fs, []⟩) : ∀ i, Gone xs f t r (wlk xs f t fs i)
  | 0 => h
  | i + 1 => by
    have g := wlk_gone hok h i
    rw [wlk]
    by_cases c : (wlk xs f t fs i).pos = t
    · rw [if_pos c]; exact g
    · rw [if_neg c]
      obtain ⟨k, hk⟩ := g.some c
      exact g.step hok hk
theorem AtW.same {xs : List I2} {f t : Int} {r i : Nat} {fs : List Int} {s : Wk} (hok : FL.okP (pip xs) = true) (h0 : Gone xs f t r ⟨f, fs, []⟩) (h : AtW xs f t r fs i s) (hp : s.pos = t) : LK.ers xs s.way = strt xs s.way :=
  h.ers (fun j _ hj => (wlk_gone hok h0 j).some hj) hp
/-- The ways, one after another, and the flow that is left. -/
noncomputable def waysUp (xs : List I2) (f t : Int) (fs : List Int) : Nat → List (List Int) × List Int
  | 0 => ([], fs)
  | i + 1 => ((waysUp xs f t fs i).1 ++ [strt xs (fin xs f t (waysUp xs f t fs i).2).way], (fin xs f t (waysUp xs f t fs i).2).fs)
theorem ways_len (xs : List I2) (f t : Int) (fs : List Int) : ∀ i, (waysUp xs f t fs i).1.length = i
  | 0 => rfl
  | i + 1 => by rw [waysUp, List.length_append, ways_len xs f t fs i]; rfl
end LK
end Go.Proofs.Ytpabhjnpbnabiaa
