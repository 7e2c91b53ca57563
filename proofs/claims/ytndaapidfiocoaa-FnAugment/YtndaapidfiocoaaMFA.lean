import Derived.Test.YtndaapidfiocoaaMLK
import Derived.Test.YtndaapidfiocoaaM4
import Derived.Test.YtndaapidfiocoaaMEG
import Derived.Test.YtndaapidfiocoaaCCutSize
/- Ways along a flow, and what goes round left out: plain facts, over whatever program. -/
namespace Go.Proofs.Ytndaapidfiocoaa
namespace FL
/-- What is put on a row makes more at its ends alone. -/
theorem outUp_rowN {xs : List I3} {fs : List Int} {f : Int} {s : St} (hok : okP xs = true) (hl : fs.length = xs.length) (more : Int) (h : Tree xs fs f s) (v : Int) (n : Nat) : ∀ m : Nat, m < 8 → s.by_.getD m 0 ≠ -1 → (s.L m).length = n → outUp xs (putL more fs (s.L m)) v xs.length = outUp xs fs v xs.length + (if v = f then more else 0) - (if v = (m : Int) then more else 0) := by
  induction n with
  | zero =>
    intro m hm hr hn
    by_cases e : (m : Int) = f
    · rw [List.length_eq_zero_iff.1 hn, e]; simp [putL]
    · exact absurd (List.length_eq_zero_iff.1 hn) (h.nonnil hm hr e)
  | succ n ih =>
    intro m hm hr hn
    by_cases e : (m : Int) = f
    · rw [show m = f.toNat from by omega, h.nil] at hn; cases hn
    · obtain ⟨k, p, hk, hp, _, hp2, hnx, h0, hL⟩ := h.via m hm hr e
      rw [hL] at hn ⊢
      simp only [List.length_append, List.length_cons, List.length_nil] at hn
      rw [putL_snoc, outUp_put _ _ _ _ _ (by rw [putL_len, hl]; exact hk), ih p hp hp2 (by omega), if_pos (show (stp xs fs (p : Int) k).k < xs.length from hk)]
      have hd : dl more (stp xs fs (p : Int) k) = if bk (MI3.at_ xs k) (p : Int) = true then -more else more := rfl
      have hat : MI3.at_ xs (stp xs fs (p : Int) k).k = MI3.at_ xs k := rfl
      rw [hd, hat]
      have G := okP_good hok hk
      have ne := G.ne
      unfold sg
      generalize (if v = f then more else 0) = F
      rcases rm_pos h0 with ⟨a, _, b, d⟩ | ⟨a, b, _, c, d⟩
      · rw [d]
        rw [b] at hnx
        rw [a, hnx] at ne
        rw [a, hnx]
        simp only [Bool.false_eq_true, if_false]
        by_cases e1 : v = (p : Int)
        · subst e1
          rw [if_pos rfl, if_pos rfl, if_neg ne]; omega
        · rw [if_neg e1, if_neg (fun e => e1 e.symm)]
          by_cases e2 : v = (m : Int)
          · subst e2; rw [if_pos rfl, if_pos rfl]; omega
          · rw [if_neg (fun e => e2 e.symm), if_neg e2]; omega
      · rw [d]
        rw [c] at hnx
        rw [b, hnx] at ne
        rw [b, hnx]
        simp only [if_true]
        by_cases e1 : v = (p : Int)
        · subst e1
          rw [if_pos rfl, if_pos rfl, if_neg ne, if_neg (fun e => ne e.symm)]; omega
        · rw [if_neg e1]
          by_cases e2 : v = (m : Int)
          · subst e2; rw [if_pos rfl, if_pos rfl]; omega
          · rw [if_neg (fun e => e2 e.symm), if_neg e2, if_neg (fun e => e1 e.symm)]; omega
theorem outUp_zero (xs : List I3) (v : Int) (n : Nat) : ∀ k, outUp xs (List.replicate n 0) v k = 0
  | 0 => rfl
  | k + 1 => by
    rw [outUp, outUp_zero xs v n k]
    have h0 : (List.replicate n (0 : Int)).getD k 0 = 0 := by
      rw [List.getD_eq_getElem?_getD, List.getElem?_replicate]; split <;> rfl
    rw [h0]; unfold sg; split
    · rfl
    · split <;> rfl
theorem flowAt_calm {xs : List I3} {f t : Int} (A : Ask xs f t) (i : Nat) : (∀ v, v ≠ f → v ≠ t → outUp xs (flowAt xs f t i) v xs.length = 0) ∧ 0 ≤ outUp xs (flowAt xs f t i) f xs.length := by
  induction i with
  | zero => exact ⟨fun v _ _ => outUp_zero _ _ _ _, by rw [flowAt, outUp_zero]; omega⟩
  | succ i ih =>
    have o := flowAt_ok A i
    rw [flowAt]; unfold augL
    by_cases h : reach xs (flowAt xs f t i) f t = true
    · rw [if_pos h]
      have R := row_of A o.2 h
      have t0 := A.t0; have t7 := A.t7; have ne := A.ne; have rp := R.pos
      have key := fun v => outUp_rowN A.ok o.1 (mostOf (rowL xs (flowAt xs f t i) f t)) R.tree v _ t.toNat (by omega) R.is rfl
      refine ⟨fun v hf ht => ?_, ?_⟩
      · have := key v
        rw [if_neg hf, if_neg (by omega), ih.1 v hf ht] at this
        exact this.trans (by omega)
      · have := key f
        rw [if_pos rfl, if_neg (by omega)] at this
        have h2 := ih.2
        exact Int.le_trans (by omega) (Int.le_of_eq this.symm)
    · rw [if_neg h]; exact ih
theorem maxF_calm {xs : List I3} {f t : Int} (A : Ask xs f t) : (∀ v, v ≠ f → v ≠ t → outUp xs (maxF xs f t) v xs.length = 0) ∧ 0 ≤ outUp xs (maxF xs f t) f xs.length := flowAt_calm A 2000
end FL
namespace LK
open Go.RowKit
theorem sg_pip (x : I2) (n v : Int) : FL.sg (pip1 x) n v = if x.a0 = n then v else if x.a1 = n then -v else 0 := rfl
/-- A link that leaves a node and has flow. -/
def hit (xs : List I2) (fs : List Int) (u : Int) (k : Nat) : Prop := (MI2.at_ xs k).a0 = u ∧ fs.getD k 0 ≠ 0
structure Fst (xs : List I2) (fs : List Int) (u : Int) (k : Nat) : Prop where
  lt : k < xs.length
  is : hit xs fs u k
  no : ∀ j, j < k → ¬ hit xs fs u j
theorem Fst.same {xs : List I2} {fs : List Int} {u : Int} {k k' : Nat} (h : Fst xs fs u k) (h' : Fst xs fs u k') : k = k' := by
  by_cases a : k < k'
  · exact absurd h.is (h'.no k a)
  · by_cases b : k' < k
    · exact absurd h'.is (h.no k' b)
    · omega
theorem fst_of {xs : List I2} {fs : List Int} {u : Int} : ∀ k, k < xs.length → hit xs fs u k → ∃ k0, Fst xs fs u k0 := by
  intro k
  induction k using Nat.strongRecOn with
  | ind k ih =>
    intro hk h
    by_cases e : ∃ j, j < k ∧ hit xs fs u j
    · obtain ⟨j, hj, h2⟩ := e; exact ih j hj (by omega) h2
    · exact ⟨k, hk, h, fun j hj h2 => e ⟨j, hj, h2⟩⟩
open Classical in
noncomputable def fk (xs : List I2) (fs : List Int) (u : Int) : Nat := if h : ∃ k, Fst xs fs u k then h.choose else 0
theorem fk_is {xs : List I2} {fs : List Int} {u : Int} {k : Nat} (h : Fst xs fs u k) : fk xs fs u = k := by
  have e : ∃ k, Fst xs fs u k := ⟨k, h⟩
  unfold fk; rw [dif_pos e]; exact e.choose_spec.same h
/-- Where one is, the flow that is left, the links gone along. -/
structure Wk where
  pos : Int
  fs : List Int
  way : List Int
noncomputable def wstep (xs : List I2) (s : Wk) : Wk := ⟨(MI2.at_ xs (fk xs s.fs s.pos)).a1, s.fs.set (fk xs s.fs s.pos) 0, s.way ++ [((fk xs s.fs s.pos : Nat) : Int)]⟩
noncomputable def wlk (xs : List I2) (f t : Int) (fs : List Int) : Nat → Wk
  | 0 => ⟨f, fs, []⟩
  | i + 1 => if (wlk xs f t fs i).pos = t then wlk xs f t fs i else wstep xs (wlk xs f t fs i)
def cntUp (fs : List Int) : Nat → Nat
  | 0 => 0
  | k + 1 => cntUp fs k + (if fs.getD k 0 ≠ 0 then 1 else 0)
theorem cnt_le (fs : List Int) : ∀ k, cntUp fs k ≤ k
  | 0 => Nat.le_refl _
  | k + 1 => by have := cnt_le fs k; rw [cntUp]; split <;> omega
theorem cnt_set {fs : List Int} {k : Nat} (hk : k < fs.length) (h : fs.getD k 0 ≠ 0) : ∀ m, cntUp (fs.set k 0) m + (if k < m then 1 else 0) = cntUp fs m
  | 0 => rfl
  | m + 1 => by
    have ih := cnt_set hk h m
    rw [cntUp, cntUp, FL.getD_set _ _ _ _ _ hk]
    by_cases e : k = m
    · subst e
      rw [if_pos rfl, if_neg (by omega), if_pos (by omega), if_pos h]
      rw [if_neg (by omega)] at ih
      omega
    · rw [if_neg e]
      by_cases c : k < m
      · rw [if_pos c] at ih; rw [if_pos (by omega : k < m + 1)]; omega
      · rw [if_neg c] at ih; rw [if_neg (by omega : ¬ k < m + 1)]; omega
/-- A flow of as many ways as are still to be gone, one of them begun. -/
structure Gone (xs : List I2) (f t : Int) (r : Nat) (s : Wk) : Prop where
  len : s.fs.length = xs.length
  one : ∀ k, k < xs.length → s.fs.getD k 0 = 0 ∨ s.fs.getD k 0 = 1
  net : ∀ v, v ≠ t → FL.outUp (pip xs) s.fs v xs.length = (if v = f then (r : Int) else 0) + (if v = s.pos then 1 else 0)
theorem out_neg {xs : List I2} {fs : List Int} {u : Int} (hl : fs.length = xs.length) (h1 : ∀ k, k < xs.length → fs.getD k 0 = 0 ∨ fs.getD k 0 = 1) (h : ∀ k, k < xs.length → ¬ hit xs fs u k) : ∀ m, m ≤ xs.length → FL.outUp (pip xs) fs u m ≤ 0
  | 0, _ => by simp [FL.outUp]
  | m + 1, hm => by
    have ih := out_neg hl h1 h m (by omega)
    have hh := h m (by omega)
    have h2 := h1 m (by omega)
    rw [FL.outUp, pip_at xs m (by omega), sg_pip]
    by_cases e : (MI2.at_ xs m).a0 = u
    · rw [if_pos e]
      have : fs.getD m 0 = 0 := by
        by_cases z : fs.getD m 0 = 0
        · exact z
        · exact absurd ⟨e, z⟩ hh
      omega
    · rw [if_neg e]; split <;> omega
theorem Gone.some {xs : List I2} {f t : Int} {r : Nat} {s : Wk} (h : Gone xs f t r s) (hp : s.pos ≠ t) : ∃ k, Fst xs s.fs s.pos k := by
  by_cases e : ∃ k, k < xs.length ∧ hit xs s.fs s.pos k
  · obtain ⟨k, hk, h2⟩ := e; exact fst_of k hk h2
  · have := out_neg (u := s.pos) h.len h.one (fun k hk h2 => e ⟨k, hk, h2⟩) xs.length (Nat.le_refl _)
    rw [h.net s.pos hp, if_pos rfl] at this
    split at this <;> omega
theorem Gone.step {xs : List I2} {f t : Int} {r : Nat} {s : Wk} (hok : FL.okP (pip xs) = true) (h : Gone xs f t r s) {k : Nat} (hk : Fst xs s.fs s.pos k) : Gone xs f t r (wstep xs s) := by
  have hlk : k < s.fs.length := by rw [h.len]; exact hk.lt
  have h1 : s.fs.getD k 0 = 1 := (h.one k hk.lt).elim (fun e => absurd e hk.is.2) id
  unfold wstep
  rw [fk_is hk]
  refine ⟨by rw [List.length_set]; exact h.len, fun j hj => ?_, fun v hv => ?_⟩
  · show (s.fs.set k 0).getD j 0 = 0 ∨ _
    rw [FL.getD_set _ _ _ _ _ hlk]
    by_cases e : k = j
    · rw [if_pos e]; exact .inl rfl
    · rw [if_neg e]; exact h.one j hj
  · have e := FL.outUp_put (pip xs) s.fs v 1 ⟨k, true, 0, 0⟩ hlk xs.length
    have e1 : FL.put1 1 s.fs ⟨k, true, 0, 0⟩ = s.fs.set k 0 := by
      show s.fs.set k (s.fs.getD k 0 + -1) = _
      rw [h1]; rfl
    rw [e1] at e
    show FL.outUp (pip xs) (s.fs.set k 0) v xs.length = _ + (if v = (MI2.at_ xs k).a1 then 1 else 0)
    rw [e, h.net v hv, if_pos (show k < xs.length from hk.lt)]
    show _ + FL.sg (MI3.at_ (pip xs) k) v (-1) = _
    rw [pip_at xs k hk.lt]
    have G := FL.okP_good hok (k := k) (by rw [pip_len]; exact hk.lt)
    rw [pip_at xs k hk.lt] at G
    have ne : (MI2.at_ xs k).a0 ≠ (MI2.at_ xs k).a1 := G.ne
    have ep := hk.is.1
    rw [sg_pip]
    rw [ep] at ne ⊢
    generalize (if v = f then (r : Int) else 0) = F
    by_cases c1 : v = s.pos
    · subst c1; rw [if_pos rfl, if_pos rfl, if_neg ne]; omega
    · rw [if_neg c1, if_neg (fun e => c1 e.symm)]
      by_cases c2 : v = (MI2.at_ xs k).a1
      · rw [if_pos c2.symm, if_pos c2]; omega
      · rw [if_neg (fun e => c2 e.symm), if_neg c2]; omega
/-- Behind i links. -/
structure AtW (xs : List I2) (f t : Int) (r : Nat) (fs : List Int) (i : Nat) (s : Wk) : Prop where
  is : wlk xs f t fs i = s
  go : Gone xs f t r s
  up : i + cntUp s.fs xs.length ≤ xs.length
  no : ∀ x ∈ s.way, ∃ k : Nat, x = (k : Int) ∧ k < xs.length ∧ (MI2.at_ xs k).a0 ≠ t
  len : s.way.length = i
theorem AtW.start {xs : List I2} {f t : Int} {r : Nat} {fs : List Int} (h : Gone xs f t r ⟨f, fs, []⟩) : AtW xs f t r fs 0 ⟨f, fs, []⟩ :=
  ⟨rfl, h, by have := cnt_le fs xs.length; simpa using this, fun x hx => (by cases hx), rfl⟩
theorem AtW.step {xs : List I2} {f t : Int} {r i k : Nat} {fs : List Int} {s : Wk} (hok : FL.okP (pip xs) = true) (h : AtW xs f t r fs i s) (hp : s.pos ≠ t) (hk : Fst xs s.fs s.pos k) : AtW xs f t r fs (i + 1) ⟨(MI2.at_ xs k).a1, s.fs.set k 0, s.way ++ [(k : Int)]⟩ ∧ cntUp (s.fs.set k 0) xs.length < cntUp s.fs xs.length := by
  have e : wstep xs s = ⟨(MI2.at_ xs k).a1, s.fs.set k 0, s.way ++ [(k : Int)]⟩ := by unfold wstep; rw [fk_is hk]
  have c := cnt_set (fs := s.fs) (k := k) (by rw [h.go.len]; exact hk.lt) hk.is.2 xs.length
  rw [if_pos hk.lt] at c
  have hu := h.up
  refine ⟨⟨by rw [wlk, h.is, if_neg hp, e], by rw [← e]; exact h.go.step hok hk, by show i + 1 + cntUp (s.fs.set k 0) xs.length ≤ _; omega, ?_, by simp [h.len]⟩, by omega⟩
  intro x hx
  have hx' : x ∈ s.way ++ [(k : Int)] := hx
  rcases List.mem_append.1 hx' with hx | hx
  · exact h.no x hx
  · rw [List.mem_singleton] at hx; exact ⟨k, hx, hk.lt, by rw [hk.is.1]; exact hp⟩
theorem wlk_stays {xs : List I2} {f t : Int} {fs : List Int} {i : Nat} (h : (wlk xs f t fs i).pos = t) : ∀ d, wlk xs f t fs (i + d) = wlk xs f t fs i
  | 0 => rfl
  | d + 1 => by rw [← Nat.add_assoc, wlk, wlk_stays h d, if_pos h]
noncomputable def fin (xs : List I2) (f t : Int) (fs : List Int) : Wk := wlk xs f t fs xs.length
theorem AtW.fin {xs : List I2} {f t : Int} {r i : Nat} {fs : List Int} {s : Wk} (h : AtW xs f t r fs i s) (hp : s.pos = t) : fin xs f t fs = s := by
  unfold LK.fin
  have hu := h.up
  rw [show xs.length = i + (xs.length - i) from by omega, wlk_stays (by rw [h.is]; exact hp), h.is]
theorem Gone.next {xs : List I2} {f t : Int} {r : Nat} {s : Wk} (h : Gone xs f t r s) (hp : s.pos = t) (hr : 1 ≤ r) : Gone xs f t (r - 1) ⟨f, s.fs, []⟩ := by
  refine ⟨h.len, h.one, fun v hv => ?_⟩
  rw [h.net v hv, hp, if_neg hv]
  show _ = _ + (if v = f then 1 else 0)
  by_cases e : v = f
  · rw [if_pos e, if_pos e, if_pos e]; all_goals omega
  · rw [if_neg e, if_neg e, if_neg e]; all_goals omega
/-- Each round goes as it closes. -/
def cutW (xs : List I2) (l : List Int) (u : Int) : List Int := l.takeWhile fun k => decide ((MI2.at_ xs k.toNat).a0 ≠ u)
def ers (xs : List I2) (w : List Int) : List Int := w.foldl (fun acc k => cutW xs (acc ++ [k]) (MI2.at_ xs k.toNat).a1) []
theorem ers_snoc (xs : List I2) (w : List Int) (k : Int) : ers xs (w ++ [k]) = cutW xs (ers xs w ++ [k]) (MI2.at_ xs k.toNat).a1 := by simp [ers]
/-- The last of a row that leaves a node, and what is behind it. -/
def lastOf (xs : List I2) (u : Int) : List Int → Option (Int × List Int)
  | [] => none
  | y :: w => match lastOf xs u w with
    | some r => some r
    | none => if (MI2.at_ xs y.toNat).a0 = u then some (y, w) else none
theorem lastOf_len {xs : List I2} {u : Int} : ∀ {w : List Int} {z : Int} {v : List Int}, lastOf xs u w = some (z, v) → v.length < w.length
  | y :: w, z, v, h => by
    rw [lastOf] at h
    split at h
    · rename_i r e
      cases h
      have := lastOf_len e
      simp; omega
    · split at h
      · cases h; simp
      · cases h
theorem lastOf_is {xs : List I2} {u : Int} : ∀ {w : List Int} {z : Int} {v : List Int}, lastOf xs u w = some (z, v) → (MI2.at_ xs z.toNat).a0 = u
  | y :: w, z, v, h => by
    rw [lastOf] at h
    split at h
    · rename_i r e; cases h; exact lastOf_is e
    · split at h
      · rename_i hy; cases h; exact hy
      · cases h
def strt (xs : List I2) (w : List Int) : List Int := match _h : lastOf xs (MI2.at_ xs (w.headD 0).toNat).a0 w with
  | none => []
  | some (z, v) => z :: strt xs v
termination_by w.length
decreasing_by exact lastOf_len _h
theorem lastOf_some (xs : List I2) (y : Int) (w : List Int) : ∃ z v, lastOf xs (MI2.at_ xs y.toNat).a0 (y :: w) = some (z, v) := by
  rw [lastOf]
  split
  · rename_i r e; exact ⟨r.1, r.2, rfl⟩
  · rw [if_pos rfl]; exact ⟨y, w, rfl⟩
theorem strt_nil (xs : List I2) : strt xs [] = [] := by rw [strt]; rfl
theorem strt_cons {xs : List I2} {y z : Int} {w v : List Int} (h : lastOf xs (MI2.at_ xs y.toNat).a0 (y :: w) = some (z, v)) : strt xs (y :: w) = z :: strt xs v := by
  rw [strt]
  split
  · rename_i e; simp only [List.headD_cons] at e; rw [h] at e; cases e
  · rename_i z' v' e; simp only [List.headD_cons] at e; rw [h] at e; cases e; rfl
theorem lastOf_snoc_eq {xs : List I2} {u : Int} {k : Int} (hk : (MI2.at_ xs k.toNat).a0 = u) : ∀ w : List Int, lastOf xs u (w ++ [k]) = some (k, [])
  | [] => by simp [lastOf, hk]
  | y :: w => by rw [List.cons_append, lastOf, lastOf_snoc_eq hk w]
theorem lastOf_snoc_ne {xs : List I2} {u : Int} {k : Int} (hk : (MI2.at_ xs k.toNat).a0 ≠ u) : ∀ w : List Int, lastOf xs u (w ++ [k]) = (lastOf xs u w).map fun r => (r.1, r.2 ++ [k])
  | [] => by simp [lastOf, hk]
  | y :: w => by
    rw [List.cons_append, lastOf, lastOf_snoc_ne hk w, lastOf]
    cases h : lastOf xs u w with
    | some r => simp
    | none => simp only [Option.map_none]; split <;> simp
theorem strt_snoc (xs : List I2) (k : Int) : ∀ (n : Nat) (w : List Int), w.length = n → strt xs (w ++ [k]) = cutW xs (strt xs w) (MI2.at_ xs k.toNat).a0 ++ [k] := by
  intro n
  induction n using Nat.strongRecOn with
  | ind n ih =>
    intro w hn
    cases w with
    | nil =>
      rw [List.nil_append, strt_cons (z := k) (v := []) (by simp [lastOf]), strt_nil, cutW]; rfl
    | cons y w =>
      obtain ⟨z, v, e⟩ := lastOf_some xs y w
      have hz := lastOf_is e
      have hv := lastOf_len e
      by_cases c : (MI2.at_ xs k.toNat).a0 = (MI2.at_ xs y.toNat).a0
      · rw [List.cons_append, strt_cons (z := k) (v := []) (by rw [← List.cons_append]; exact lastOf_snoc_eq c _), strt_nil, strt_cons e, cutW, List.takeWhile_cons, if_neg (by rw [hz, c]; simp)]
        rfl
      · rw [List.cons_append, strt_cons (z := z) (v := v ++ [k]) (by rw [← List.cons_append, lastOf_snoc_ne c, e]; rfl), strt_cons e, ih v.length (by omega) v rfl, cutW, cutW, List.takeWhile_cons, if_pos (by rw [hz]; simpa using fun h => c h.symm)]
        rfl
theorem cut_all {xs : List I2} {l : List Int} {u : Int} (h : ∀ x ∈ l, (MI2.at_ xs x.toNat).a0 ≠ u) : cutW xs l u = l := by
  induction l with
  | nil => rfl
  | cons y l ih =>
    have hy := h y (List.mem_cons_self ..)
    unfold cutW at ih ⊢
    rw [List.takeWhile_cons, if_pos (by simpa using hy), ih fun x hx => h x (List.mem_cons_of_mem _ hx)]
theorem strt_mem (xs : List I2) : ∀ (n : Nat) (w : List Int), w.length = n → ∀ x ∈ strt xs w, x ∈ w := by
  have key : ∀ (u : Int) (w : List Int) (z : Int) (v : List Int), lastOf xs u w = some (z, v) → z ∈ w ∧ ∀ x ∈ v, x ∈ w := by
    intro u w
    induction w with
    | nil => intro z v h; cases h
    | cons y w ih =>
      intro z v h
      rw [lastOf] at h
      split at h
      · rename_i r e
        cases h
        have := ih z v e
        exact ⟨List.mem_cons_of_mem _ this.1, fun x hx => List.mem_cons_of_mem _ (this.2 x hx)⟩
      · split at h
        · cases h; exact ⟨List.mem_cons_self .., fun x hx => List.mem_cons_of_mem _ hx⟩
        · cases h
  intro n
  induction n using Nat.strongRecOn with
  | ind n ih =>
    intro w hn x hx
    cases w with
    | nil => rw [strt_nil] at hx; cases hx
    | cons y w =>
      obtain ⟨z, v, e⟩ := lastOf_some xs y w
      rw [strt_cons e] at hx
      have k := key _ _ _ _ e
      have hv := lastOf_len e
      rcases List.mem_cons.1 hx with rfl | hx
      · exact k.1
      · exact k.2 x (ih v.length (by omega) v rfl x hx)
/-- The links lead on: the row ends at u. -/
theorem ers_is {xs : List I2} {f t : Int} {fs : List Int} : ∀ i, ers xs (wlk xs f t fs i).way = cutW xs (strt xs (wlk xs f t fs i).way) (wlk xs f t fs i).pos ∨ ∃ j, j ≤ i ∧ (wlk xs f t fs j).pos ≠ t ∧ ¬ ∃ k, Fst xs (wlk xs f t fs j).fs (wlk xs f t fs j).pos k := by
  intro i
  induction i with
  | zero => left; show ers xs [] = cutW xs (strt xs []) f; rw [strt_nil]; rfl
  | succ i ih =>
    rcases ih with ih | ⟨j, hj, h⟩
    · rw [wlk]
      by_cases c : (wlk xs f t fs i).pos = t
      · rw [if_pos c]; exact .inl ih
      · by_cases e : ∃ k, Fst xs (wlk xs f t fs i).fs (wlk xs f t fs i).pos k
        · left
          rw [if_neg c]
          obtain ⟨k, hk⟩ := e
          unfold wstep
          rw [fk_is hk]
          show ers xs ((wlk xs f t fs i).way ++ [(k : Int)]) = cutW xs (strt xs ((wlk xs f t fs i).way ++ [(k : Int)])) (MI2.at_ xs k).a1
          rw [ers_snoc, strt_snoc xs k _ _ rfl, ih, show ((k : Nat) : Int).toNat = k from by omega, hk.is.1]
        · exact .inr ⟨i, by omega, c, e⟩
    · exact .inr ⟨j, by omega, h⟩
theorem AtW.ers {xs : List I2} {f t : Int} {r i : Nat} {fs : List Int} {s : Wk} (hg : ∀ j, j ≤ i → (wlk xs f t fs j).pos ≠ t → ∃ k, Fst xs (wlk xs f t fs j).fs (wlk xs f t fs j).pos k) (h : AtW xs f t r fs i s) (hp : s.pos = t) : ers xs s.way = strt xs s.way := by
  rcases ers_is (xs := xs) (f := f) (t := t) (fs := fs) i with e | ⟨j, hj, h1, h2⟩
  · rw [h.is] at e
    rw [e]
    refine cut_all fun x hx => ?_
    obtain ⟨k, rfl, _, h3⟩ := h.no x (strt_mem xs _ _ rfl x hx)
    rw [hp]; simpa using h3
  · exact absurd (hg j hj h1) h2
theorem wlk_gone {xs : List I2} {f t : Int} {r : Nat} {fs : List Int} (hok : FL.okP (pip xs) = true) (h : Gone xs f t r ⟨f, fs, []⟩) : ∀ i, Gone xs f t r (wlk xs f t fs i)
  | 0 => h
  | i + 1 => by
    have g := wlk_gone hok h i
    rw [wlk]
    by_cases c : (wlk xs f t fs i).pos = t
    · rw [if_pos c]; exact g
    · rw [if_neg c]
      obtain ⟨k, hk⟩ := g.some c
      exact g.step hok hk
theorem AtW.same {xs : List I2} {f t : Int} {r i : Nat} {fs : List Int} {s : Wk} (hok : FL.okP (pip xs) = true) (h0 : Gone xs f t r ⟨f, fs, []⟩) (h : AtW xs f t r fs i s) (hp : s.pos = t) : LK.ers xs s.way = strt xs s.way :=
  h.ers (fun j _ hj => (wlk_gone hok h0 j).some hj) hp
/-- The ways, one after another, and the flow that is left. -/
noncomputable def waysUp (xs : List I2) (f t : Int) (fs : List Int) : Nat → List (List Int) × List Int
  | 0 => ([], fs)
  | i + 1 => ((waysUp xs f t fs i).1 ++ [strt xs (fin xs f t (waysUp xs f t fs i).2).way], (fin xs f t (waysUp xs f t fs i).2).fs)
theorem ways_len (xs : List I2) (f t : Int) (fs : List Int) : ∀ i, (waysUp xs f t fs i).1.length = i
  | 0 => rfl
  | i + 1 => by rw [waysUp, List.length_append, ways_len xs f t fs i]; rfl
end LK
end Go.Proofs.Ytndaapidfiocoaa

/- A number put to its place in a rising row: plain facts. -/
namespace Go.Proofs.Ytndaapidfiocoaa
namespace EG
/-- Put to its place. -/
def putS : List Int → Int → List Int
  | [], n => [n]
  | x :: l, n => if x < n then x :: putS l n else n :: x :: l
theorem putS_perm : ∀ (l : List Int) (n : Int), (putS l n).Perm (l ++ [n])
  | [], n => List.Perm.refl _
  | x :: l, n => by
    rw [putS]; split
    · exact (putS_perm l n).cons x
    · exact (List.perm_append_comm (l₁ := [n]) (l₂ := x :: l))
theorem putS_sorted : ∀ (l : List Int) (n : Int), l.Pairwise (· ≤ ·) → (putS l n).Pairwise (· ≤ ·)
  | [], n, _ => by simp [putS]
  | x :: l, n, h => by
    rw [List.pairwise_cons] at h
    rw [putS]; split
    · rename_i hx
      rw [List.pairwise_cons]
      refine ⟨fun y hy => ?_, putS_sorted l n h.2⟩
      have := (putS_perm l n).mem_iff.1 hy
      rcases List.mem_append.1 this with hy | hy
      · exact h.1 y hy
      · rw [List.mem_singleton.1 hy]; omega
    · rename_i hx
      rw [List.pairwise_cons, List.pairwise_cons]
      refine ⟨fun y hy => ?_, h.1, h.2⟩
      rcases List.mem_cons.1 hy with rfl | hy
      · omega
      · have := h.1 y hy; omega
theorem putS_at : ∀ (l : List Int) (n : Int) (k : Nat), k ≤ l.length → (∀ j, j < k → l.getD j 0 < n) → (k < l.length → n ≤ l.getD k 0) → putS l n = l.take k ++ n :: l.drop k
  | [], n, k, hk, h1, h2 => by simp [putS]
  | x :: l, n, 0, hk, h1, h2 => by
    have := h2 (by simp)
    rw [putS, if_neg (by simpa using this)]; rfl
  | x :: l, n, k + 1, hk, h1, h2 => by
    have h0 : x < n := by simpa using h1 0 (by omega)
    rw [putS, if_pos h0, putS_at l n k (by simpa using hk) (fun j hj => by simpa using h1 (j + 1) (by omega)) (fun hj => by simpa using h2 (by simpa using hj))]
    rfl
end EG
end Go.Proofs.Ytndaapidfiocoaa

/- Who is reached by links, some of them left out: plain facts, over whatever program. -/
namespace Go.Proofs.Ytndaapidfiocoaa
namespace FL
/-- What the search leaves: whoever is reached was in the row of nodes, and the first i of that row were gone from by each pipe. -/
structure Cl (xs : List I3) (fs : List Int) (s : St) (i : Nat) : Prop where
  full : ∀ m : Nat, m < 8 → s.by_.getD m 0 ≠ -1 → ∃ j, j < s.q.length ∧ s.q.getD j 0 = (m : Int)
  done : ∀ j, j < i → j < s.q.length → ∀ k, k < xs.length → 0 < rm (MI3.at_ xs k) (fs.getD k 0) (s.q.getD j 0) → s.by_.getD (nxt xs (s.q.getD j 0) k) 0 ≠ -1
theorem full_step {xs : List I3} {fs : List Int} {f : Int} {s : St} (hok : okP xs = true) (T : Tree xs fs f s) {n : Int} {k : Nat} (hk : k < xs.length) (h : ∀ m : Nat, m < 8 → s.by_.getD m 0 ≠ -1 → ∃ j, j < s.q.length ∧ s.q.getD j 0 = (m : Int)) :
    ∀ m : Nat, m < 8 → (step xs fs n s k).by_.getD m 0 ≠ -1 → ∃ j, j < (step xs fs n s k).q.length ∧ (step xs fs n s k).q.getD j 0 = (m : Int) := by
  intro m hm hr
  by_cases hg : goes xs fs s n k = true
  · have e : step xs fs n s k = stepd xs fs n s k := by unfold step; rw [if_pos hg]
    rw [e] at hr ⊢
    obtain ⟨h1, h2⟩ := goes_is hg
    obtain ⟨n0, n7, _⟩ := nx_within (okP_good hok hk) h1
    have hlt : nxt xs n k < s.by_.length := by rw [T.len]; unfold nxt; omega
    have hr' : (s.by_.set (nxt xs n k) (k : Int)).getD m 0 ≠ -1 := hr
    rw [getD_set _ _ _ _ _ hlt] at hr'
    show ∃ j, j < (s.q ++ [nx (MI3.at_ xs k) n]).length ∧ (s.q ++ [nx (MI3.at_ xs k) n]).getD j 0 = (m : Int)
    by_cases em : nxt xs n k = m
    · refine ⟨s.q.length, by simp, ?_⟩
      rw [show (s.q ++ [nx (MI3.at_ xs k) n]).getD s.q.length 0 = nx (MI3.at_ xs k) n from by simp [List.getD_eq_getElem?_getD], ← em]
      unfold nxt; omega
    · rw [if_neg em] at hr'
      obtain ⟨j, hj, hq⟩ := h m hm hr'
      refine ⟨j, by simp; omega, ?_⟩
      rw [show (s.q ++ [nx (MI3.at_ xs k) n]).getD j 0 = s.q.getD j 0 from by simp [List.getD_eq_getElem?_getD, List.getElem?_append_left hj], hq]
  · have e : step xs fs n s k = s := by unfold step; rw [if_neg hg]
    rw [e] at hr ⊢; exact h m hm hr
theorem step_done {xs : List I3} {fs : List Int} {f : Int} {s : St} (hok : okP xs = true) (T : Tree xs fs f s) {n : Int} {k : Nat} (hk : k < xs.length) (h : 0 < rm (MI3.at_ xs k) (fs.getD k 0) n) : (step xs fs n s k).by_.getD (nxt xs n k) 0 ≠ -1 := by
  by_cases hg : goes xs fs s n k = true
  · have e : step xs fs n s k = stepd xs fs n s k := by unfold step; rw [if_pos hg]
    rw [e]
    obtain ⟨n0, n7, _⟩ := nx_within (okP_good hok hk) h
    have hlt : nxt xs n k < s.by_.length := by rw [T.len]; unfold nxt; omega
    show (s.by_.set (nxt xs n k) (k : Int)).getD (nxt xs n k) 0 ≠ -1
    rw [getD_set _ _ _ _ _ hlt, if_pos rfl]; omega
  · have e : step xs fs n s k = s := by unfold step; rw [if_neg hg]
    rw [e]
    intro h2
    exact hg (by unfold goes; rw [Bool.and_eq_true, decide_eq_true_eq, decide_eq_true_eq]; exact ⟨h, h2⟩)
structure Sc (xs : List I3) (fs : List Int) (n : Int) (s s' : St) (k : Nat) : Prop where
  full : ∀ m : Nat, m < 8 → s'.by_.getD m 0 ≠ -1 → ∃ j, j < s'.q.length ∧ s'.q.getD j 0 = (m : Int)
  done : ∀ k', k' < k → 0 < rm (MI3.at_ xs k') (fs.getD k' 0) n → s'.by_.getD (nxt xs n k') 0 ≠ -1
  keep : ∀ m : Nat, s.by_.getD m 0 ≠ -1 → s'.by_.getD m 0 ≠ -1
theorem scan_sc {xs : List I3} {fs : List Int} {f : Int} {s : St} (hok : okP xs = true) (hf : 0 ≤ f ∧ f ≤ 7) (T : Tree xs fs f s) {n : Int} (hn : 0 ≤ n ∧ n ≤ 7) (hr : s.by_.getD n.toNat 0 ≠ -1) (hfull : ∀ m : Nat, m < 8 → s.by_.getD m 0 ≠ -1 → ∃ j, j < s.q.length ∧ s.q.getD j 0 = (m : Int)) (k : Nat) (hk : k ≤ xs.length) : Sc xs fs n s (scan xs fs n s k) k := by
  induction k with
  | zero => exact ⟨hfull, fun k' hk' => by omega, fun m h => h⟩
  | succ k ih =>
    have i := ih (by omega)
    have T2 := (scan_ok hok hf T hn hr k (by omega)).tree
    refine ⟨full_step hok T2 (by omega) i.full, fun k' hk' h0 => ?_, fun m h => step_keeps (i.keep m h)⟩
    by_cases e : k' = k
    · subst e; exact step_done hok T2 (by omega) h0
    · exact step_keeps (i.done k' (by omega) h0)
theorem at8_cl {xs : List I3} {fs : List Int} {f : Int} (hok : okP xs = true) (hf : 0 ≤ f ∧ f ≤ 7) (i : Nat) : Cl xs fs (at8 xs fs f i) i := by
  induction i with
  | zero =>
    refine ⟨fun m hm h => ?_, fun j hj => by omega⟩
    refine ⟨0, by simp [at8, start], ?_⟩
    have h' : ((List.replicate 8 (-1 : Int)).set f.toNat (-2)).getD m 0 ≠ -1 := h
    show f = (m : Int)
    by_cases e : f.toNat = m
    · omega
    · rw [getD_set _ _ _ _ _ (by simp; omega), if_neg e] at h'
      rw [List.getD_eq_getElem?_getD, List.getElem?_replicate, if_pos hm] at h'
      exact absurd rfl h'
  | succ i ih =>
    have T := at8_tree (fs := fs) hok hf i
    rw [at8]; split
    · rename_i h
      obtain ⟨a, b, c⟩ := T.inq i h
      have S := scan_sc hok hf T ⟨a, b⟩ c ih.full xs.length (Nat.le_refl _)
      have M := (scan_ok hok hf T ⟨a, b⟩ c xs.length (Nat.le_refl _)).more
      refine ⟨S.full, fun j hj hjq k hk h0 => ?_⟩
      have hjl : j < (at8 xs fs f i).q.length := by omega
      rw [(M j hjl).2] at h0 ⊢
      by_cases e : j = i
      · subst e; exact S.done k hk h0
      · exact S.keep _ (ih.done j (by omega) hjl k hk h0)
    · rename_i h
      exact ⟨ih.full, fun j hj hjq k hk h0 => ih.done j (by omega) hjq k hk h0⟩
/-- Closed: from whoever is reached, each pipe that has room leads to somebody who is. -/
theorem srch_closed {xs : List I3} {fs : List Int} {f : Int} (hok : okP xs = true) (hf : 0 ≤ f ∧ f ≤ 7) {m k : Nat} (hm : m < 8) (hr : (srch xs fs f).by_.getD m 0 ≠ -1) (hk : k < xs.length) (h0 : 0 < rm (MI3.at_ xs k) (fs.getD k 0) (m : Int)) : (srch xs fs f).by_.getD (nx (MI3.at_ xs k) (m : Int)).toNat 0 ≠ -1 := by
  have C := at8_cl (fs := fs) hok hf 8
  obtain ⟨j, hj, hq⟩ := C.full m hm hr
  have hs := (srch_tree (fs := fs) hok hf).short
  have := C.done j (by unfold srch at hs; omega) hj k hk (by rw [hq]; exact h0)
  rwa [hq] at this
end FL
namespace LK
open Go.RowKit
/-- The links as pipes, some of which bear nothing. -/
def pw1 (xs : List I2) (wo : List Int) (j : Nat) : I3 := ⟨(MI2.at_ xs j).a0, (MI2.at_ xs j).a1, if (j : Int) ∈ wo then 0 else 1⟩
def pwL (xs : List I2) (wo : List Int) : List I3 := (List.range xs.length).map (pw1 xs wo)
theorem pw_len (xs : List I2) (wo : List Int) : (pwL xs wo).length = xs.length := by simp [pwL]
theorem pw_at (xs : List I2) (wo : List Int) {k : Nat} (hk : k < xs.length) : MI3.at_ (pwL xs wo) k = pw1 xs wo k := by
  rw [MI3.at_eq _ _ (by rw [pw_len]; exact hk)]; simp [pwL]
theorem pw_nil (xs : List I2) : pwL xs [] = pip xs := by
  apply List.ext_getElem (by simp [pwL, pip])
  intro j h1 h2
  have hj : j < xs.length := by simpa [pwL] using h1
  simp [pwL, pip, pw1, pip1, MI2.at_eq xs j hj]
theorem pw_put (xs : List I2) (wo : List Int) {m k : Nat} (hm : m < wo.length) (he : wo.getD m 0 = (k : Int)) : pwL xs (wo.take (m + 1)) = (pwL xs (wo.take m)).set k ⟨(MI2.at_ xs k).a0, (MI2.at_ xs k).a1, 0⟩ := by
  have hw : wo.take (m + 1) = wo.take m ++ [(k : Int)] := by
    rw [List.take_succ_eq_append_getElem hm]
    rw [List.getD_eq_getElem?_getD, List.getElem?_eq_getElem hm] at he
    rw [show wo[m] = (k : Int) from he]
  apply List.ext_getElem (by simp [pwL])
  intro j h1 h2
  have hj : j < xs.length := by simpa [pwL] using h1
  rw [List.getElem_set]
  by_cases e : k = j
  · subst e
    simp [pwL, pw1, hw]
  · rw [if_neg e]
    have : ((j : Int) ∈ wo.take (m + 1)) ↔ ((j : Int) ∈ wo.take m) := by
      rw [hw, List.mem_append, List.mem_singleton]
      exact ⟨fun h => h.elim id (fun h => absurd (by omega) e), fun h => .inl h⟩
    simp [pwL, pw1, this]
theorem ok_of {c : I3} (g : FL.Good c) : FL.okE c = true := by
  simp only [FL.okE, decide_eq_true_eq]; exact ⟨g.f0, g.f1, g.t0, g.t1, g.ne, g.c0, g.c1⟩
theorem pw_ok {xs : List I2} {wo : List Int} (h : FL.okP (pip xs) = true) : FL.okP (pwL xs wo) = true := by
  rw [FL.okP_iff] at h ⊢
  rw [pw_len]
  refine ⟨by have := h.1; rwa [pip_len] at this, fun j hj => ?_⟩
  have h1 := h.2 j (by rw [pip_len]; exact hj)
  rw [pip_at xs j hj] at h1
  rw [pw_at xs wo hj]
  have G := FL.good_of h1
  exact ok_of ⟨G.f0, G.f1, G.t0, G.t1, G.ne, by simp only [pw1]; split <;> omega, by simp only [pw1]; split <;> omega⟩
theorem pw_fit (xs : List I2) (wo : List Int) : FL.fitUp (pwL xs wo) (List.replicate xs.length 0) (pwL xs wo).length := by
  intro j hj
  rw [pw_len] at hj
  rw [pw_at xs wo hj, List.getD_eq_getElem?_getD, List.getElem?_replicate, if_pos hj]
  simp only [Option.getD_some, pw1]
  split <;> omega
theorem zero_at (n k : Nat) : (List.replicate n (0 : Int)).getD k 0 = 0 := by
  rw [List.getD_eq_getElem?_getD, List.getElem?_replicate]; split <;> rfl
/-- Who is reached. -/
def reachB (xs : List I2) (f : Int) (wo : List Int) : List Int := (FL.srch (pwL xs wo) (List.replicate xs.length 0) f).by_
def R (xs : List I2) (f : Int) (wo : List Int) (n : Int) : Prop := 0 ≤ n ∧ n ≤ 7 ∧ (reachB xs f wo).getD n.toNat 0 ≠ -1
theorem R_start {xs : List I2} {f : Int} {wo : List Int} (h : FL.okP (pip xs) = true) (hf : 0 ≤ f ∧ f ≤ 7) : R xs f wo f := by
  refine ⟨hf.1, hf.2, ?_⟩
  have := (FL.srch_tree (fs := List.replicate xs.length 0) (pw_ok (wo := wo) h) hf).fst
  unfold reachB; rw [this]; omega
theorem R_closed {xs : List I2} {f : Int} {wo : List Int} (h : FL.okP (pip xs) = true) (hf : 0 ≤ f ∧ f ≤ 7) {k : Nat} (hk : k < xs.length) (hw : (k : Int) ∉ wo) (h0 : R xs f wo (MI2.at_ xs k).a0) : R xs f wo (MI2.at_ xs k).a1 := by
  have G := FL.okP_good h (k := k) (by rw [pip_len]; exact hk)
  rw [pip_at xs k hk] at G
  have g0 : 0 ≤ (MI2.at_ xs k).a1 := G.t0
  have g1 : (MI2.at_ xs k).a1 ≤ 7 := G.t1
  obtain ⟨p0, p7, hr⟩ := h0
  have e : (((MI2.at_ xs k).a0.toNat : Nat) : Int) = (MI2.at_ xs k).a0 := by omega
  have ha : MI3.at_ (pwL xs wo) k = ⟨(MI2.at_ xs k).a0, (MI2.at_ xs k).a1, 1⟩ := by rw [pw_at xs wo hk, pw1, if_neg hw]
  have := FL.srch_closed (fs := List.replicate xs.length 0) (pw_ok (wo := wo) h) hf (m := (MI2.at_ xs k).a0.toNat) (k := k) (by omega) hr (by rw [pw_len]; exact hk) (by rw [ha, e, zero_at]; simp [FL.rm])
  rw [ha, e] at this
  refine ⟨g0, g1, ?_⟩
  show (FL.srch (pwL xs wo) (List.replicate xs.length 0) f).by_.getD _ 0 ≠ -1
  simpa [FL.nx] using this
theorem R_least {xs : List I2} {f : Int} {wo : List Int} (h : FL.okP (pip xs) = true) (hf : 0 ≤ f ∧ f ≤ 7) (P : Int → Prop) (hP : P f) (hc : ∀ k, k < xs.length → (k : Int) ∉ wo → P (MI2.at_ xs k).a0 → P (MI2.at_ xs k).a1) : ∀ n, R xs f wo n → P n := by
  have T := FL.srch_tree (fs := List.replicate xs.length 0) (pw_ok (wo := wo) h) hf
  have key : ∀ (d m : Nat), m < 8 → (reachB xs f wo).getD m 0 ≠ -1 → ((FL.srch (pwL xs wo) (List.replicate xs.length 0) f).L m).length = d → P (m : Int) := by
    intro d
    induction d with
    | zero =>
      intro m hm hr hl
      by_cases e : (m : Int) = f
      · rw [e]; exact hP
      · exact absurd (List.length_eq_zero_iff.1 hl) (T.nonnil hm hr e)
    | succ d ih =>
      intro m hm hr hl
      by_cases e : (m : Int) = f
      · rw [e]; exact hP
      · obtain ⟨k, p, hk, hp, _, hp2, hnx, h0, hL⟩ := T.via m hm hr e
        rw [hL] at hl
        simp only [List.length_append, List.length_cons, List.length_nil] at hl
        have i := ih p hp hp2 (by omega)
        rw [pw_len] at hk
        rw [zero_at] at h0
        rcases FL.rm_pos h0 with ⟨a, b, c, _⟩ | ⟨_, _, b, _, _⟩
        · rw [b] at h0
          rw [c] at hnx
          rw [pw_at xs wo hk] at a h0 hnx
          simp only [pw1] at a h0 hnx
          have hw : (k : Int) ∉ wo := fun hw => by rw [if_pos hw] at h0; omega
          rw [← hnx]
          exact hc k hk hw (by rw [a]; exact i)
        · omega
  intro n ⟨n0, n7, hr⟩
  have := key _ n.toNat (by omega) hr rfl
  rwa [show ((n.toNat : Nat) : Int) = n from by omega] at this
/-- Rows that rise strictly. -/
def Up (l : List Int) : Prop := l.Pairwise (· < ·)
theorem up_same {l l' : List Int} (h : Up l) (h' : Up l') (hm : ∀ x, x ∈ l ↔ x ∈ l') : l = l' := by
  have nd : l.Nodup := h.imp fun h => by omega
  have nd' : l'.Nodup := h'.imp fun h => by omega
  exact List.Perm.eq_of_pairwise (le := fun a b : Int => a ≤ b) (fun a b _ _ h1 h2 => by omega) (h.imp fun h => by omega) (h'.imp fun h => by omega) ((List.perm_ext_iff_of_nodup nd nd').2 hm)
theorem up_len : ∀ (l : List Int) (lo : Int), Up l → (∀ x ∈ l, lo ≤ x ∧ x ≤ 7) → lo ≤ 8 → (l.length : Int) ≤ 8 - lo
  | [], lo, _, _, h => by simp; omega
  | x :: l, lo, hu, hx, h => by
    unfold Up at hu
    rw [List.pairwise_cons] at hu
    have h1 := hx x (List.mem_cons_self ..)
    have := up_len l (x + 1) hu.2 (fun y hy => ⟨by have := hu.1 y hy; omega, (hx y (List.mem_cons_of_mem _ hy)).2⟩) (by omega)
    simp only [List.length_cons]; push_cast; omega
theorem put_up : ∀ (l : List Int) (n : Int), Up l → n ∉ l → Up (EG.putS l n)
  | [], n, _, _ => by simp [EG.putS, Up]
  | x :: l, n, h, hn => by
    unfold Up at *
    rw [List.pairwise_cons] at h
    simp only [List.mem_cons, not_or] at hn
    rw [EG.putS]; split
    · rename_i hx
      rw [List.pairwise_cons]
      refine ⟨fun y hy => ?_, put_up l n h.2 hn.2⟩
      rcases List.mem_append.1 ((EG.putS_perm l n).mem_iff.1 hy) with hy | hy
      · exact h.1 y hy
      · rw [List.mem_singleton.1 hy]; omega
    · rename_i hx
      rw [List.pairwise_cons, List.pairwise_cons]
      refine ⟨fun y hy => ?_, h.1, h.2⟩
      rcases List.mem_cons.1 hy with rfl | hy
      · omega
      · have := h.1 y hy; omega
theorem put_mem (l : List Int) (n x : Int) : x ∈ EG.putS l n ↔ x ∈ l ∨ x = n := by
  rw [(EG.putS_perm l n).mem_iff, List.mem_append, List.mem_singleton]
theorem put_length (l : List Int) (n : Int) : (EG.putS l n).length = l.length + 1 := by
  rw [(EG.putS_perm l n).length_eq]; simp
theorem side_mem (B : List Int) (m : Nat) (x : Int) : x ∈ FL.sideUp B m ↔ ∃ j : Nat, j < m ∧ x = (j : Int) ∧ B.getD j 0 ≠ -1 := by
  induction m with
  | zero => simp [FL.sideUp]
  | succ m ih =>
    rw [FL.sideUp, List.mem_append, ih]
    constructor
    · rintro (⟨j, h1, h2, h3⟩ | h)
      · exact ⟨j, by omega, h2, h3⟩
      · split at h
        · rename_i hb; rw [List.mem_singleton] at h; exact ⟨m, by omega, h, hb⟩
        · cases h
    · rintro ⟨j, h1, h2, h3⟩
      by_cases e : j = m
      · subst e; right; rw [if_pos h3, List.mem_singleton]; exact h2
      · left; exact ⟨j, by omega, h2, h3⟩
theorem side_up (B : List Int) (m : Nat) : Up (FL.sideUp B m) := by
  induction m with
  | zero => simp [FL.sideUp, Up]
  | succ m ih =>
    unfold Up at *
    rw [FL.sideUp, List.pairwise_append]
    refine ⟨ih, by split <;> simp, fun a ha b hb => ?_⟩
    obtain ⟨j, h1, h2, _⟩ := (side_mem B m a).1 ha
    split at hb
    · rw [List.mem_singleton] at hb; omega
    · cases hb
theorem side_R (xs : List I2) (f : Int) (wo : List Int) (x : Int) : x ∈ FL.sideUp (reachB xs f wo) 8 ↔ R xs f wo x := by
  rw [side_mem]
  constructor
  · rintro ⟨j, h1, rfl, h3⟩
    exact ⟨by omega, by omega, by rw [show ((j : Nat) : Int).toNat = j from by omega]; exact h3⟩
  · rintro ⟨h0, h7, h⟩
    exact ⟨x.toNat, by omega, by omega, h⟩
/-- What the specification has while it goes round: nobody but who is reached, the start among them. -/
structure Rb (xs : List I2) (f : Int) (wo os : List Int) : Prop where
  up : Up os
  inR : ∀ x ∈ os, R xs f wo x
  st : f ∈ os
theorem Rb.len {xs : List I2} {f : Int} {wo os : List Int} (h : Rb xs f wo os) : os.length ≤ 8 := by
  have := up_len os 0 h.up (fun x hx => ⟨(h.inR x hx).1, (h.inR x hx).2.1⟩) (by omega)
  omega
/-- Behind the first k links of a round that began with bs. -/
structure Pass (xs : List I2) (wo bs os : List Int) (k : Nat) : Prop where
  sub : ∀ x ∈ bs, x ∈ os
  alt : os = bs ∨ bs.length < os.length
  did : ∀ j, j < k → (j : Int) ∉ wo → (MI2.at_ xs j).a0 ∈ bs → (MI2.at_ xs j).a1 ∈ os
theorem Pass.start (xs : List I2) (wo bs : List Int) : Pass xs wo bs bs 0 := ⟨fun _ h => h, .inl rfl, fun j hj => by omega⟩
theorem Pass.skip {xs : List I2} {wo bs os : List Int} {k : Nat} (h : Pass xs wo bs os k) (hn : (k : Int) ∈ wo ∨ (MI2.at_ xs k).a0 ∉ os) : Pass xs wo bs os (k + 1) := by
  refine ⟨h.sub, h.alt, fun j hj hw h0 => ?_⟩
  by_cases e : j = k
  · subst e
    rcases hn with hn | hn
    · exact absurd hn hw
    · exact absurd (h.sub _ h0) hn
  · exact h.did j (by omega) hw h0
theorem Pass.has {xs : List I2} {wo bs os : List Int} {k : Nat} (h : Pass xs wo bs os k) (hn : (MI2.at_ xs k).a1 ∈ os) : Pass xs wo bs os (k + 1) := by
  refine ⟨h.sub, h.alt, fun j hj hw h0 => ?_⟩
  by_cases e : j = k
  · subst e; exact hn
  · exact h.did j (by omega) hw h0
theorem Pass.put {xs : List I2} {wo bs os : List Int} {k : Nat} (h : Pass xs wo bs os k) : Pass xs wo bs (EG.putS os (MI2.at_ xs k).a1) (k + 1) := by
  refine ⟨fun x hx => (put_mem _ _ _).2 (.inl (h.sub x hx)), .inr ?_, fun j hj hw h0 => (put_mem _ _ _).2 ?_⟩
  · rw [put_length]
    rcases h.alt with e | e
    · rw [e]; omega
    · omega
  · by_cases e : j = k
    · subst e; exact .inr rfl
    · exact .inl (h.did j (by omega) hw h0)
theorem Rb.put {xs : List I2} {f : Int} {wo os : List Int} (H : Rb xs f wo os) (h : FL.okP (pip xs) = true) (hf : 0 ≤ f ∧ f ≤ 7) {k : Nat} (hk : k < xs.length) (hw : (k : Int) ∉ wo) (h0 : (MI2.at_ xs k).a0 ∈ os) (h1 : (MI2.at_ xs k).a1 ∉ os) : Rb xs f wo (EG.putS os (MI2.at_ xs k).a1) := by
  refine ⟨put_up _ _ H.up h1, fun x hx => ?_, (put_mem _ _ _).2 (.inl H.st)⟩
  rcases (put_mem _ _ _).1 hx with hx | rfl
  · exact H.inR x hx
  · exact R_closed h hf hk hw (H.inR _ h0)
theorem Rb.fin {xs : List I2} {f : Int} {wo os : List Int} (H : Rb xs f wo os) (h : FL.okP (pip xs) = true) (hf : 0 ≤ f ∧ f ≤ 7) (P : Pass xs wo os os xs.length) : os = FL.sideUp (reachB xs f wo) 8 := by
  refine up_same H.up (side_up _ _) fun x => ?_
  rw [side_R]
  refine ⟨H.inR x, R_least h hf (fun n => n ∈ os) H.st (fun k hk hw h0 => P.did k hk hw h0) x⟩
theorem Rb.start {xs : List I2} {f : Int} {wo : List Int} (h : FL.okP (pip xs) = true) (hf : 0 ≤ f ∧ f ≤ 7) : Rb xs f wo [f] :=
  ⟨by simp [Up], fun x hx => by rw [List.mem_singleton] at hx; subst hx; exact R_start h hf, by simp⟩
/-- What is answered. -/
noncomputable def rbOk (xs : List I2) (f : Int) (wo : List Int) : Bool := FL.okP (pip xs) && (FL.nodeOk f && EG.rises xs.length wo)
noncomputable def rbL (xs : List I2) (f : Int) (wo : List Int) : List Int := if rbOk xs f wo = true then FL.sideUp (reachB xs f wo) 8 else []
theorem rbL_len (xs : List I2) (f : Int) (wo : List Int) : (rbL xs f wo).length ≤ 1048576 := by
  unfold rbL; split
  · have := FL.side_len (reachB xs f wo) 8; omega
  · simp
theorem rb_no {xs : List I2} {f : Int} {wo : List Int} (h : rbOk xs f wo = false) : rbL xs f wo = [] := by simp [rbL, h]
theorem rb_yes {xs : List I2} {f : Int} {wo : List Int} (h : rbOk xs f wo = true) : rbL xs f wo = FL.sideUp (reachB xs f wo) 8 := by simp [rbL, h]
end LK
end Go.Proofs.Ytndaapidfiocoaa

/- What flows is no more than what a cut bears, and the most that flows is as much as the cut that the search leaves: plain facts. -/
namespace Go.Proofs.Ytndaapidfiocoaa
namespace FL
open Go.RowKit
/-- What crosses out of some nodes, less what crosses into them, the first k pipes. -/
def crsUp (xs : List I3) (fs : List Int) (S : List Int) : Nat → Int
  | 0 => 0
  | k + 1 => crsUp xs fs S k + ((if hasN S (MI3.at_ xs k).a0 = true then fs.getD k 0 else 0) - (if hasN S (MI3.at_ xs k).a1 = true then fs.getD k 0 else 0))
theorem hasN_cons (a : Int) (S : List Int) (x : Int) : hasN (a :: S) x = (decide (x = a) || hasN S x) := by
  simp [hasN]
theorem sg_sum (c : I3) (v : Int) (hne : c.a0 ≠ c.a1) : ∀ S : List Int, S.Nodup → (S.map (fun u => sg c u v)).sum = (if hasN S c.a0 = true then v else 0) - (if hasN S c.a1 = true then v else 0)
  | [], _ => by simp [hasN]
  | a :: S, h => by
    rw [List.nodup_cons] at h
    have ih := sg_sum c v hne S h.2
    have h0 : hasN S a = false := by simp [hasN, h.1]
    rw [List.map_cons, List.sum_cons, ih, hasN_cons, hasN_cons]
    unfold sg
    by_cases e0 : c.a0 = a
    · have e1 : ¬ c.a1 = a := fun e => hne (e0.trans e.symm)
      rw [if_pos e0, e0, h0]; simp [e1]; omega
    · by_cases e1 : c.a1 = a
      · rw [if_neg e0, if_pos e1, e1, h0]; simp [e0]; omega
      · rw [if_neg e0, if_neg e1]; simp [e0, e1]
theorem sum_add (S : List Int) (f g : Int → Int) : (S.map (fun u => f u + g u)).sum = (S.map f).sum + (S.map g).sum := by
  induction S with
  | nil => simp
  | cons a S ih => simp only [List.map_cons, List.sum_cons, ih]; omega
theorem out_sum {xs : List I3} (hok : okP xs = true) (fs : List Int) {S : List Int} (hS : S.Nodup) : ∀ m, m ≤ xs.length → (S.map (fun u => outUp xs fs u m)).sum = crsUp xs fs S m
  | 0, _ => by
    induction S with
    | nil => rfl
    | cons a S ih =>
      rw [List.nodup_cons] at hS
      have := ih hS.2
      simp only [List.map_cons, List.sum_cons, outUp, crsUp] at this ⊢
      omega
  | m + 1, hm => by
    have ih := out_sum hok fs hS m (by omega)
    have g := okP_good hok (k := m) (by omega)
    have e : (fun u => outUp xs fs u (m + 1)) = (fun u => outUp xs fs u m + sg (MI3.at_ xs m) u (fs.getD m 0)) := rfl
    rw [e, sum_add, ih, sg_sum _ _ g.ne S hS]; rfl
theorem one_sum (f : Int) (v : Int) : ∀ S : List Int, S.Nodup → (S.map (fun u => if u = f then v else 0)).sum = if f ∈ S then v else 0
  | [], _ => by simp
  | a :: S, h => by
    rw [List.nodup_cons] at h
    rw [List.map_cons, List.sum_cons, one_sum f v S h.2]
    by_cases e : a = f
    · subst e; simp [h.1]
    · by_cases e2 : f ∈ S
      · simp [e, e2]
      · simp [e, e2, Ne.symm e]
/-- Some nodes, the first one among them and the last one not. -/
structure Side (S : List Int) (f t : Int) : Prop where
  nd : S.Nodup
  lt : ∀ u ∈ S, 0 ≤ u ∧ u ≤ 7
  hf : f ∈ S
  ht : t ∉ S
theorem out_is {xs : List I3} {fs : List Int} {f t : Int} {S : List Int} (hok : okP xs = true) (hS : Side S f t) (hc : calmUp xs fs f t 8) : outUp xs fs f xs.length = crsUp xs fs S xs.length := by
  rw [← out_sum hok fs hS.nd xs.length (Nat.le_refl _)]
  have e : S.map (fun u => outUp xs fs u xs.length) = S.map (fun u => if u = f then outUp xs fs f xs.length else 0) := by
    apply List.map_congr_left
    intro u hu
    by_cases e : u = f
    · subst e; rw [if_pos rfl]
    · rw [if_neg e]
      have h := hS.lt u hu
      have := hc u.toNat (by omega) (by omega) (by intro h'; exact hS.ht (by rw [← h', show ((u.toNat : Nat) : Int) = u by omega]; exact hu))
      rwa [show ((u.toNat : Nat) : Int) = u by omega] at this
  rw [e, one_sum f _ S hS.nd, if_pos hS.hf]
theorem crs_le {xs : List I3} {fs : List Int} {S : List Int} (hfit : fitUp xs fs xs.length) : ∀ m, m ≤ xs.length → crsUp xs fs S m ≤ capUp xs S m
  | 0, _ => by simp [crsUp, capUp]
  | m + 1, hm => by
    have ih := crs_le (S := S) hfit m (by omega)
    have h := hfit m (by omega)
    rw [crsUp, capUp]
    generalize fs.getD m 0 = v at *
    cases h0 : hasN S (MI3.at_ xs m).a0 <;> cases h1 : hasN S (MI3.at_ xs m).a1 <;> simp <;> omega
/-- No flow is more than any cut. -/
theorem flow_cut {xs : List I3} {fs : List Int} {f t : Int} {S : List Int} (hok : okP xs = true) (hS : Side S f t) (hfit : fitUp xs fs xs.length) (hc : calmUp xs fs f t 8) : outUp xs fs f xs.length ≤ capUp xs S xs.length := by
  rw [out_is hok hS hc]; exact crs_le hfit _ (Nat.le_refl _)
theorem crs_full {xs : List I3} {fs : List Int} {S : List Int} (h : ∀ k, k < xs.length → (hasN S (MI3.at_ xs k).a0 = true → hasN S (MI3.at_ xs k).a1 = false → fs.getD k 0 = (MI3.at_ xs k).a2) ∧ (hasN S (MI3.at_ xs k).a0 = false → hasN S (MI3.at_ xs k).a1 = true → fs.getD k 0 = 0)) : ∀ m, m ≤ xs.length → crsUp xs fs S m = capUp xs S m
  | 0, _ => by simp [crsUp, capUp]
  | m + 1, hm => by
    have ih := crs_full h m (by omega)
    obtain ⟨a1, a2⟩ := h m (by omega)
    rw [crsUp, capUp, ih]
    generalize fs.getD m 0 = v at *
    cases h0 : hasN S (MI3.at_ xs m).a0 <;> cases h1 : hasN S (MI3.at_ xs m).a1 <;> simp [h0, h1] at a1 a2 ⊢ <;> omega
theorem side_hasN (B : List Int) (u : Int) (hu : 0 ≤ u ∧ u ≤ 7) : hasN (sideUp B 8) u = true ↔ B.getD u.toNat 0 ≠ -1 := by
  unfold hasN
  rw [decide_eq_true_eq, LK.side_mem]
  constructor
  · rintro ⟨j, _, rfl, h⟩; simpa using h
  · intro h; exact ⟨u.toNat, by omega, by omega, h⟩
/-- At the end the search does not come to the last one. -/
theorem maxF_stuck {xs : List I3} {f t : Int} (A : Ask xs f t) : reach xs (maxF xs f t) f t = false := by
  have key : ∀ i : Nat, (∃ j, j ≤ i ∧ reach xs (flowAt xs f t j) f t = false ∧ (j : Int) ≤ outUp xs (flowAt xs f t j) f xs.length) ∨ ((i + 1 : Nat) : Int) ≤ outUp xs (flowAt xs f t (i + 1)) f xs.length := by
    intro i
    induction i with
    | zero =>
      have h0 : ((0 : Nat) : Int) ≤ outUp xs (flowAt xs f t 0) f xs.length := (flowAt_calm A 0).2
      cases h : reach xs (flowAt xs f t 0) f t with
      | false => exact .inl ⟨0, Nat.le_refl _, h, h0⟩
      | true => exact .inr (flowAt_next A h0 h).1
    | succ i ih =>
      rcases ih with ⟨j, h1, h2, h3⟩ | h
      · exact .inl ⟨j, by omega, h2, h3⟩
      · cases hr : reach xs (flowAt xs f t (i + 1)) f t with
        | false => exact .inl ⟨i + 1, Nat.le_refl _, hr, h⟩
        | true => exact .inr (flowAt_next A h hr).1
  rcases key 2000 with ⟨j, h1, h2, h3⟩ | h
  · rw [maxF_is A h3 h2]; exact h2
  · have o := flowAt_ok A (2000 + 1)
    have := (outUp_within (n := f) A.ok o.2 xs.length (Nat.le_refl _)).2
    have := A.len
    omega
theorem maxF_calm8 {xs : List I3} {f t : Int} (A : Ask xs f t) : calmUp xs (maxF xs f t) f t 8 := fun j _ h0 h1 => (maxF_calm A).1 j h0 h1
/-- What is reached at the end is a side. -/
theorem cut_side {xs : List I3} {f t : Int} (A : Ask xs f t) : Side (cutL xs f t) f t := by
  refine ⟨(LK.side_up _ 8).imp (fun h e => by omega), fun u hu => ?_, ?_, ?_⟩
  · obtain ⟨j, hj, e, _⟩ := (LK.side_mem _ _ _).1 hu; omega
  · have := (srch_tree (fs := maxF xs f t) A.ok ⟨A.f0, A.f7⟩)
    have h := (side_hasN (srch xs (maxF xs f t) f).by_ f ⟨A.f0, A.f7⟩).2 (by rw [this.fst]; decide)
    simpa [hasN, cutL] using h
  · intro h
    have h1 := (side_hasN (srch xs (maxF xs f t) f).by_ t ⟨A.t0, A.t7⟩).1 (by simpa [hasN, cutL] using h)
    have := maxF_stuck A
    simp only [reach, Bool.not_eq_false', decide_eq_true_eq] at this
    exact h1 this
/-- The most that flows is as much as that cut bears. -/
theorem max_cut {xs : List I3} {f t : Int} (A : Ask xs f t) : outUp xs (maxF xs f t) f xs.length = capUp xs (cutL xs f t) xs.length := by
  have o := maxF_ok A
  rw [out_is A.ok (cut_side A) (maxF_calm8 A)]
  refine crs_full (fun k hk => ?_) _ (Nat.le_refl _)
  have g := A.good hk
  have hf := o.2 k hk
  have C := fun {m : Nat} (hm : m < 8) hr h0 => srch_closed (xs := xs) (fs := maxF xs f t) (f := f) A.ok ⟨A.f0, A.f7⟩ (m := m) (k := k) hm hr hk h0
  have i0 := side_hasN (srch xs (maxF xs f t) f).by_ (MI3.at_ xs k).a0 ⟨g.f0, g.f1⟩
  have i1 := side_hasN (srch xs (maxF xs f t) f).by_ (MI3.at_ xs k).a1 ⟨g.t0, g.t1⟩
  constructor
  · intro h0 h1
    have r0 := i0.1 h0
    by_cases h : (maxF xs f t).getD k 0 = (MI3.at_ xs k).a2
    · exact h
    · have e0 : (((MI3.at_ xs k).a0.toNat : Nat) : Int) = (MI3.at_ xs k).a0 := by have := g.f0; omega
      have c := C (m := (MI3.at_ xs k).a0.toNat) (by have := g.f1; omega) r0 (by rw [e0]; simp only [rm, if_true]; omega)
      rw [e0] at c
      simp only [nx, if_true] at c
      have := i1.2 c
      rw [show cutL xs f t = sideUp (srch xs (maxF xs f t) f).by_ 8 from rfl] at h1
      rw [h1] at this; cases this
  · intro h0 h1
    have r1 := i1.1 h1
    by_cases h : (maxF xs f t).getD k 0 = 0
    · exact h
    · have e1 : (((MI3.at_ xs k).a1.toNat : Nat) : Int) = (MI3.at_ xs k).a1 := by have := g.t0; omega
      have hne := g.ne
      have c := C (m := (MI3.at_ xs k).a1.toNat) (by have := g.t1; omega) r1 (by rw [e1]; simp only [rm, if_neg hne, if_true]; omega)
      rw [e1] at c
      simp only [nx, if_neg hne, if_true] at c
      have := i0.2 c
      rw [show cutL xs f t = sideUp (srch xs (maxF xs f t) f).by_ 8 from rfl] at h0
      rw [h0] at this; cases this
end FL
end Go.Proofs.Ytndaapidfiocoaa

/- FnFlow as plain facts: the most that flows is a flow, no more can be put on, its cut is as much, no other is less. -/
namespace Go.Proofs.Ytndaapidfiocoaa
namespace FL
open Go.RowKit
theorem up_getD {l : List Int} (h : LK.Up l) : ∀ i, 0 < i → i < l.length → l.getD (i - 1) 0 < l.getD i 0 := by
  intro i h0 hi
  have := List.pairwise_iff_getElem.1 h (i - 1) i (by omega) hi (by omega)
  rw [List.getD_eq_getElem?_getD, List.getElem?_eq_getElem (by omega), List.getD_eq_getElem?_getD, List.getElem?_eq_getElem hi]
  exact this
theorem up_rises {l : List Int} (h : LK.Up l) (hl : ∀ u ∈ l, 0 ≤ u ∧ u ≤ 7) : EG.rises 8 l = true := by
  refine EG.rises_yes (fun i hi => ?_)
  have hm : l.getD i 0 ∈ l := by rw [List.getD_eq_getElem?_getD, List.getElem?_eq_getElem hi]; exact List.getElem_mem hi
  have := hl _ hm
  exact ⟨this.1, by omega, fun h0 => up_getD h i h0 hi⟩
structure FlC (xs : List I3) (f t : Int) : Prop where
  is : isR xs f t (mxL xs f t) = true
  ask : askF xs f t (mxL xs f t) = true
  fl : flR xs f t (mxL xs f t) = mxN xs f t
  no : agB xs f t (mxL xs f t) = false
  ok : szOk xs (mcL xs f t) = true
  sz : szN xs (mcL xs f t) = mxN xs f t
  mc : mcN xs f t = mxN xs f t
  hf : f ∈ mcL xs f t
  ht : t ∉ mcL xs f t
  oth : ∀ os : List Int, LK.Up os → (∀ u ∈ os, 0 ≤ u ∧ u ≤ 7) → f ∈ os → t ∉ os → szOk xs os = true ∧ mxN xs f t ≤ szN xs os
theorem flC {xs : List I3} {f t : Int} (h : FL.ask xs f t = true) : FlC xs f t := by
  have A := ask_is h
  have o := maxF_ok A
  have eL : mxL xs f t = maxF xs f t := by simp [mxL, h]
  have eN : mxN xs f t = outUp xs (maxF xs f t) f xs.length := by simp [mxN, h]
  have eC : mcL xs f t = cutL xs f t := by simp [mcL, h]
  have eD : mcN xs f t = capUp xs (cutL xs f t) xs.length := by simp [mcN, h]
  have hask : askF xs f t (maxF xs f t) = true := by simp [askF, h, o.1]
  have his : isR xs f t (maxF xs f t) = true := by rw [isR, hask, isF_yes o.2 (maxF_calm8 A)]; rfl
  have S := cut_side A
  have hup : LK.Up (cutL xs f t) := LK.side_up _ 8
  have hok : szOk xs (cutL xs f t) = true := by rw [szOk, A.ok, up_rises hup S.lt]; rfl
  refine ⟨by rw [eL]; exact his, by rw [eL]; exact hask, by rw [eL, eN, flR, if_pos his], ?_, by rw [eC]; exact hok, by rw [eC, eN, szN, if_pos hok, max_cut A], by rw [eD, eN, max_cut A], by rw [eC]; exact S.hf, by rw [eC]; exact S.ht, fun os u1 u2 u3 u4 => ?_⟩
  · rw [eL, agB, his]
    rcases aug_zero A o.2 with ⟨_, h2, _⟩ | ⟨h1, _⟩
    · rw [h2]; rfl
    · rw [maxF_stuck A] at h1; cases h1
  · have hk : szOk xs os = true := by rw [szOk, A.ok, up_rises u1 u2]; rfl
    refine ⟨hk, ?_⟩
    rw [szN, if_pos hk, eN]
    exact flow_cut A.ok ⟨u1.imp (fun h e => by omega), u2, u3, u4⟩ o.2 (maxF_calm8 A)
end FL
end Go.Proofs.Ytndaapidfiocoaa

/- FnAugment as plain facts: what is put on is on, and no flow is more than the most. -/
namespace Go.Proofs.Ytndaapidfiocoaa
namespace FL
open Go.RowKit
theorem isR_calm {xs : List I3} {f t : Int} {fs : List Int} (h : isR xs f t fs = true) : calmUp xs fs f t 8 := by
  simp only [isR, Bool.and_eq_true] at h
  have := h.2
  simp only [isF, decide_eq_true_eq] at this
  exact this.2
/-- No flow is more than the most. -/
theorem flow_most {xs : List I3} {f t : Int} {fs : List Int} (h : isR xs f t fs = true) : ask xs f t = true ∧ flR xs f t fs ≤ mxN xs f t := by
  obtain ⟨A, hl, hf⟩ := isR_ask h
  have ha : ask xs f t = true := by
    simp only [isR, askF, Bool.and_eq_true] at h; exact h.1.1
  refine ⟨ha, ?_⟩
  have eN : mxN xs f t = outUp xs (maxF xs f t) f xs.length := by simp [mxN, ha]
  rw [flR, if_pos h, eN, max_cut A]
  exact flow_cut A.ok (cut_side A) hf (isR_calm h)
/-- What is put on a flow leaves a flow, by so much more. -/
theorem aug_flow {xs : List I3} {f t : Int} {fs : List Int} (h : isR xs f t fs = true) (hb : agB xs f t fs = true) : isR xs f t (agL xs f t fs) = true ∧ flR xs f t (agL xs f t fs) = flR xs f t fs + agN xs f t fs ∧ 1 ≤ agN xs f t fs := by
  obtain ⟨A, hl, hf⟩ := isR_ask h
  have ha : ask xs f t = true := (flow_most h).1
  have hc := isR_calm h
  rcases aug_zero A hf with ⟨_, h2, _⟩ | ⟨h1, h2, _, h4⟩
  · rw [agB, h, h2] at hb; cases hb
  · have eL : agL xs f t fs = augL xs fs f t := by rw [agL, if_pos h, h4]
    have eN : agN xs f t fs = augN xs fs f t := by rw [agN, if_pos h]
    have ht := A.t0
    have hlen : (augL xs fs f t).length = xs.length := by rw [augL_len]; exact hl
    have hcal : calmUp xs (augL xs fs f t) f t 8 := by
      intro j hj h5 h6
      unfold augL
      rw [if_pos h1]
      have R := row_of A hf h1
      have t7 := A.t7
      have := outUp_rowN A.ok hl (mostOf (rowL xs fs f t)) R.tree (j : Int) _ t.toNat (by omega) R.is rfl
      rw [if_neg h5, if_neg (by omega), hc j hj h5 h6] at this
      exact this.trans (by omega)
    have his : isR xs f t (augL xs fs f t) = true := by
      rw [isR, askF, ha, isF_yes (aug_fit A hl hf) hcal]; simp [hlen]
    refine ⟨by rw [eL]; exact his, ?_, by rw [eN]; omega⟩
    rw [eL, eN, flR, if_pos his, flR, if_pos h, aug_out A hl hf h1]
end FL
end Go.Proofs.Ytndaapidfiocoaa
