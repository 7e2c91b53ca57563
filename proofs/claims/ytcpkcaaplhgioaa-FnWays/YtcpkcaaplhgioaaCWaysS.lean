import Derived.Test.YtcpkcaaplhgioaaMLK
import Derived.Test.YtcpkcaaplhgioaaMNR
import Derived.Test.YtcpkcaaplhgioaaMRA
import Derived.ArgAppend
import Derived.Test.YtcpkcaaplhgioaaMFO
import Derived.Test.YtcpkcaaplhgioaaRows
import Derived.Test.YtcpkcaaplhgioaaM5
import Derived.Test.YtcpkcaaplhgioaaMRetB
import Derived.WalkKit
import Derived.WalkSpells
import Derived.WalkLawsBesides
import Derived.Outline
import Derived.Test.YtcpkcaaplhgioaaMInfo
import Derived.Test.YtcpkcaaplhgioaaCLinks
import Derived.Test.YtcpkcaaplhgioaaCMaxS
import Derived.Deep.QuietTactic
import Derived.BigQuiet
/- Ways along a flow, and what goes round left out: plain facts, over whatever program. -/
namespace Go.Proofs.Ytcpkcaaplhgioaa
namespace FL
/-- What is put on a row makes more at its ends alone. -/
theorem outUp_rowN {xs : List I3} {fs : List Int} {f : Int} {s : St} (hok : okP xs = true) (hl : fs.length = xs.length) (more : Int) (h : Tree xs fs f s) (v : Int) (n : Nat) : ∀ m : Nat, m < 8 → s.by_.getD m 0 ≠ -1 → (s.L m).length = n → outUp xs (putL more fs (s.L m)) v xs.length = outUp xs fs v xs.length + (if v = f then more else 0) - (if v = (m : Int) then more else 0) := by
  induction n with
  | zero =>
    intro m hm hr hn
    by_cases e : (m : Int) = f
    · rw [List.length_eq_zero_iff.1 hn, e]; simp [putL]
    · exact absurd (List.length_eq_zero_iff.1 hn) (h.nonnil hm hr e)
  | succ n ih =>
    intro m hm hr hn
    by_cases e : (m : Int) = f
    · rw [show m = f.toNat from by omega, h.nil] at hn; cases hn
    · obtain ⟨k, p, hk, hp, _, hp2, hnx, h0, hL⟩ := h.via m hm hr e
      rw [hL] at hn ⊢
      simp only [List.length_append, List.length_cons, List.length_nil] at hn
      rw [putL_snoc, outUp_put _ _ _ _ _ (by rw [putL_len, hl]; exact hk), ih p hp hp2 (by omega), if_pos (show (stp xs fs (p : Int) k).k < xs.length from hk)]
      have hd : dl more (stp xs fs (p : Int) k) = if bk (MI3.at_ xs k) (p : Int) = true then -more else more := rfl
      have hat : MI3.at_ xs (stp xs fs (p : Int) k).k = MI3.at_ xs k := rfl
      rw [hd, hat]
      have G := okP_good hok hk
      have ne := G.ne
      unfold sg
      generalize (if v = f then more else 0) = F
      rcases rm_pos h0 with ⟨a, _, b, d⟩ | ⟨a, b, _, c, d⟩
      · rw [d]
        rw [b] at hnx
        rw [a, hnx] at ne
        rw [a, hnx]
        simp only [Bool.false_eq_true, if_false]
        by_cases e1 : v = (p : Int)
        · subst e1
          rw [if_pos rfl, if_pos rfl, if_neg ne]; omega
        · rw [if_neg e1, if_neg (fun e => e1 e.symm)]
          by_cases e2 : v = (m : Int)
          · subst e2; rw [if_pos rfl, if_pos rfl]; omega
          · rw [if_neg (fun e => e2 e.symm), if_neg e2]; omega
      · rw [d]
        rw [c] at hnx
        rw [b, hnx] at ne
        rw [b, hnx]
        simp only [if_true]
        by_cases e1 : v = (p : Int)
        · subst e1
          rw [if_pos rfl, if_pos rfl, if_neg ne, if_neg (fun e => ne e.symm)]; omega
        · rw [if_neg e1]
          by_cases e2 : v = (m : Int)
          · subst e2; rw [if_pos rfl, if_pos rfl]; omega
          · rw [if_neg (fun e => e2 e.symm), if_neg e2, if_neg (fun e => e1 e.symm)]; omega
theorem outUp_zero (xs : List I3) (v : Int) (n : Nat) : ∀ k, outUp xs (List.replicate n 0) v k = 0
  | 0 => rfl
  | k + 1 => by
    rw [outUp, outUp_zero xs v n k]
    have h0 : (List.replicate n (0 : Int)).getD k 0 = 0 := by
      rw [List.getD_eq_getElem?_getD, List.getElem?_replicate]; split <;> rfl
    rw [h0]; unfold sg; split
    · rfl
    · split <;> rfl
theorem flowAt_calm {xs : List I3} {f t : Int} (A : Ask xs f t) (i : Nat) : (∀ v, v ≠ f → v ≠ t → outUp xs (flowAt xs f t i) v xs.length = 0) ∧ 0 ≤ outUp xs (flowAt xs f t i) f xs.length := by
  induction i with
  | zero => exact ⟨fun v _ _ => outUp_zero _ _ _ _, by rw [flowAt, outUp_zero]; omega⟩
  | succ i ih =>
    have o := flowAt_ok A i
    rw [flowAt]; unfold augL
    by_cases h : reach xs (flowAt xs f t i) f t = true
    · rw [if_pos h]
      have R := row_of A o.2 h
      have t0 := A.t0; have t7 := A.t7; have ne := A.ne; have rp := R.pos
      have key := fun v => outUp_rowN A.ok o.1 (mostOf (rowL xs (flowAt xs f t i) f t)) R.tree v _ t.toNat (by omega) R.is rfl
      refine ⟨fun v hf ht => ?_, ?_⟩
      · have := key v
        rw [if_neg hf, if_neg (by omega), ih.1 v hf ht] at this
        exact this.trans (by omega)
      · have := key f
        rw [if_pos rfl, if_neg (by omega)] at this
        have h2 := ih.2
        exact Int.le_trans (by omega) (Int.le_of_eq this.symm)
    · rw [if_neg h]; exact ih
theorem maxF_calm {xs : List I3} {f t : Int} (A : Ask xs f t) : (∀ v, v ≠ f → v ≠ t → outUp xs (maxF xs f t) v xs.length = 0) ∧ 0 ≤ outUp xs (maxF xs f t) f xs.length := flowAt_calm A 2000
end FL
namespace LK
open Go.RowKit
theorem sg_pip (x : I2) (n v : Int) : FL.sg (pip1 x) n v = if x.a0 = n then v else if x.a1 = n then -v else 0 := rfl
/-- A link that leaves a node and has flow. -/
def hit (xs : List I2) (fs : List Int) (u : Int) (k : Nat) : Prop := (MI2.at_ xs k).a0 = u ∧ fs.getD k 0 ≠ 0
structure Fst (xs : List I2) (fs : List Int) (u : Int) (k : Nat) : Prop where
  lt : k < xs.length
  is : hit xs fs u k
  no : ∀ j, j < k → ¬ hit xs fs u j
theorem Fst.same {xs : List I2} {fs : List Int} {u : Int} {k k' : Nat} (h : Fst xs fs u k) (h' : Fst xs fs u k') : k = k' := by
  by_cases a : k < k'
  · exact absurd h.is (h'.no k a)
  · by_cases b : k' < k
    · exact absurd h'.is (h.no k' b)
    · omega
theorem fst_of {xs : List I2} {fs : List Int} {u : Int} : ∀ k, k < xs.length → hit xs fs u k → ∃ k0, Fst xs fs u k0 := by
  intro k
  induction k using Nat.strongRecOn with
  | ind k ih =>
    intro hk h
    by_cases e : ∃ j, j < k ∧ hit xs fs u j
    · obtain ⟨j, hj, h2⟩ := e; exact ih j hj (by omega) h2
    · exact ⟨k, hk, h, fun j hj h2 => e ⟨j, hj, h2⟩⟩
open Classical in
noncomputable def fk (xs : List I2) (fs : List Int) (u : Int) : Nat := if h : ∃ k, Fst xs fs u k then h.choose else 0
theorem fk_is {xs : List I2} {fs : List Int} {u : Int} {k : Nat} (h : Fst xs fs u k) : fk xs fs u = k := by
  have e : ∃ k, Fst xs fs u k := ⟨k, h⟩
  unfold fk; rw [dif_pos e]; exact e.choose_spec.same h
/-- Where one is, the flow that is left, the links gone along. -/
structure Wk where
  pos : Int
  fs : List Int
  way : List Int
noncomputable def wstep (xs : List I2) (s : Wk) : Wk := ⟨(MI2.at_ xs (fk xs s.fs s.pos)).a1, s.fs.set (fk xs s.fs s.pos) 0, s.way ++ [((fk xs s.fs s.pos : Nat) : Int)]⟩
noncomputable def wlk (xs : List I2) (f t : Int) (fs : List Int) : Nat → Wk
  | 0 => ⟨f, fs, []⟩
  | i + 1 => if (wlk xs f t fs i).pos = t then wlk xs f t fs i else wstep xs (wlk xs f t fs i)
def cntUp (fs : List Int) : Nat → Nat
  | 0 => 0
  | k + 1 => cntUp fs k + (if fs.getD k 0 ≠ 0 then 1 else 0)
theorem cnt_le (fs : List Int) : ∀ k, cntUp fs k ≤ k
  | 0 => Nat.le_refl _
  | k + 1 => by have := cnt_le fs k; rw [cntUp]; split <;> omega
theorem cnt_set {fs : List Int} {k : Nat} (hk : k < fs.length) (h : fs.getD k 0 ≠ 0) : ∀ m, cntUp (fs.set k 0) m + (if k < m then 1 else 0) = cntUp fs m
  | 0 => rfl
  | m + 1 => by
    have ih := cnt_set hk h m
    rw [cntUp, cntUp, FL.getD_set _ _ _ _ _ hk]
    by_cases e : k = m
    · subst e
      rw [if_pos rfl, if_neg (by omega), if_pos (by omega), if_pos h]
      rw [if_neg (by omega)] at ih
      omega
    · rw [if_neg e]
      by_cases c : k < m
      · rw [if_pos c] at ih; rw [if_pos (by omega : k < m + 1)]; omega
      · rw [if_neg c] at ih; rw [if_neg (by omega : ¬ k < m + 1)]; omega
/-- A flow of as many ways as are still to be gone, one of them begun. -/
structure Gone (xs : List I2) (f t : Int) (r : Nat) (s : Wk) : Prop where
  len : s.fs.length = xs.length
  one : ∀ k, k < xs.length → s.fs.getD k 0 = 0 ∨ s.fs.getD k 0 = 1
  net : ∀ v, v ≠ t → FL.outUp (pip xs) s.fs v xs.length = (if v = f then (r : Int) else 0) + (if v = s.pos then 1 else 0)
theorem out_neg {xs : List I2} {fs : List Int} {u : Int} (hl : fs.length = xs.length) (h1 : ∀ k, k < xs.length → fs.getD k 0 = 0 ∨ fs.getD k 0 = 1) (h : ∀ k, k < xs.length → ¬ hit xs fs u k) : ∀ m, m ≤ xs.length → FL.outUp (pip xs) fs u m ≤ 0
  | 0, _ => by simp [FL.outUp]
  | m + 1, hm => by
    have ih := out_neg hl h1 h m (by omega)
    have hh := h m (by omega)
    have h2 := h1 m (by omega)
    rw [FL.outUp, pip_at xs m (by omega), sg_pip]
    by_cases e : (MI2.at_ xs m).a0 = u
    · rw [if_pos e]
      have : fs.getD m 0 = 0 := by
        by_cases z : fs.getD m 0 = 0
        · exact z
        · exact absurd ⟨e, z⟩ hh
      omega
    · rw [if_neg e]; split <;> omega
theorem Gone.some {xs : List I2} {f t : Int} {r : Nat} {s : Wk} (h : Gone xs f t r s) (hp : s.pos ≠ t) : ∃ k, Fst xs s.fs s.pos k := by
  by_cases e : ∃ k, k < xs.length ∧ hit xs s.fs s.pos k
  · obtain ⟨k, hk, h2⟩ := e; exact fst_of k hk h2
  · have := out_neg (u := s.pos) h.len h.one (fun k hk h2 => e ⟨k, hk, h2⟩) xs.length (Nat.le_refl _)
    rw [h.net s.pos hp, if_pos rfl] at this
    split at this <;> omega
theorem Gone.step {xs : List I2} {f t : Int} {r : Nat} {s : Wk} (hok : FL.okP (pip xs) = true) (h : Gone xs f t r s) {k : Nat} (hk : Fst xs s.fs s.pos k) : Gone xs f t r (wstep xs s) := by
  have hlk : k < s.fs.length := by rw [h.len]; exact hk.lt
  have h1 : s.fs.getD k 0 = 1 := (h.one k hk.lt).elim (fun e => absurd e hk.is.2) id
  unfold wstep
  rw [fk_is hk]
  refine ⟨by rw [List.length_set]; exact h.len, fun j hj => ?_, fun v hv => ?_⟩
  · show (s.fs.set k 0).getD j 0 = 0 ∨ _
    rw [FL.getD_set _ _ _ _ _ hlk]
    by_cases e : k = j
    · rw [if_pos e]; exact .inl rfl
    · rw [if_neg e]; exact h.one j hj
  · have e := FL.outUp_put (pip xs) s.fs v 1 ⟨k, true, 0, 0⟩ hlk xs.length
    have e1 : FL.put1 1 s.fs ⟨k, true, 0, 0⟩ = s.fs.set k 0 := by
      show s.fs.set k (s.fs.getD k 0 + -1) = _
      rw [h1]; rfl
    rw [e1] at e
    show FL.outUp (pip xs) (s.fs.set k 0) v xs.length = _ + (if v = (MI2.at_ xs k).a1 then 1 else 0)
    rw [e, h.net v hv, if_pos (show k < xs.length from hk.lt)]
    show _ + FL.sg (MI3.at_ (pip xs) k) v (-1) = _
    rw [pip_at xs k hk.lt]
    have G := FL.okP_good hok (k := k) (by rw [pip_len]; exact hk.lt)
    rw [pip_at xs k hk.lt] at G
    have ne : (MI2.at_ xs k).a0 ≠ (MI2.at_ xs k).a1 := G.ne
    have ep := hk.is.1
    rw [sg_pip]
    rw [ep] at ne ⊢
    generalize (if v = f then (r : Int) else 0) = F
    by_cases c1 : v = s.pos
    · subst c1; rw [if_pos rfl, if_pos rfl, if_neg ne]; omega
    · rw [if_neg c1, if_neg (fun e => c1 e.symm)]
      by_cases c2 : v = (MI2.at_ xs k).a1
      · rw [if_pos c2.symm, if_pos c2]; omega
      · rw [if_neg (fun e => c2 e.symm), if_neg c2]; omega
/-- Behind i links. -/
structure AtW (xs : List I2) (f t : Int) (r : Nat) (fs : List Int) (i : Nat) (s : Wk) : Prop where
  is : wlk xs f t fs i = s
  go : Gone xs f t r s
  up : i + cntUp s.fs xs.length ≤ xs.length
  no : ∀ x ∈ s.way, ∃ k : Nat, x = (k : Int) ∧ k < xs.length ∧ (MI2.at_ xs k).a0 ≠ t
  len : s.way.length = i
theorem AtW.start {xs : List I2} {f t : Int} {r : Nat} {fs : List Int} (h : Gone xs f t r ⟨f, fs, []⟩) : AtW xs f t r fs 0 ⟨f, fs, []⟩ :=
  ⟨rfl, h, by have := cnt_le fs xs.length; simpa using this, fun x hx => (by cases hx), rfl⟩
theorem AtW.step {xs : List I2} {f t : Int} {r i k : Nat} {fs : List Int} {s : Wk} (hok : FL.okP (pip xs) = true) (h : AtW xs f t r fs i s) (hp : s.pos ≠ t) (hk : Fst xs s.fs s.pos k) : AtW xs f t r fs (i + 1) ⟨(MI2.at_ xs k).a1, s.fs.set k 0, s.way ++ [(k : Int)]⟩ ∧ cntUp (s.fs.set k 0) xs.length < cntUp s.fs xs.length := by
  have e : wstep xs s = ⟨(MI2.at_ xs k).a1, s.fs.set k 0, s.way ++ [(k : Int)]⟩ := by unfold wstep; rw [fk_is hk]
  have c := cnt_set (fs := s.fs) (k := k) (by rw [h.go.len]; exact hk.lt) hk.is.2 xs.length
  rw [if_pos hk.lt] at c
  have hu := h.up
  refine ⟨⟨by rw [wlk, h.is, if_neg hp, e], by rw [← e]; exact h.go.step hok hk, by show i + 1 + cntUp (s.fs.set k 0) xs.length ≤ _; omega, ?_, by simp [h.len]⟩, by omega⟩
  intro x hx
  have hx' : x ∈ s.way ++ [(k : Int)] := hx
  rcases List.mem_append.1 hx' with hx | hx
  · exact h.no x hx
  · rw [List.mem_singleton] at hx; exact ⟨k, hx, hk.lt, by rw [hk.is.1]; exact hp⟩
theorem wlk_stays {xs : List I2} {f t : Int} {fs : List Int} {i : Nat} (h : (wlk xs f t fs i).pos = t) : ∀ d, wlk xs f t fs (i + d) = wlk xs f t fs i
  | 0 => rfl
  | d + 1 => by rw [← Nat.add_assoc, wlk, wlk_stays h d, if_pos h]
noncomputable def fin (xs : List I2) (f t : Int) (fs : List Int) : Wk := wlk xs f t fs xs.length
theorem AtW.fin {xs : List I2} {f t : Int} {r i : Nat} {fs : List Int} {s : Wk} (h : AtW xs f t r fs i s) (hp : s.pos = t) : fin xs f t fs = s := by
  unfold LK.fin
  have hu := h.up
  rw [show xs.length = i + (xs.length - i) from by omega, wlk_stays (by rw [h.is]; exact hp), h.is]
theorem Gone.next {xs : List I2} {f t : Int} {r : Nat} {s : Wk} (h : Gone xs f t r s) (hp : s.pos = t) (hr : 1 ≤ r) : Gone xs f t (r - 1) ⟨f, s.fs, []⟩ := by
  refine ⟨h.len, h.one, fun v hv => ?_⟩
  rw [h.net v hv, hp, if_neg hv]
  show _ = _ + (if v = f then 1 else 0)
  by_cases e : v = f
  · rw [if_pos e, if_pos e, if_pos e]; all_goals omega
  · rw [if_neg e, if_neg e, if_neg e]; all_goals omega
/-- Each round goes as it closes. -/
def cutW (xs : List I2) (l : List Int) (u : Int) : List Int := l.takeWhile fun k => decide ((MI2.at_ xs k.toNat).a0 ≠ u)
def ers (xs : List I2) (w : List Int) : List Int := w.foldl (fun acc k => cutW xs (acc ++ [k]) (MI2.at_ xs k.toNat).a1) []
theorem ers_snoc (xs : List I2) (w : List Int) (k : Int) : ers xs (w ++ [k]) = cutW xs (ers xs w ++ [k]) (MI2.at_ xs k.toNat).a1 := by simp [ers]
/-- The last of a row that leaves a node, and what is behind it. -/
def lastOf (xs : List I2) (u : Int) : List Int → Option (Int × List Int)
  | [] => none
  | y :: w => match lastOf xs u w with
    | some r => some r
    | none => if (MI2.at_ xs y.toNat).a0 = u then some (y, w) else none
theorem lastOf_len {xs : List I2} {u : Int} : ∀ {w : List Int} {z : Int} {v : List Int}, lastOf xs u w = some (z, v) → v.length < w.length
  | y :: w, z, v, h => by
    rw [lastOf] at h
    split at h
    · rename_i r e
      cases h
      have := lastOf_len e
      simp; omega
    · split at h
      · cases h; simp
      · cases h
theorem lastOf_is {xs : List I2} {u : Int} : ∀ {w : List Int} {z : Int} {v : List Int}, lastOf xs u w = some (z, v) → (MI2.at_ xs z.toNat).a0 = u
  | y :: w, z, v, h => by
    rw [lastOf] at h
    split at h
    · rename_i r e; cases h; exact lastOf_is e
    · split at h
      · rename_i hy; cases h; exact hy
      · cases h
def strt (xs : List I2) (w : List Int) : List Int := match _h : lastOf xs (MI2.at_ xs (w.headD 0).toNat).a0 w with
  | none => []
  | some (z, v) => z :: strt xs v
termination_by w.length
decreasing_by exact lastOf_len _h
theorem lastOf_some (xs : List I2) (y : Int) (w : List Int) : ∃ z v, lastOf xs (MI2.at_ xs y.toNat).a0 (y :: w) = some (z, v) := by
  rw [lastOf]
  split
  · rename_i r e; exact ⟨r.1, r.2, rfl⟩
  · rw [if_pos rfl]; exact ⟨y, w, rfl⟩
theorem strt_nil (xs : List I2) : strt xs [] = [] := by rw [strt]; rfl
theorem strt_cons {xs : List I2} {y z : Int} {w v : List Int} (h : lastOf xs (MI2.at_ xs y.toNat).a0 (y :: w) = some (z, v)) : strt xs (y :: w) = z :: strt xs v := by
  rw [strt]
  split
  · rename_i e; simp only [List.headD_cons] at e; rw [h] at e; cases e
  · rename_i z' v' e; simp only [List.headD_cons] at e; rw [h] at e; cases e; rfl
theorem lastOf_snoc_eq {xs : List I2} {u : Int} {k : Int} (hk : (MI2.at_ xs k.toNat).a0 = u) : ∀ w : List Int, lastOf xs u (w ++ [k]) = some (k, [])
  | [] => by simp [lastOf, hk]
  | y :: w => by rw [List.cons_append, lastOf, lastOf_snoc_eq hk w]
theorem lastOf_snoc_ne {xs : List I2} {u : Int} {k : Int} (hk : (MI2.at_ xs k.toNat).a0 ≠ u) : ∀ w : List Int, lastOf xs u (w ++ [k]) = (lastOf xs u w).map fun r => (r.1, r.2 ++ [k])
  | [] => by simp [lastOf, hk]
  | y :: w => by
    rw [List.cons_append, lastOf, lastOf_snoc_ne hk w, lastOf]
    cases h : lastOf xs u w with
    | some r => simp
    | none => simp only [Option.map_none]; split <;> simp
theorem strt_snoc (xs : List I2) (k : Int) : ∀ (n : Nat) (w : List Int), w.length = n → strt xs (w ++ [k]) = cutW xs (strt xs w) (MI2.at_ xs k.toNat).a0 ++ [k] := by
  intro n
  induction n using Nat.strongRecOn with
  | ind n ih =>
    intro w hn
    cases w with
    | nil =>
      rw [List.nil_append, strt_cons (z := k) (v := []) (by simp [lastOf]), strt_nil, cutW]; rfl
    | cons y w =>
      obtain ⟨z, v, e⟩ := lastOf_some xs y w
      have hz := lastOf_is e
      have hv := lastOf_len e
      by_cases c : (MI2.at_ xs k.toNat).a0 = (MI2.at_ xs y.toNat).a0
      · rw [List.cons_append, strt_cons (z := k) (v := []) (by rw [← List.cons_append]; exact lastOf_snoc_eq c _), strt_nil, strt_cons e, cutW, List.takeWhile_cons, if_neg (by rw [hz, c]; simp)]
        rfl
      · rw [List.cons_append, strt_cons (z := z) (v := v ++ [k]) (by rw [← List.cons_append, lastOf_snoc_ne c, e]; rfl), strt_cons e, ih v.length (by omega) v rfl, cutW, cutW, List.takeWhile_cons, if_pos (by rw [hz]; simpa using fun h => c h.symm)]
        rfl
theorem cut_all {xs : List I2} {l : List Int} {u : Int} (h : ∀ x ∈ l, (MI2.at_ xs x.toNat).a0 ≠ u) : cutW xs l u = l := by
  induction l with
  | nil => rfl
  | cons y l ih =>
    have hy := h y (List.mem_cons_self ..)
    unfold cutW at ih ⊢
    rw [List.takeWhile_cons, if_pos (by simpa using hy), ih fun x hx => h x (List.mem_cons_of_mem _ hx)]
theorem strt_mem (xs : List I2) : ∀ (n : Nat) (w : List Int), w.length = n → ∀ x ∈ strt xs w, x ∈ w := by
  have key : ∀ (u : Int) (w : List Int) (z : Int) (v : List Int), lastOf xs u w = some (z, v) → z ∈ w ∧ ∀ x ∈ v, x ∈ w := by
    intro u w
    induction w with
    | nil => intro z v h; cases h
    | cons y w ih =>
      intro z v h
      rw [lastOf] at h
      split at h
      · rename_i r e
        cases h
        have := ih z v e
        exact ⟨List.mem_cons_of_mem _ this.1, fun x hx => List.mem_cons_of_mem _ (this.2 x hx)⟩
      · split at h
        · cases h; exact ⟨List.mem_cons_self .., fun x hx => List.mem_cons_of_mem _ hx⟩
        · cases h
  intro n
  induction n using Nat.strongRecOn with
  | ind n ih =>
    intro w hn x hx
    cases w with
    | nil => rw [strt_nil] at hx; cases hx
    | cons y w =>
      obtain ⟨z, v, e⟩ := lastOf_some xs y w
      rw [strt_cons e] at hx
      have k := key _ _ _ _ e
      have hv := lastOf_len e
      rcases List.mem_cons.1 hx with rfl | hx
      · exact k.1
      · exact k.2 x (ih v.length (by omega) v rfl x hx)
/-- The links lead on: the row ends at u. -/
theorem ers_is {xs : List I2} {f t : Int} {fs : List Int} : ∀ i, ers xs (wlk xs f t fs i).way = cutW xs (strt xs (wlk xs f t fs i).way) (wlk xs f t fs i).pos ∨ ∃ j, j ≤ i ∧ (wlk xs f t fs j).pos ≠ t ∧ ¬ ∃ k, Fst xs (wlk xs f t fs j).fs (wlk xs f t fs j).pos k := by
  intro i
  induction i with
  | zero => left; show ers xs [] = cutW xs (strt xs []) f; rw [strt_nil]; rfl
  | succ i ih =>
    rcases ih with ih | ⟨j, hj, h⟩
    · rw [wlk]
      by_cases c : (wlk xs f t fs i).pos = t
      · rw [if_pos c]; exact .inl ih
      · by_cases e : ∃ k, Fst xs (wlk xs f t fs i).fs (wlk xs f t fs i).pos k
        · left
          rw [if_neg c]
          obtain ⟨k, hk⟩ := e
          unfold wstep
          rw [fk_is hk]
          show ers xs ((wlk xs f t fs i).way ++ [(k : Int)]) = cutW xs (strt xs ((wlk xs f t fs i).way ++ [(k : Int)])) (MI2.at_ xs k).a1
          rw [ers_snoc, strt_snoc xs k _ _ rfl, ih, show ((k : Nat) : Int).toNat = k from by omega, hk.is.1]
        · exact .inr ⟨i, by omega, c, e⟩
    · exact .inr ⟨j, by omega, h⟩
theorem AtW.ers {xs : List I2} {f t : Int} {r i : Nat} {fs : List Int} {s : Wk} (hg : ∀ j, j ≤ i → (wlk xs f t fs j).pos ≠ t → ∃ k, Fst xs (wlk xs f t fs j).fs (wlk xs f t fs j).pos k) (h : AtW xs f t r fs i s) (hp : s.pos = t) : ers xs s.way = strt xs s.way := by
  rcases ers_is (xs := xs) (f := f) (t := t) (fs := fs) i with e | ⟨j, hj, h1, h2⟩
  · rw [h.is] at e
    rw [e]
    refine cut_all fun x hx => ?_
    obtain ⟨k, rfl, _, h3⟩ := h.no x (strt_mem xs _ _ rfl x hx)
    rw [hp]; simpa using h3
  · exact absurd (hg j hj h1) h2
theorem wlk_gone {xs : List I2} {f t : Int} {r : Nat} {fs : List Int} (hok : FL.okP (pip xs) = true) (h : Gone xs f t r ⟨f, fs, []⟩) : ∀ i, Gone xs f t r (wlk xs f t fs i)
  | 0 => h
  | i + 1 => by
    have g := wlk_gone hok h i
    rw [wlk]
    by_cases c : (wlk xs f t fs i).pos = t
    · rw [if_pos c]; exact g
    · rw [if_neg c]
      obtain ⟨k, hk⟩ := g.some c
      exact g.step hok hk
theorem AtW.same {xs : List I2} {f t : Int} {r i : Nat} {fs : List Int} {s : Wk} (hok : FL.okP (pip xs) = true) (h0 : Gone xs f t r ⟨f, fs, []⟩) (h : AtW xs f t r fs i s) (hp : s.pos = t) : LK.ers xs s.way = strt xs s.way :=
  h.ers (fun j _ hj => (wlk_gone hok h0 j).some hj) hp
/-- The ways, one after another, and the flow that is left. -/
noncomputable def waysUp (xs : List I2) (f t : Int) (fs : List Int) : Nat → List (List Int) × List Int
  | 0 => ([], fs)
  | i + 1 => ((waysUp xs f t fs i).1 ++ [strt xs (fin xs f t (waysUp xs f t fs i).2).way], (fin xs f t (waysUp xs f t fs i).2).fs)
theorem ways_len (xs : List I2) (f t : Int) (fs : List Int) : ∀ i, (waysUp xs f t fs i).1.length = i
  | 0 => rfl
  | i + 1 => by rw [waysUp, List.length_append, ways_len xs f t fs i]; rfl
end LK
end Go.Proofs.Ytcpkcaaplhgioaa

/- A row of the call's own that is cut by a third index and grows again: plain facts, over whatever program. -/
namespace Go.Proofs.Ytcpkcaaplhgioaa
namespace LK
open Go.RowKit
structure Wy (w : World) (B : Nat) (v : Value) (l : List Int) : Prop where
  is : ∃ g c m vs, v = .slice (some ⟨g, 0, none⟩) l.length c ∧ w.ownsRow B 3 1 (.slice (some ⟨g, 0, none⟩) m m) m vs ∧ l.length ≤ c ∧ c ≤ m ∧ vs.take l.length = M4.iv l
theorem Wy.view {w : World} {B : Nat} {v : Value} {l : List Int} (h : Wy w B v l) : ∃ g c, v = .slice (some ⟨g, 0, none⟩) l.length c ∧ B ≤ g ∧ g < w.heap.size ∧ l.length ≤ c ∧ c ≤ maxLen ∧ NR.In w B (some ⟨g, 0, none⟩) l := by
  obtain ⟨g, c, m, vs, rfl, hw, h1, h2, h3⟩ := h.is
  have := hw.lt g rfl
  have hm : m ≤ maxLen := by
    rcases hw.2 with ⟨h', _⟩ | ⟨_, cap, _, hv, _, _, h3, h4, _⟩
    · cases h'
    · cases hv; exact h4
  exact ⟨g, c, rfl, this.1, this.2, h1, by omega, ⟨.inr ⟨g, m, vs, rfl, hw, by omega, h3⟩⟩⟩
theorem Wy.below {w w' : World} {B : Nat} {v : Value} {l : List Int} (h : Wy w B v l) (hb : Below w.heap.size w w') : Wy w' B v l := by
  obtain ⟨g, c, m, vs, hv, hw, h1, h2, h3⟩ := h.is
  exact ⟨g, c, m, vs, hv, M5.own_below hw hb, h1, h2, h3⟩
theorem Wy.only {w w' : World} {B p : Nat} {v : Value} {l : List Int} (h : Wy w B v l) (ho : MC.Only p w w') (hp : p < B) : Wy w' B v l := by
  obtain ⟨g, c, m, vs, hv, hw, h1, h2, h3⟩ := h.is
  refine ⟨g, c, m, vs, hv, NR.own_only hw ho (fun e => ?_), h1, h2, h3⟩
  have := (hw.lt p e).1; omega
theorem Wy.start (w : World) : Wy (w.alloc (.cells #[] 3)) w.heap.size (.slice (some ⟨w.heap.size, 0, none⟩) 0 0) [] := by
  have := World.ownsRow_lit (base := w.heap.size) (e := 3) (size := 1) w #[] 0 (by simp) (by unfold maxLen; omega) (by simp)
  exact ⟨w.heap.size, 0, 0, [], rfl, by simpa using this, Nat.le_refl _, Nat.le_refl _, rfl⟩
/-- Cut at the i-th. -/
theorem Wy.cut {w : World} {B g c i : Nat} {l : List Int} (h : Wy w B (.slice (some ⟨g, 0, none⟩) l.length c) l) (hi : i ≤ l.length) (c' : Nat) (hc : c' = i) : Wy w B (.slice (some ⟨g, 0, none⟩) (l.take i).length c') (l.take i) := by
  obtain ⟨g', c2, m, vs, hv, hw, h1, h2, h3⟩ := h.is
  simp only [Value.slice.injEq, Option.some.injEq, Addr.mk.injEq, and_true] at hv
  obtain ⟨rfl, -, rfl⟩ := hv
  have hl : (l.take i).length = i := by simp; omega
  refine ⟨g, c', m, vs, rfl, hw, by omega, by omega, ?_⟩
  rw [hl]
  have : (vs.take l.length).take i = vs.take i := by rw [List.take_take]; congr 1; omega
  rw [← this, h3]
  simp [M4.iv]
theorem Wy.grow {P : Program} {w : World} {B : Nat} {v : Value} {l : List Int} {x : Int} {t ty : TypeId} {i : TypeInfo} {ad : Addr} (ht : P.underlying t = some (.slice 3)) (hi : P.info? 3 = some i) (hz : i.zero = some (.int .i64 0)) (hs : i.size = 1) (hby : i.bytes = 8) (h : Wy w B v l) (hB : B ≤ w.heap.size) (hl : l.length ≤ 1000) (hn : ∀ j u, [Value.int .i64 x][j]? = some u → w.cell? (ad.add j) = some u) :
    ∃ v' w', (Builtin.append_ #[t, t] ty #[v, .slice (some ad) 1 1]).run P w = .ok v' w' ∧ Wy w' B v' (l ++ [x]) ∧ w.grownBy w' v.ownBlock := by
  obtain ⟨g, c, m, vs, rfl, hw, h1, h2, h3⟩ := h.is
  have hlen := hw.1
  have hll : (l ++ [x]).length = l.length + 1 := by simp
  by_cases hr : l.length + 1 ≤ c
  · have hcell : ∀ j, j < [Value.int .i64 x].length → (w.cell? ⟨g, 0 + l.length * i.size + j, none⟩).isSome = true := fun j hj => by
      rw [hw.cellAt _ (by rw [hs]; simp at hj; omega), List.getElem?_eq_getElem (by rw [hs]; simp at hj; omega)]; rfl
    have run := run_append_room_cells (P := P) w t ty 3 i ht hi g 0 l.length c ad 1 1 [.int .i64 x] (by rw [hs]; rfl) hn (M2.one1 _ _) hr hcell (fun j hj => hw.frozenAt _)
    rw [show 0 + l.length * i.size = l.length from by rw [hs]; omega] at run
    have st := hw.stored l.length (.int .i64 x)
    refine ⟨_, _, run, ⟨g, c, m, _, by rw [hll], st.1, by omega, h2, ?_⟩, ?_⟩
    · rw [hll, List.take_succ_eq_append_getElem (by rw [List.length_set]; omega), List.take_set_of_le (Nat.le_refl _), h3, List.getElem_set_self]
      simp [M4.iv]
    · exact st.2
  · have hold : ∀ j u, (M4.iv l)[j]? = some u → w.cell? ((⟨g, 0, none⟩ : Addr).add j) = some u := fun j u hj => by
      have hjl : j < l.length := by have := (List.getElem?_eq_some_iff.1 hj).1; simpa [M4.iv] using this
      rw [show (⟨g, 0, none⟩ : Addr).add j = ⟨g, j, none⟩ from by unfold Addr.add; split <;> simp_all, hw.cellAt j (by omega)]
      have : (vs.take l.length)[j]? = vs[j]? := by rw [List.getElem?_take, if_pos hjl]
      rw [← this, h3]; exact hj
    obtain ⟨v', w', run, r1, r2⟩ := run_append_arg_grows (P := P) w t ty 3 i (.int .i64 0) 1 8 ht hi hz hs hby rfl (by decide) ⟨g, 0, none⟩ l.length c (M4.iv l) (by simp [M4.iv]) hold ad 1 1 [.int .i64 x] rfl hn (by omega) (by unfold maxLen; omega) (by omega)
    refine ⟨v', w', run, ?_, ⟨r2.os, r2.tape, r2.output, r2.size, fun k hk _ => r2.block k hk (by simp)⟩⟩
    rcases r1.2 with ⟨_, h0⟩ | ⟨g', cap', cur, rfl, hB', hg', q1, q2, q3, q4⟩
    · omega
    · refine ⟨g', cap', cap', cur.toList, by rw [hll], ⟨by simp [q3], .inr ⟨g', cap', cur, rfl, by omega, hg', Nat.le_refl _, q2, q3, ?_⟩⟩, by omega, Nat.le_refl _, ?_⟩
      · rw [List.take_of_length_le]; simp [q3]
      · rw [hll]
        simpa [M4.iv] using q4
theorem cut_take (xs : List I2) (l : List Int) (u : Int) : ∃ i, i ≤ l.length ∧ cutW xs l u = l.take i := by
  refine ⟨(cutW xs l u).length, ?_, ?_⟩
  · unfold cutW; exact (List.takeWhile_sublist _).length_le
  · unfold cutW; exact (List.prefix_iff_eq_take.1 (List.takeWhile_prefix _))
/-- Where a row is cut. -/
theorem cut_at {xs : List I2} {u : Int} : ∀ {l : List Int} {i : Nat}, i < l.length → (∀ j, j < i → (MI2.at_ xs (l.getD j 0).toNat).a0 ≠ u) → (MI2.at_ xs (l.getD i 0).toNat).a0 = u → cutW xs l u = l.take i
  | y :: l, 0, _, _, h => by unfold cutW; rw [List.takeWhile_cons, if_neg (by simpa using h)]; rfl
  | y :: l, i + 1, hi, h1, h2 => by
    have h0 := h1 0 (by omega)
    have ih := cut_at (l := l) (i := i) (by simpa using hi) (fun j hj => by simpa using h1 (j + 1) (by omega)) (by simpa using h2)
    unfold cutW at ih ⊢
    rw [List.takeWhile_cons, if_pos (by simpa using h0), ih]; rfl
theorem cut_none {xs : List I2} {u : Int} {l : List Int} (h : ∀ j, j < l.length → (MI2.at_ xs (l.getD j 0).toNat).a0 ≠ u) : cutW xs l u = l := by
  refine cut_all fun x hx => ?_
  obtain ⟨j, hj, rfl⟩ := List.mem_iff_getElem.1 hx
  have := h j hj
  rwa [List.getD_eq_getElem?_getD, List.getElem?_eq_getElem hj] at this
theorem cut_mem {xs : List I2} {u x : Int} {l : List Int} (h : x ∈ cutW xs l u) : x ∈ l := by
  unfold cutW at h; exact (List.takeWhile_sublist _).subset h
theorem ers_mem (xs : List I2) {x : Int} : ∀ (n : Nat) (w : List Int), w.length = n → x ∈ ers xs w → x ∈ w := by
  intro n
  induction n with
  | zero => intro w hw h; rw [List.eq_nil_of_length_eq_zero hw] at h; cases h
  | succ n ih =>
    intro w hw h
    have hne : w ≠ [] := fun e => by rw [e] at hw; cases hw
    rw [← List.dropLast_concat_getLast hne] at h ⊢
    rw [ers_snoc] at h
    rcases List.mem_append.1 (cut_mem h) with h | h
    · exact List.mem_append_left _ (ih _ (by simp [hw]) h)
    · exact List.mem_append_right _ h
theorem ers_len (xs : List I2) : ∀ (n : Nat) (w : List Int), w.length = n → (ers xs w).length ≤ n := by
  intro n
  induction n with
  | zero => intro w hw; rw [List.eq_nil_of_length_eq_zero hw]; simp [ers]
  | succ n ih =>
    intro w hw
    have hne : w ≠ [] := fun e => by rw [e] at hw; cases hw
    rw [← List.dropLast_concat_getLast hne, ers_snoc]
    obtain ⟨i, hi, e⟩ := cut_take xs (ers xs w.dropLast ++ [w.getLast hne]) (MI2.at_ xs (w.getLast hne).toNat).a1
    have := ih w.dropLast (by simp [hw])
    rw [e]
    simp at hi ⊢
    omega
end LK
end Go.Proofs.Ytcpkcaaplhgioaa

/- All the ways, one after another: plain facts, over whatever program. -/
namespace Go.Proofs.Ytcpkcaaplhgioaa
namespace LK
open Go.RowKit
/-- A flow of m ways. -/
structure Flw (xs : List I2) (f t : Int) (m : Nat) (fs : List Int) : Prop where
  len : fs.length = xs.length
  one : ∀ k, k < xs.length → fs.getD k 0 = 0 ∨ fs.getD k 0 = 1
  net : ∀ v, v ≠ t → FL.outUp (pip xs) fs v xs.length = if v = f then (m : Int) else 0
theorem Flw.gone {xs : List I2} {f t : Int} {m : Nat} {fs : List Int} (h : Flw xs f t m fs) (hm : 1 ≤ m) : Gone xs f t (m - 1) ⟨f, fs, []⟩ := by
  refine ⟨h.len, h.one, fun v hv => ?_⟩
  rw [h.net v hv]
  show _ = _ + (if v = f then 1 else 0)
  by_cases e : v = f
  · rw [if_pos e, if_pos e, if_pos e]; omega
  · rw [if_neg e, if_neg e, if_neg e]; rfl
theorem atW_end {xs : List I2} {f t : Int} {r : Nat} {fs : List Int} (hok : FL.okP (pip xs) = true) : ∀ (d i : Nat) (s : Wk), AtW xs f t r fs i s → cntUp s.fs xs.length ≤ d → ∃ i' s', AtW xs f t r fs i' s' ∧ s'.pos = t := by
  intro d
  induction d with
  | zero =>
    intro i s h hd
    by_cases hp : s.pos = t
    · exact ⟨i, s, h, hp⟩
    · obtain ⟨k, hk⟩ := h.go.some hp
      have := (h.step hok hp hk).2
      omega
  | succ d ih =>
    intro i s h hd
    by_cases hp : s.pos = t
    · exact ⟨i, s, h, hp⟩
    · obtain ⟨k, hk⟩ := h.go.some hp
      have n := h.step hok hp hk
      exact ih _ _ n.1 (by have := n.2; show cntUp (s.fs.set k 0) xs.length ≤ d; omega)
theorem fin_end {xs : List I2} {f t : Int} {r : Nat} {fs : List Int} (hok : FL.okP (pip xs) = true) (h : Gone xs f t r ⟨f, fs, []⟩) : ∃ i, AtW xs f t r fs i (fin xs f t fs) ∧ (fin xs f t fs).pos = t := by
  obtain ⟨i, s, h1, h2⟩ := atW_end hok _ 0 _ (AtW.start h) (Nat.le_refl _)
  have e := h1.fin h2
  rw [e]; exact ⟨i, h1, h2⟩
theorem Flw.next {xs : List I2} {f t : Int} {m : Nat} {fs : List Int} (hok : FL.okP (pip xs) = true) (h : Flw xs f t m fs) (hm : 1 ≤ m) : Flw xs f t (m - 1) (fin xs f t fs).fs := by
  obtain ⟨i, h1, h2⟩ := fin_end hok (h.gone hm)
  refine ⟨h1.go.len, h1.go.one, fun v hv => ?_⟩
  rw [h1.go.net v hv, h2, if_neg hv]; omega
theorem strt_len (xs : List I2) : ∀ (n : Nat) (w : List Int), w.length = n → (strt xs w).length ≤ n := by
  intro n
  induction n using Nat.strongRecOn with
  | ind n ih =>
    intro w hn
    cases w with
    | nil => rw [strt_nil]; simp
    | cons y w =>
      obtain ⟨z, v, e⟩ := lastOf_some xs y w
      have hv := lastOf_len e
      rw [strt_cons e]
      have := ih v.length (by omega) v rfl
      simp only [List.length_cons] at hn hv ⊢
      omega
theorem way_len {xs : List I2} {f t : Int} {m : Nat} {fs : List Int} (hok : FL.okP (pip xs) = true) (h : Flw xs f t m fs) (hm : 1 ≤ m) : (strt xs (fin xs f t fs).way).length ≤ 20 := by
  obtain ⟨i, h1, h2⟩ := fin_end hok (h.gone hm)
  have := strt_len xs _ (fin xs f t fs).way rfl
  have := h1.len
  have := h1.up
  have := ((FL.okP_iff _).1 hok).1
  rw [pip_len] at this
  omega
theorem ways_flw {xs : List I2} {f t : Int} {m : Nat} {fs : List Int} (hok : FL.okP (pip xs) = true) (h : Flw xs f t m fs) : ∀ i, i ≤ m → Flw xs f t (m - i) (waysUp xs f t fs i).2
  | 0, _ => h
  | i + 1, hi => by
    have g := ways_flw hok h i (by omega)
    have n := g.next hok (by omega)
    rw [waysUp]
    rwa [show m - i - 1 = m - (i + 1) from by omega] at n
theorem ways_tot {xs : List I2} {f t : Int} {m : Nat} {fs : List Int} (hok : FL.okP (pip xs) = true) (h : Flw xs f t m fs) : ∀ i, i ≤ m → NR.tot (waysUp xs f t fs i).1 ≤ 20 * i
  | 0, _ => by simp [waysUp, NR.tot]
  | i + 1, hi => by
    have g := ways_tot hok h i (by omega)
    have l := way_len hok (ways_flw hok h i (by omega)) (by omega)
    rw [waysUp, NR.tot_app, NR.tot_one]
    omega
theorem maxF_flw {xs : List I2} {f t : Int} (A : FL.Ask (pip xs) f t) : Flw xs f t (FL.outUp (pip xs) (FL.maxF (pip xs) f t) f xs.length).toNat (FL.maxF (pip xs) f t) := by
  have o := FL.maxF_ok A
  have c := FL.maxF_calm A
  rw [pip_len] at o c
  refine ⟨o.1, fun k hk => ?_, fun v hv => ?_⟩
  · have := o.2 k hk
    rw [pip_at xs k hk] at this
    simp only [pip1] at this
    omega
  · by_cases e : v = f
    · rw [if_pos e, e]; have := c.2; omega
    · rw [if_neg e]; exact c.1 v e hv
/-- What is answered. -/
noncomputable def wsL (xs : List I2) (f t : Int) : List (List Int) := if FL.ask (pip xs) f t = true then (waysUp xs f t (FL.maxF (pip xs) f t) (FL.outUp (pip xs) (FL.maxF (pip xs) f t) f xs.length).toNat).1 else []
theorem many_le {xs : List I2} {f t : Int} (A : FL.Ask (pip xs) f t) : (FL.outUp (pip xs) (FL.maxF (pip xs) f t) f xs.length).toNat ≤ 2000 := by
  have o := FL.maxF_ok A
  have w := FL.outUp_within (n := f) A.ok o.2 xs.length (by rw [pip_len]; omega)
  have := A.len
  rw [pip_len] at this
  omega
theorem wsL_len (xs : List I2) (f t : Int) : (wsL xs f t).length ≤ 1048576 := by
  unfold wsL; split
  · rename_i h
    rw [ways_len]
    have := many_le (FL.ask_is h); omega
  · simp
theorem wsL_tot (xs : List I2) (f t : Int) : NR.tot (wsL xs f t) ≤ 1048576 := by
  unfold wsL; split
  · rename_i h
    have := ways_tot (FL.ask_is h).ok (maxF_flw (FL.ask_is h)) _ (Nat.le_refl _)
    have := many_le (FL.ask_is h); omega
  · simp [NR.tot]
structure WsC (xs : List I2) (f t : Int) (is : Bool) (L : List (List Int)) (F : List Int) (N : Int) : Prop where
  no : is = false → L = []
  yes : is = true → FL.okP (pip xs) = true ∧ xs.length ≤ 20 ∧ Flw xs f t N.toNat F ∧ L = (waysUp xs f t F N.toNat).1 ∧ 0 ≤ N ∧ N ≤ 2000 ∧ f ≠ t
theorem wsC (xs : List I2) (f t : Int) : WsC xs f t (FL.ask (pip xs) f t) (wsL xs f t) (FL.maxF (pip xs) f t) (FL.outUp (pip xs) (FL.maxF (pip xs) f t) f xs.length) := by
  constructor
  · intro h; simp [wsL, h]
  · intro h
    have A := FL.ask_is h
    have h1 := A.len
    rw [pip_len] at h1
    have c := (FL.maxF_calm A).2
    rw [pip_len] at c
    have m := many_le A
    exact ⟨A.ok, h1, maxF_flw A, by simp [wsL, h], c, by omega, A.ne⟩
/-- The ways that were found, and what is not yet filled. -/
structure Ws (T : TypeId) (w : World) (B go N : Nat) (ds : List (List Int)) (A : Nat → Option Addr) (C : Nat → Nat) : Prop where
  out : w.ownsRow B T 1 (.slice (some ⟨go, 0, none⟩) N N) N (NR.hd ds A C ++ List.replicate (N - ds.length) (.slice none 0 0))
  row : ∀ j, j < ds.length → NR.In w B (A j) (NR.rw_ ds j)
  far : ∀ i j, i < j → j < ds.length → NR.rw_ ds i ≠ [] → NR.rw_ ds j ≠ [] → A i ≠ A j
theorem Ws.own {T : TypeId} {w : World} {B go N : Nat} {ds : List (List Int)} {A : Nat → Option Addr} {C : Nat → Nat} (h : Ws T w B go N ds A C) (hN : ds.length = N) : NR.Own T w B (.slice (some ⟨go, 0, none⟩) N N) ds A C := by
  refine ⟨?_, h.row, h.far⟩
  have := h.out
  rw [hN, Nat.sub_self, List.replicate_zero, List.append_nil] at this
  rw [hN]; exact this
theorem Ws.only {T : TypeId} {w w' : World} {B go N p : Nat} {ds : List (List Int)} {A : Nat → Option Addr} {C : Nat → Nat} (h : Ws T w B go N ds A C) (ho : MC.Only p w w') (hp : p < B) : Ws T w' B go N ds A C := by
  refine ⟨NR.own_only h.out ho (fun e => by have := (h.out.lt _ e).1; omega), fun j hj => ?_, h.far⟩
  by_cases e : NR.rw_ ds j = []
  · rw [e]; exact .nil _ _ _
  · refine (h.row j hj).only ho (fun ea => ?_)
    have r := h.row j hj
    rw [ea] at r
    have := (r.lt e).1; omega
theorem in_ne {T : TypeId} (hT : T ≠ 3) {w : World} {B go N : Nat} {a : Option Addr} {l : List Int} {vs : List Value} (h : NR.In w B a l) (hl : l ≠ []) (ho : w.ownsRow B T 1 (.slice (some ⟨go, 0, none⟩) N N) N vs) : a ≠ some ⟨go, 0, none⟩ := by
  intro ea
  rcases h.is with e | ⟨g, m, us, ha, hw, _⟩
  · exact hl e
  · rw [ea] at ha
    simp only [Option.some.injEq, Addr.mk.injEq, and_true] at ha
    subst ha
    rcases hw.2 with ⟨h', _⟩ | ⟨g3, cap3, cur3, hv3, _, hg3, _⟩
    · cases h'
    · simp only [Value.slice.injEq, Option.some.injEq, Addr.mk.injEq, and_true] at hv3
      obtain ⟨rfl, _⟩ := hv3
      rcases ho.2 with ⟨h', _⟩ | ⟨g4, cap4, cur4, hv4, _, hg4, _⟩
      · cases h'
      · simp only [Value.slice.injEq, Option.some.injEq, Addr.mk.injEq, and_true] at hv4
        obtain ⟨rfl, _⟩ := hv4
        rw [hg4] at hg3
        simp only [Option.some.injEq, Obj.cells.injEq] at hg3
        exact hT hg3.2.1
theorem Ws.put {T : TypeId} (hT : T ≠ 3) {w : World} {B go N X : Nat} {ds : List (List Int)} {l : List Int} {A : Nat → Option Addr} {C : Nat → Nat} {a : Option Addr} {c : Nat} (h : Ws T w B go N ds A C) (hd : ds.length < N) (hin : NR.In w X a l) (hB : B ≤ X) (hold : ∀ j, j < ds.length → NR.rw_ ds j ≠ [] → ∀ g, A j = some ⟨g, 0, none⟩ → g < X) : Ws T (w.setCell ⟨go, ds.length, none⟩ (.slice a l.length c)) B go N (ds ++ [l]) (NR.setF A ds.length a) (NR.setF C ds.length c) := by
  have st := h.out.stored ds.length (.slice a l.length c)
  have on := (MC.Only.refl go w).setCell ds.length (.slice a l.length c)
  have hin' := hin.mono hB
  refine ⟨?_, fun j hj => ?_, fun i j hij hj hi0 hj0 => ?_⟩
  · have := st.1
    rw [List.set_append_right _ _ (by rw [NR.hd_len]; omega), NR.hd_len, Nat.sub_self, show N - ds.length = (N - (ds.length + 1)) + 1 from by omega, List.replicate_succ, List.set_cons_zero] at this
    rw [NR.hd_snoc, List.append_assoc, List.length_append]
    exact this
  · rw [List.length_append, List.length_singleton] at hj
    by_cases e : j = ds.length
    · subst e
      rw [NR.rw_snoc_eq, NR.setF, if_pos rfl]
      by_cases el : l = []
      · rw [el]; exact .nil _ _ _
      · exact hin'.only on (in_ne hT hin' el h.out)
    · rw [NR.rw_snoc_lt ds l (by omega), NR.setF, if_neg e]
      by_cases el : NR.rw_ ds j = []
      · rw [el]; exact .nil _ _ _
      · exact (h.row j (by omega)).only on (in_ne hT (h.row j (by omega)) el h.out)
  · rw [List.length_append, List.length_singleton] at hj
    have hi : i < ds.length := by omega
    rw [NR.rw_snoc_lt ds l hi] at hi0
    rw [show NR.setF A ds.length a i = A i from by rw [NR.setF, if_neg (by omega)]]
    by_cases e : j = ds.length
    · subst e
      rw [NR.rw_snoc_eq] at hj0
      rw [NR.setF, if_pos rfl]
      intro ea
      obtain ⟨g, hg⟩ := (h.row i hi).some hi0
      have h1 := hold i hi hi0 g hg
      rw [hg] at ea
      rw [← ea] at hin
      have := (hin.lt hj0).1
      omega
    · rw [NR.rw_snoc_lt ds l (by omega)] at hj0
      rw [NR.setF, if_neg e]; exact h.far i j hij (by omega) hi0 hj0
theorem Ws.lt {T : TypeId} {w : World} {B go N : Nat} {ds : List (List Int)} {A : Nat → Option Addr} {C : Nat → Nat} (h : Ws T w B go N ds A C) : ∀ j, j < ds.length → NR.rw_ ds j ≠ [] → ∀ g, A j = some ⟨g, 0, none⟩ → g < w.heap.size := fun j hj h0 g hg => by
  have r := h.row j hj
  rw [hg] at r
  exact (r.lt h0).2
end LK
end Go.Proofs.Ytcpkcaaplhgioaa

/- What a pipe takes out of a node: plain facts. -/
namespace Go.Proofs.Ytcpkcaaplhgioaa
open Go.RowKit
namespace FL
theorem sg_from {x0 x1 x2 n v : Int} (h : x0 = n) : sg ⟨x0, x1, x2⟩ n v = v := by simp [sg, h]
theorem sg_to {x0 x1 x2 n v : Int} (h : x0 ≠ n) (h1 : x1 = n) : sg ⟨x0, x1, x2⟩ n v = -v := by simp [sg, h, h1]
theorem sg_no {x0 x1 x2 n v : Int} (h : x0 ≠ n) (h1 : x1 ≠ n) : sg ⟨x0, x1, x2⟩ n v = 0 := by simp [sg, h, h1]
end FL
end Go.Proofs.Ytcpkcaaplhgioaa

/- What goes out of a node: l8Out of the specification. -/
namespace Go.Proofs.Ytcpkcaaplhgioaa
open Go.RowKit
set_option linter.unusedSimpArgs false in
set_option maxHeartbeats 1600000 in
set_option maxRecDepth 100000 in
theorem l8Out_any (a b : Option Addr) (cap cb : Nat) (xs : List I3) (fs : List Int) (n : Int) (w : World) (hg : FL.okP xs = true) (hl : fs.length = xs.length) (hf : FL.fitUp xs fs xs.length) (hin : MI3.RowAt w a xs) (hos : M4.IntsAt w b fs) (R : Int) (hR : Hid (FL.outUp xs fs n xs.length = R)) :
    Calls Try.prog 41 #[.slice a xs.length cap, .slice b fs.length cb, .int .i64 n] w fun e w' => e = .returned (.int .i64 R) ∧ Below w.heap.size w w' := by
  have hn : xs.length ≤ 20 := ((FL.okP_iff xs).1 hg).1
  have HW : Hid _ := fun k hk => FL.outUp_within (n := n) hg hf k hk
  have HG : Hid _ := fun k hk => FL.okP_good hg (k := k) hk
  have HF : Hid _ := fun k hk => hf k hk
  have HI : Hid (MI3.RowAt w a xs) := hin
  have HS : Hid (M4.IntsAt w b fs) := hos
  clear hin hos hf hg
  rw [hl]
  have HL : Hid _ := hl
  clear hl
  go_enter Try.func41, Try.ntmps41
  go_wp2
  go_loopw [7, 12] (fun v iv wr => ∃ k : Nat, iv = .int .i64 k ∧ k ≤ xs.length ∧ (∃ s : Int, v = .int .i64 s ∧ Hid (FL.outUp xs fs n k = s)) ∧ Below w.heap.size w wr) (fun _ iv _ => (xs.length - intOf iv).toNat)
  case atStart => exact ⟨0, rfl, by omega, ⟨0, rfl, rfl⟩, Below.refl _ _⟩
  case round =>
    obtain ⟨k, rfl, hk, ⟨s, rfl, hs⟩, hb⟩ := hrel
    by_cases hlk : k < xs.length
    · obtain ⟨b1, off, rfl, hlt, c0, c1, c2⟩ := (HI.out.below hb).at hlk
      obtain ⟨b2, off2, rfl, hlt2, d0⟩ := M4.IntsAt.at (M4.IntsAt.below HS.out hb) (k := k) (by rw [HL.out]; exact hlk)
      have w1 := HW.out k hk
      have w2 := HW.out (k + 1) hlk
      have g := HG.out k hlk
      have f := HF.out k hlk
      rw [FL.outUp] at w2
      have HE : Hid (FL.outUp xs fs n (k + 1) = FL.outUp xs fs n k + FL.sg (MI3.at_ xs k) n (fs.getD k 0)) := rfl
      rw [hs.out] at w1 w2 HE
      generalize MI3.at_ xs k = x at *
      generalize fs.getD k 0 = y at *
      obtain ⟨x0, x1, x2⟩ := x
      have hne : x0 ≠ x1 := g.ne
      have hc1 : x2 ≤ 100 := g.c1
      have hb' : ∀ o, Below w.heap.size w (wr.alloc o) := fun o => hb.alloc hb.size o
      have HB : Hid _ := hb'
      clear hb' g hs HW HG HF HI HS hR
      simp only at f
      have d1 : ∀ o, (wr.alloc o).cell? ⟨b2, off2 + k, none⟩ = some (.int .i64 y) := fun o => by rw [World.cell?_alloc_lt _ _ _ hlt2]; exact d0
      by_cases hx : x0 = n
      · rw [FL.sg_from hx] at HE w2
        subst hx
        have hne' : x1 ≠ x0 := fun e => hne e.symm
        go_wp2
        go_roundw
        case rel => exact ⟨k + 1, by go_num, by omega, ⟨_, by go_num, HE⟩, HB.out _⟩
        case measure => simp [intOf]; omega
      · by_cases hy : x1 = n
        · rw [FL.sg_to hx hy] at HE w2
          subst hy
          go_wp2
          go_roundw
          case rel => exact ⟨k + 1, by go_num, by omega, ⟨_, by go_num, HE⟩, HB.out _⟩
          case measure => simp [intOf]; omega
        · rw [FL.sg_no hx hy, Int.add_zero] at HE
          have hx' : n ≠ x0 := fun e => hx e.symm
          have hy' : n ≠ x1 := fun e => hy e.symm
          go_wp2
          go_roundw
          case rel => exact ⟨k + 1, by go_num, by omega, ⟨_, rfl, HE⟩, HB.out _⟩
          case measure => simp [intOf]; omega
    · obtain rfl : k = xs.length := by omega
      have hF : Hid (s = R) := by show s = R; rw [← hs.out, ← hR.out]
      clear hs HW HG HF HI HS hR HL
      go_wp2
      go_ret
      exact ⟨retI7 hF.out, hb⟩
end Go.Proofs.Ytcpkcaaplhgioaa

/- Ways along a flow of the specification: l9Way, l9Straight, WaysApart. -/
namespace Go.Proofs.Ytcpkcaaplhgioaa
open Go.RowKit
namespace LK
theorem row_onlyS {w w' : World} {a : Option Addr} {xs : List I2} {p : Nat} (h : MI2.RowAt w a xs) (ho : MC.Only p w w') (hp : ∀ b off, a = some ⟨b, off, none⟩ → b ≠ p) : MI2.RowAt w' a xs := by
  rcases h.is with rfl | ⟨b, off, rfl, hlt, hc⟩
  · exact ⟨.inl rfl⟩
  · refine ⟨.inr ⟨b, off, rfl, Nat.lt_of_lt_of_le hlt ho.size, fun j hj => ?_⟩⟩
    obtain ⟨c0, c1⟩ := hc j hj
    have hne := hp b off rfl
    exact ⟨(ho.cell (x := ⟨b, _, none⟩) hlt hne).trans c0, (ho.cell (x := ⟨b, _, none⟩) hlt hne).trans c1⟩
/-- How many links have flow, read out of memory. -/
noncomputable def muS (W : World) (n : Nat) (v : Value) : Nat := cntUp (FL.rdL W n v) n
theorem muS_is {W : World} {b n : Nat} {v : Value} {fs : List Int} (h : W.ownsRow b 3 1 v n (M4.iv fs)) : muS W n v = cntUp fs n := by unfold muS; rw [FL.rdL_own h]
theorem lastOf_none {xs : List I2} {u : Int} : ∀ {l : List Int}, (∀ m, m < l.length → (MI2.at_ xs (l.getD m 0).toNat).a0 ≠ u) → lastOf xs u l = none
  | [], _ => rfl
  | y :: l, h => by
    rw [lastOf, lastOf_none (l := l) (fun m hm => by simpa using h (m + 1) (by simpa using hm))]
    simp only
    rw [if_neg (by simpa using h 0 (by simp))]
theorem lastOf_at {xs : List I2} {u : Int} : ∀ {l : List Int} {j : Nat}, j < l.length → (MI2.at_ xs (l.getD j 0).toNat).a0 = u → (∀ m, j < m → m < l.length → (MI2.at_ xs (l.getD m 0).toNat).a0 ≠ u) → lastOf xs u l = some (l.getD j 0, l.drop (j + 1))
  | y :: l, 0, _, h1, h2 => by
    rw [lastOf, lastOf_none (l := l) (fun m hm => by simpa using h2 (m + 1) (by omega) (by simpa using hm))]
    simp only
    rw [if_pos (by simpa using h1)]; rfl
  | y :: l, j + 1, hj, h1, h2 => by
    rw [lastOf, lastOf_at (l := l) (j := j) (by simpa using hj) (by simpa using h1) (fun m hm hl => by simpa using h2 (m + 1) (by omega) (by simpa using hl))]
    simp
theorem strt_at {xs : List I2} {l : List Int} {i j : Nat} (hi : i ≤ j) (hj : j < l.length) (h1 : (MI2.at_ xs (l.getD j 0).toNat).a0 = (MI2.at_ xs (l.getD i 0).toNat).a0) (h2 : ∀ m, j < m → m < l.length → (MI2.at_ xs (l.getD m 0).toNat).a0 ≠ (MI2.at_ xs (l.getD i 0).toNat).a0) : strt xs (l.drop i) = l.getD j 0 :: strt xs (l.drop (j + 1)) := by
  have hg : ∀ m, (l.drop i).getD m 0 = l.getD (i + m) 0 := fun m => by simp [List.getD_eq_getElem?_getD]
  have e : l.drop i = l.getD i 0 :: l.drop (i + 1) := by
    rw [List.drop_eq_getElem_cons (by omega), List.getD_eq_getElem?_getD, List.getElem?_eq_getElem (by omega)]; rfl
  have k := lastOf_at (xs := xs) (u := (MI2.at_ xs (l.getD i 0).toNat).a0) (l := l.drop i) (j := j - i) (by simp; omega) (by rw [hg, show i + (j - i) = j from by omega]; exact h1) (fun m hm hl => by rw [hg]; exact h2 (i + m) (by omega) (by simp at hl; omega))
  rw [hg, show i + (j - i) = j from by omega, List.drop_drop, show i + (j - i + 1) = j + 1 from by omega] at k
  rw [e] at k ⊢
  exact strt_cons k
end LK
set_option linter.unusedSimpArgs false in
set_option maxHeartbeats 3200000 in
set_option maxRecDepth 100000 in
theorem l9Way_any (a : Option Addr) (ca gf cf : Nat) (xs : List I2) (f t : Int) (r : Nat) (fs : List Int) (w : World) (hok : FL.okP (LK.pip xs) = true) (hG : LK.Gone xs f t r ⟨f, fs, []⟩) (hin : MI2.RowAt w a xs) (hne : ∀ b off, a = some ⟨b, off, none⟩ → b ≠ gf) (hown : w.ownsRow 0 3 1 (.slice (some ⟨gf, 0, none⟩) xs.length cf) xs.length (M4.iv fs)) :
    Calls Try.prog 43 #[.slice a xs.length ca, .int .i64 f, .int .i64 t, .slice (some ⟨gf, 0, none⟩) xs.length cf] w fun e w' => ∃ a1 c1, e = .returned (.slice a1 (LK.fin xs f t fs).way.length c1) ∧ w'.ownsRow w.heap.size 3 1 (.slice a1 (LK.fin xs f t fs).way.length c1) (LK.fin xs f t fs).way.length (M4.iv (LK.fin xs f t fs).way) ∧ w'.ownsRow 0 3 1 (.slice (some ⟨gf, 0, none⟩) xs.length cf) xs.length (M4.iv (LK.fin xs f t fs).fs) ∧ MC.Only gf w w' := by
  obtain ⟨i0, hi, hz0, hz1, hz2⟩ := info_parts Try.info3
  have hx20 : xs.length ≤ 20 := by have := ((FL.okP_iff _).1 hok).1; rwa [LK.pip_len] at this
  have hgf := (hown.lt gf rfl).2
  have FN : Hid (∀ i s, LK.AtW xs f t r fs i s → s.pos = t → LK.fin xs f t fs = s) := fun i s h hp => h.fin hp
  have SM : Hid (∀ i s, LK.AtW xs f t r fs i s → s.pos ≠ t → ∃ k, LK.Fst xs s.fs s.pos k) := fun i s h hp => h.go.some hp
  have NX : Hid (∀ i k s, LK.AtW xs f t r fs i s → s.pos ≠ t → LK.Fst xs s.fs s.pos k → LK.AtW xs f t r fs (i + 1) ⟨(MI2.at_ xs k).a1, s.fs.set k 0, s.way ++ [(k : Int)]⟩ ∧ LK.cntUp (s.fs.set k 0) xs.length < LK.cntUp s.fs xs.length) := fun i k s h hp hk => h.step hok hp hk
  have ST : Hid (LK.AtW xs f t r fs 0 ⟨f, fs, []⟩) := LK.AtW.start hG
  have HI : Hid (MI2.RowAt w a xs) := hin
  have HNE : Hid _ := hne
  have OW0 : Hid (World.ownsRow w 0 3 1 (.slice (some ⟨gf, 0, none⟩) xs.length cf) xs.length (M4.iv fs)) := hown
  generalize LK.fin xs f t fs = FI at *
  clear hin hne hown hG
  go_enter Try.func43, Try.ntmps43
  go_wp2
  go_loopw [9, 10] (fun v uv wr => ∃ (i : Nat) (s : LK.Wk), uv = .int .i64 s.pos ∧ Hid (LK.AtW xs f t r fs i s) ∧ Hid (World.ownsRow wr w.heap.size 3 1 v s.way.length (M4.iv s.way)) ∧ wr.ownsRow 0 3 1 (.slice (some ⟨gf, 0, none⟩) xs.length cf) xs.length (M4.iv s.fs) ∧ MC.Only gf w wr) (fun _ _ wr => LK.muS wr xs.length (.slice (some ⟨gf, 0, none⟩) xs.length cf))
  case atStart => exact ⟨0, ⟨f, fs, []⟩, rfl, ST, World.ownsRow_nil _ _ _ _, OW0.out, MC.Only.refl _ _⟩
  case round =>
    clear ST OW0
    obtain ⟨i, ⟨p, fs', wy⟩, rfl, hA, HWY0, hown, hO⟩ := hrel
    by_cases hp : p = t
    · have e1 := FN.out i _ hA.out hp
      obtain ⟨a3, c3, hv, _⟩ := M5.own_view HWY0.out
      simp only at hv
      rw [hv] at HWY0 ⊢
      have HFW : Hid (FI.way = wy) := by show _ = _; rw [e1]
      have HFF : Hid (FI.fs = fs') := by show _ = _; rw [e1]
      have HOW : Hid _ := hown
      have HON : Hid _ := hO
      clear FN SM NX HI HNE e1 hA hown hO hv
      subst hp
      generalize hwl : wy.length = wl at *
      have HWL : Hid _ := hwl
      clear hwl
      go_wp2
      go_ret
      exact ⟨a3, c3, by rw [HFW.out, HWL.out]; rfl, by rw [HFW.out, HWL.out]; exact HWY0.out, by rw [HFF.out]; exact HOW.out, HON.out⟩
    · obtain ⟨k0, hk⟩ := SM.out i _ hA.out hp
      obtain ⟨hA2, hcnt⟩ := NX.out i k0 _ hA.out hp hk
      have hkx : k0 < xs.length := hk.lt
      have hfl : fs'.length = xs.length := by have := hown.1; simpa [M4.iv] using this
      have h01 : ∀ k, k < xs.length → fs'.getD k 0 = 0 ∨ fs'.getD k 0 = 1 := hA.out.go.one
      have hwl : wy.length ≤ 20 := by
        have h2 := hA.out.len
        have h3 := hA.out.up
        simp only at h2
        omega
      have HK : Hid (LK.Fst xs fs' p k0) := hk
      have H01 : Hid _ := h01
      have HOF : Hid _ := hown
      have HON : Hid _ := hO
      have HA2 : Hid _ := hA2
      have HCN : Hid _ := hcnt
      clear FN SM NX hA hA2 hk hcnt h01 hown hO hfl
      have hpt : p ≠ t := hp
      rename World => W0
      go_wp2
      go_loopw [9, 10, 19] (fun v uv iv wi => ∃ k : Nat, iv = .int .i64 k ∧ k ≤ k0 ∧ uv = .int .i64 p ∧ Hid (World.ownsRow wi w.heap.size 3 1 v wy.length (M4.iv wy)) ∧ Below W0.heap.size W0 wi) (fun _ _ iv _ => (xs.length - intOf iv).toNat)
      case atStart => exact ⟨0, rfl, by omega, rfl, HWY0, Below.refl _ _⟩
      case round =>
        clear HWY0
        obtain ⟨k, rfl, hk, rfl, HWY, hb⟩ := hrel
        have hkl : k < xs.length := by omega
        have hgl0 : gf < W0.heap.size := Nat.lt_of_lt_of_le hgf HON.out.size
        have HI1 : MI2.RowAt wr a xs := (LK.row_onlyS HI.out HON.out HNE.out).below hb
        have hOF : World.ownsRow wr 0 3 1 (.slice (some ⟨gf, 0, none⟩) xs.length cf) xs.length (M4.iv fs') := M5.own_below HOF.out hb
        obtain ⟨b1, off, rfl, hlt, c0, c1⟩ := HI1.at hkl
        have d0 : wr.cell? ⟨gf, k, none⟩ = some (.int .i64 (fs'.getD k 0)) := by
          have hfl : fs'.length = xs.length := by have := hOF.1; simpa [M4.iv] using this
          have := M4.IntsAt.of_own hOF
          obtain ⟨b2, o2, e2, _, e3⟩ := this.at (k := k) (by omega)
          simp only [Option.some.injEq, Addr.mk.injEq, and_true] at e2
          obtain ⟨rfl, rfl⟩ := e2
          rwa [Nat.zero_add] at e3
        have hglw : gf < wr.heap.size := Nat.lt_of_lt_of_le hgl0 hb.size
        have kkx : (k : Int) < (xs.length : Int) := by omega
        by_cases e : k = k0
        · subst e
          obtain ⟨h1, h2⟩ := HK.out.is
          have h3 : fs'.getD k 0 = 1 := (H01.out k hkl).elim (fun e => absurd e h2) id
          rw [h3] at d0
          rw [h1] at c0
          have hfz := hOF.frozenAt k
          have hst := hOF.stored k (.int .i64 0)
          rw [M4.iv_set] at hst
          have on1 := (MC.Only.refl gf wr).setCell k (.int .i64 0)
          have hW1 := NR.own_only HWY.out on1 (fun e => by have := (HWY.out.lt _ e).1; omega)
          have HMU : Hid (∀ W' v', World.ownsRow W' 0 3 1 v' xs.length (M4.iv (fs'.set k 0)) → LK.muS W' xs.length v' < LK.muS W0 xs.length (.slice (some ⟨gf, 0, none⟩) xs.length cf)) := fun W' v' h => by rw [LK.muS_is h, LK.muS_is HOF.out]; exact HCN.out
          generalize MI2.at_ xs k = x at *
          obtain ⟨x0, x1⟩ := x
          simp only at c0 c1 h1 HA2
          subst h1
          have HFL : Hid _ := hst.1.alloc (.cells #[.int .i64 x0, .int .i64 x1] 38)
          have HON2 : Hid (MC.Only gf w ((wr.setCell ⟨gf, k, none⟩ (.int .i64 0)).alloc (.cells #[.int .i64 x0, .int .i64 x1] 38))) := ((HON.out.trans (MC.Only.of_below hb)).setCell k (.int .i64 0)).alloc _
          have HO : Hid _ := hW1.alloc (.cells #[.int .i64 x0, .int .i64 x1] 38)
          have hvb : ∀ g, Value.ownBlock _ = some g → g < wr.heap.size ∧ w.heap.size ≤ g := fun g hg => ⟨(HWY.out.lt g hg).2, (HWY.out.lt g hg).1⟩
          have HVB : Hid _ := hvb
          have hsw := HON.out.size
          have hsb := hb.size
          clear hvb HWY HK H01 HOF HON HCN HI1 hOF hst on1 hW1 hb h2 h3
          go_wp2_with (at_builtin; go_loud (refine wpList_append_own _ rfl _ _ 24 rfl w.heap.size 3 i0 (.int .i64 0) 1 8 Try.underlying24 hi hz0 hz1 hz2 rfl (by decide) _ _ _ rfl (World.ownsRow.alloc HO.out _) ⟨wr.heap.size + 1, 0, none⟩ 1 1 [.int .i64 (k : Int)] rfl rfl ?c1 ?c2 ?c3 ?c4 ?c5 ?_))
          all_goals try (first | rfl | omega | exact LK.newN _ _ _ _ (by simp) | exact M2.one1 _ _ | (unfold maxLen; omega) | (simp; omega))
          intro v' w3 hown1 hgrow _
          have R1 : Hid (World.ownsRow w3 w.heap.size 3 1 v' (wy ++ [(k : Int)]).length (M4.iv (wy ++ [(k : Int)]))) := by
            show World.ownsRow _ _ _ _ _ _ _; simpa [M4.iv] using hown1
          have R2 : Hid (World.ownsRow w3 0 3 1 (.slice (some ⟨gf, 0, none⟩) xs.length cf) xs.length (M4.iv (fs'.set k 0))) := World.ownsRow.kept (World.ownsRow.alloc HFL.out _) hgrow (.inr (fun e => by simp only [Value.ownBlock] at e; have := HVB.out gf e.symm; omega))
          have R3 : Hid (MC.Only gf w w3) := (HON2.out.alloc _).grown hgrow (fun q hq => (HVB.out q hq).2)
          have qx : w3.cell? ⟨wr.heap.size, 1, none⟩ = some (.int .i64 x1) := by
            refine hgrow.cell ?_ (fun e => by have := (HVB.out wr.heap.size e.symm).1; omega)
            rw [World.cell?_alloc_lt _ _ _ (by simp), World.cell?_alloc_at _ _ _ _ (by simp)]; rfl
          have HM := HMU.out _ _ R2.out
          clear hown1 hgrow HMU HVB HFL HON2 HO
          generalize wy ++ [(k : Int)] = wy' at *
          go_wp2
          go_roundw
          case rel => exact ⟨i + 1, ⟨x1, fs'.set k 0, wy'⟩, rfl, HA2, R1, R2.out, R3.out⟩
          case measure => exact HM
        · have hno := HK.out.no k (by omega)
          have hd : (MI2.at_ xs k).a0 ≠ p ∨ fs'.getD k 0 = 0 := by
            by_cases h1 : (MI2.at_ xs k).a0 = p
            · by_cases h2 : fs'.getD k 0 = 0
              · exact .inr h2
              · exact absurd ⟨h1, h2⟩ hno
            · exact .inl h1
          generalize MI2.at_ xs k = x at *
          obtain ⟨x0, x1⟩ := x
          generalize fs'.getD k 0 = y at *
          simp only at c0 c1 hd
          have HB : Hid (Below W0.heap.size W0 (wr.alloc (.cells #[.int .i64 x0, .int .i64 x1] 38))) := hb.alloc hb.size _
          have HO : Hid _ := HWY.out.alloc (.cells #[.int .i64 x0, .int .i64 x1] 38)
          clear HK H01 HOF HON HCN HI1 hOF hno HWY hb HA2
          by_cases h1 : x0 = p
          · have h2 : y = 0 := hd.elim (fun h => absurd h1 h) id
            subst h1 h2
            go_wp2
            go_roundw
            case rel => exact ⟨k + 1, by go_num, by omega, rfl, HO, HB.out⟩
            case measure => simp [intOf]; omega
          · have h1' : x0 ≠ p := h1
            go_wp2
            go_roundw
            case rel => exact ⟨k + 1, by go_num, by omega, rfl, HO, HB.out⟩
            case measure => simp [intOf]; omega
set_option linter.unusedSimpArgs false in
set_option maxHeartbeats 3200000 in
set_option maxRecDepth 100000 in
theorem l9Straight_any (a b : Option Addr) (ca cb : Nat) (xs : List I2) (f : Int) (way : List Int) (w : World) (_hn : xs.length ≤ 1048576) (hl : way.length ≤ 1000) (hv : ∀ x ∈ way, ∃ k : Nat, x = (k : Int) ∧ k < xs.length) (hin : MI2.RowAt w a xs) (hos : M4.IntsAt w b way) :
    Calls Try.prog 42 #[.slice a xs.length ca, .int .i64 f, .slice b way.length cb] w fun e w' => ∃ a1 c1, e = .returned (.slice a1 (LK.strt xs way).length c1) ∧ w'.ownsRow w.heap.size 3 1 (.slice a1 (LK.strt xs way).length c1) (LK.strt xs way).length (M4.iv (LK.strt xs way)) ∧ Below w.heap.size w w' := by
  obtain ⟨i0, hi, hz0, hz1, hz2⟩ := info_parts Try.info3
  have HI : Hid (MI2.RowAt w a xs) := hin
  have HS : Hid (M4.IntsAt w b way) := hos
  have HV : Hid (∀ j, j < way.length → ∃ k : Nat, way.getD j 0 = (k : Int) ∧ k < xs.length) := fun j hj => hv _ (by rw [List.getD_eq_getElem?_getD, List.getElem?_eq_getElem hj]; exact List.getElem_mem hj)
  have ST : Hid (LK.strt xs way = [] ++ LK.strt xs (way.drop 0)) := by show _ = _; simp
  have SA : Hid (∀ i j, i ≤ j → j < way.length → (MI2.at_ xs (way.getD j 0).toNat).a0 = (MI2.at_ xs (way.getD i 0).toNat).a0 → (∀ m, j < m → m < way.length → (MI2.at_ xs (way.getD m 0).toNat).a0 ≠ (MI2.at_ xs (way.getD i 0).toNat).a0) → LK.strt xs (way.drop i) = way.getD j 0 :: LK.strt xs (way.drop (j + 1))) := fun i j h1 h2 h3 h4 => LK.strt_at h1 h2 h3 h4
  have SN : Hid (LK.strt xs (way.drop way.length) = []) := by show _ = _; rw [List.drop_length]; exact LK.strt_nil xs
  generalize LK.strt xs way = L at *
  clear hin hos hv
  go_enter Try.func42, Try.ntmps42
  go_wp2
  go_loopw [7, 8] (fun v iv wr => ∃ (i : Nat) (s : List Int), iv = .int .i64 i ∧ i ≤ way.length ∧ Hid (L = s ++ LK.strt xs (way.drop i)) ∧ s.length ≤ i ∧ Hid (World.ownsRow wr w.heap.size 3 1 v s.length (M4.iv s)) ∧ Below w.heap.size w wr) (fun _ iv _ => (way.length - intOf iv).toNat)
  case atStart => exact ⟨0, [], rfl, by omega, ST, by simp, World.ownsRow_nil _ _ _ _, Below.refl _ _⟩
  case round =>
    clear ST
    obtain ⟨i, s, rfl, hiw, hE, hsl, HO, hb⟩ := hrel
    by_cases hli : i < way.length
    · obtain ⟨ki, hki, hkix⟩ := HV.out i hli
      rename World => W0
      have HB0 : Hid _ := hb
      have ii : IntKind.i64.wrap ((i : Int) + 1) = (i : Int) + 1 := by rw [IntKind.wrap_i64]; omega
      go_wp2
      go_loopw [9, 10] (fun jv kv wi => ∃ k j : Nat, kv = .int .i64 k ∧ jv = .int .i64 j ∧ i + 1 ≤ k ∧ k ≤ way.length ∧ i ≤ j ∧ j < k ∧ Hid ((MI2.at_ xs (way.getD j 0).toNat).a0 = (MI2.at_ xs (way.getD i 0).toNat).a0 ∧ ∀ m, j < m → m < k → (MI2.at_ xs (way.getD m 0).toNat).a0 ≠ (MI2.at_ xs (way.getD i 0).toNat).a0) ∧ Hid (World.ownsRow wi w.heap.size 3 1 u7 s.length (M4.iv s)) ∧ Below w.heap.size w wi) (fun _ kv _ => (way.length - intOf kv).toNat)
      case atStart => exact ⟨i + 1, i, by go_num, rfl, by omega, by omega, by omega, by omega, ⟨rfl, fun m h1 h2 => by omega⟩, HO, hb⟩
      case round =>
        clear HO hb HB0
        obtain ⟨k, j, rfl, rfl, hk1, hk2, hj1, hj2, HJ, HO, hb⟩ := hrel
        by_cases hlk : k < way.length
        · obtain ⟨kk, hkk, hkkx⟩ := HV.out k hlk
          have HIN := HI.out.below hb
          have HOS := M4.IntsAt.below HS.out hb
          obtain ⟨b1, off1, rfl, hlt1, d0⟩ := HOS.at hlk
          obtain ⟨b1', off1', e1, _, d1⟩ := HOS.at hli
          simp only [Option.some.injEq, Addr.mk.injEq, and_true] at e1
          obtain ⟨rfl, rfl⟩ := e1
          obtain ⟨b2, off2, rfl, hlt2, c0, -⟩ := HIN.at hkkx
          obtain ⟨b2', off2', e2, _, c2, -⟩ := HIN.at hkix
          simp only [Option.some.injEq, Addr.mk.injEq, and_true] at e2
          obtain ⟨rfl, rfl⟩ := e2
          rw [hkk] at d0
          rw [hki] at d1
          have HJ2 : Hid ((MI2.at_ xs kk).a0 ≠ (MI2.at_ xs ki).a0 → (MI2.at_ xs (way.getD j 0).toNat).a0 = (MI2.at_ xs (way.getD i 0).toNat).a0 ∧ ∀ m, j < m → m < k + 1 → (MI2.at_ xs (way.getD m 0).toNat).a0 ≠ (MI2.at_ xs (way.getD i 0).toNat).a0) := fun h => ⟨HJ.out.1, fun m h1 h2 => by
            by_cases e : m = k
            · subst e; rw [hkk, hki, show ((kk : Nat) : Int).toNat = kk from by omega, show ((ki : Nat) : Int).toNat = ki from by omega]; exact h
            · exact HJ.out.2 m h1 (by omega)⟩
          have HJ3 : Hid ((MI2.at_ xs kk).a0 = (MI2.at_ xs ki).a0 → (MI2.at_ xs (way.getD k 0).toNat).a0 = (MI2.at_ xs (way.getD i 0).toNat).a0 ∧ ∀ m, k < m → m < k + 1 → (MI2.at_ xs (way.getD m 0).toNat).a0 ≠ (MI2.at_ xs (way.getD i 0).toNat).a0) := fun h => ⟨by rw [hkk, hki, show ((kk : Nat) : Int).toNat = kk from by omega, show ((ki : Nat) : Int).toNat = ki from by omega]; exact h, fun m h1 h2 => by omega⟩
          have kk1 : (kk : Int) < (xs.length : Int) := by omega
          have kk2 : (ki : Int) < (xs.length : Int) := by omega
          have ww1 : (k : Int) < (way.length : Int) := by omega
          have ww2 : (i : Int) < (way.length : Int) := by omega
          have kw : IntKind.i64.wrap ((k : Int) + 1) = (k : Int) + 1 := by rw [IntKind.wrap_i64]; omega
          clear HJ HI HS HV SA SN hE HIN HOS hkk hki
          generalize (MI2.at_ xs kk).a0 = x0 at *
          generalize (MI2.at_ xs ki).a0 = y0 at *
          by_cases hxy : x0 = y0
          · have HJ4 : Hid _ := HJ3.out hxy
            clear HJ2 HJ3
            subst hxy
            go_wp2
            go_quiet (fail)
            go_wp2
            go_roundw
            case rel => exact ⟨k + 1, k, by go_num, rfl, by omega, by omega, by omega, by omega, HJ4, M5.own_below HO.out (below_drewN (Below.refl _ _) _), below_drewN hb _⟩
            case measure => simp [intOf]; omega
          · have HJ4 : Hid _ := HJ2.out hxy
            have hxn : (x0 == y0) = false := by simpa using hxy
            clear HJ2 HJ3
            go_wp2
            go_quiet (fail)
            go_wp2
            go_roundw
            case rel => exact ⟨k + 1, j, by go_num, rfl, by omega, by omega, by omega, by omega, HJ4, M5.own_below HO.out (below_drewN (Below.refl _ _) _), below_drewN hb _⟩
            case measure => simp [intOf]; omega
        · obtain rfl : k = way.length := by omega
          have hE2 := SA.out i j hj1 hj2 HJ.out.1 HJ.out.2
          have HOS := M4.IntsAt.below HS.out hb
          obtain ⟨b1, off1, rfl, hlt1, d0⟩ := HOS.at hj2
          have HE2 : Hid (L = (s ++ [way.getD j 0]) ++ LK.strt xs (way.drop (j + 1))) := by show _ = _; rw [hE.out, hE2]; simp
          have ww1 : (j : Int) < (way.length : Int) := by omega
          have jw : IntKind.i64.wrap ((j : Int) + 1) = (j : Int) + 1 := by rw [IntKind.wrap_i64]; omega
          have hbs := hb.size
          clear HJ HI HS HV SA SN hE HOS hki hE2
          generalize way.getD j 0 = y at *
          go_wp2_with (at_builtin; go_loud (refine wpList_append_own _ rfl _ _ 24 rfl w.heap.size 3 i0 (.int .i64 0) 1 8 Try.underlying24 hi hz0 hz1 hz2 rfl (by decide) _ _ _ rfl (World.ownsRow.alloc HO.out _) ⟨wr.heap.size, 0, none⟩ 1 1 [.int .i64 y] rfl rfl ?c1 ?c2 ?c3 ?c4 ?c5 ?_))
          all_goals try (first | rfl | omega | exact M2.new1 _ _ _ | exact M2.one1 _ _ | (unfold maxLen; omega) | (simp; omega))
          intro v' w3 hown1 hgrow _
          have R := M5.growI HO.out hb hbs (by exact hown1) hgrow
          have R1 : Hid _ := R.1
          have R2 := R.2
          have hs2 : (s ++ [y]).length ≤ j + 1 := by simp; omega
          clear hown1 hgrow R HO
          generalize s ++ [y] = s' at *
          go_wp2
          go_roundw
          case rel => exact ⟨j + 1, s', by go_num, by omega, HE2, hs2, R1, R2⟩
          case measure => simp [intOf]; omega
    · obtain rfl : i = way.length := by omega
      have hLs : L = s := by rw [hE.out, SN.out, List.append_nil]
      subst hLs
      obtain ⟨a3, c3, hv, _⟩ := M5.own_view HO.out
      rw [hv] at HO ⊢
      clear HI HS HV SA SN hE hv
      generalize hsll : L.length = sl at *
      have HSL : Hid _ := hsll
      clear hsll
      go_wp2
      go_ret
      exact ⟨a3, c3, by rw [HSL.out]; rfl, by rw [HSL.out]; exact HO.out, hb⟩
namespace LK
theorem in_grown {w w' : World} {B : Nat} {a : Option Addr} {l : List Int} {row : Option Nat} (h : NR.In w B a l) (hg : w.grownBy w' row) (hne : l ≠ [] → ∀ g, a = some ⟨g, 0, none⟩ → some g ≠ row) : NR.In w' B a l := by
  by_cases el : l = []
  · rw [el]; exact .nil _ _ _
  · rcases h.is with e | ⟨g, m, vs, ha, hw, h1, h2⟩
    · exact absurd e el
    · exact ⟨.inr ⟨g, m, vs, ha, hw.kept hg (.inr (hne el g ha)), h1, h2⟩⟩
/-- The rows' blocks are none of the outer row's. -/
theorem out_ne {T : TypeId} (hT : T ≠ 3) {w : World} {B B' n : Nat} {v : Value} {vs : List Value} {a : Option Addr} {l : List Int} (ho : w.ownsRow B T 1 v n vs) (h : NR.In w B' a l) (hl : l ≠ []) : ∀ g, a = some ⟨g, 0, none⟩ → some g ≠ v.ownBlock := by
  intro g ea e
  rcases ho.2 with ⟨rfl, _⟩ | ⟨g4, cap4, cur4, rfl, _, hg4, _⟩
  · cases e
  · simp only [Value.ownBlock, Option.some.injEq] at e
    subst e
    rcases h.is with e | ⟨g', m, us, ha, hw, _⟩
    · exact hl e
    · rw [ea] at ha
      simp only [Option.some.injEq, Addr.mk.injEq, and_true] at ha
      subst ha
      rcases hw.2 with ⟨h', _⟩ | ⟨g3, cap3, cur3, hv3, _, hg3, _⟩
      · cases h'
      · simp only [Value.slice.injEq, Option.some.injEq, Addr.mk.injEq, and_true] at hv3
        obtain ⟨rfl, _⟩ := hv3
        rw [hg4] at hg3
        simp only [Option.some.injEq, Obj.cells.injEq] at hg3
        exact hT hg3.2.1
end LK
theorem Try.infoISS : (Try.prog.info? 24).map (fun i => (i.zero, i.size, i.bytes)) = some (some (.slice none 0 0), 1, 24) := by kernel_rfl
set_option linter.unusedSimpArgs false in
set_option maxHeartbeats 3200000 in
set_option maxRecDepth 100000 in
theorem specWaysO_any (a : Option Addr) (ca : Nat) (xs : List I2) (f t : Int) (w : World) (hn : xs.length ≤ 1048576) (hin : MI2.RowAt w a xs) :
    Calls Try.prog 17 #[.slice a xs.length ca, .int .i64 f, .int .i64 t] w fun e w' => ∃ a1 c1 AA CC, e = .returned (.tuple #[.slice a1 (LK.wsL xs f t).length c1, .bool (FL.ask (LK.pip xs) f t)]) ∧ NR.Own 24 w' w.heap.size (.slice a1 (LK.wsL xs f t).length c1) (LK.wsL xs f t) AA CC ∧ Below w.heap.size w w' := by
  obtain ⟨i1, hi', hz0', hz1', hz2'⟩ := info_parts Try.infoISS
  have WC : Hid _ := LK.wsC xs f t
  have AK : Hid _ := l9Ask_any a ca xs f t w hn hin _ rfl
  have HI : Hid (MI2.RowAt w a xs) := hin
  have PO : Hid (∀ W : World, MI2.RowAt W a xs → _) := fun W h => l9Pipes_any a ca xs W hn h
  have MX : Hid (FL.ask (LK.pip xs) f t = true → ∀ (b : Option Addr) (cb : Nat) (W : World), MI3.RowAt W b (LK.pip xs) → Calls Try.prog 40 #[.slice b xs.length cb, .int .i64 f, .int .i64 t] W fun e w' => ∃ a1 c1, e = .returned (.slice a1 xs.length c1) ∧ w'.ownsRow W.heap.size 3 1 (.slice a1 xs.length c1) xs.length (M4.iv (FL.maxF (LK.pip xs) f t)) ∧ Below W.heap.size W w') := fun h b cb W h1 => by
    have := l8Max_any b cb (LK.pip xs) f t W (FL.ask_is h) h1
    rwa [LK.pip_len] at this
  have OU : Hid (FL.ask (LK.pip xs) f t = true → ∀ (b c : Option Addr) (cb cc : Nat) (W : World), MI3.RowAt W b (LK.pip xs) → M4.IntsAt W c (FL.maxF (LK.pip xs) f t) → Calls Try.prog 41 #[.slice b xs.length cb, .slice c xs.length cc, .int .i64 f] W fun e w' => e = .returned (.int .i64 (FL.outUp (LK.pip xs) (FL.maxF (LK.pip xs) f t) f xs.length)) ∧ Below W.heap.size W w') := fun h b c cb cc W h1 h2 => by
    have A := FL.ask_is h
    have o := FL.maxF_ok A
    have := l8Out_any b c cb cc (LK.pip xs) (FL.maxF (LK.pip xs) f t) f W A.ok o.1 o.2 h1 h2 _ rfl
    rw [o.1, LK.pip_len] at this
    exact this
  generalize LK.wsL xs f t = L at *
  generalize FL.outUp (LK.pip xs) (FL.maxF (LK.pip xs) f t) f xs.length = N0 at *
  generalize FL.maxF (LK.pip xs) f t = ML at *
  generalize FL.ask (LK.pip xs) f t = is at *
  clear hin
  go_enter Try.func17, Try.ntmps17
  go_wp2_with fail
  refine Calls.mono AK.out ?_
  rintro e w0 ⟨rfl, hb0⟩
  clear AK
  cases is with
  | false =>
    have hL := WC.out.no rfl
    subst hL
    clear WC HI PO MX OU
    go_wp2
    go_ret2
    exact ⟨none, 0, fun _ => none, fun _ => 0, rfl, NR.Own.nil _ _ _ _ _, hb0⟩
  | true =>
    obtain ⟨hok, hx20, hfl, hL, hN0, hN2, hft⟩ := WC.out.yes (by trivial)
    have HFT : Hid _ := hft
    obtain ⟨N, hN⟩ := Int.eq_ofNat_of_zero_le hN0
    subst hN
    rw [show ((N : Nat) : Int).toNat = N from by omega] at hfl hL
    have hLN : L.length = N := by rw [hL]; exact LK.ways_len _ _ _ _ _
    have HLN : Hid _ := hLN
    have HLE : Hid (L = (LK.waysUp xs f t ML N).1) := hL
    have NXT : Hid (∀ i, i < N → ∀ ds fs, LK.waysUp xs f t ML i = (ds, fs) → LK.Gone xs f t (N - i - 1) ⟨f, fs, []⟩ ∧ LK.waysUp xs f t ML (i + 1) = (ds ++ [LK.strt xs (LK.fin xs f t fs).way], (LK.fin xs f t fs).fs) ∧ ds.length = i ∧ (LK.strt xs (LK.fin xs f t fs).way).length ≤ 20 ∧ (LK.fin xs f t fs).way.length ≤ 20 ∧ ∀ x ∈ (LK.fin xs f t fs).way, ∃ k : Nat, x = (k : Int) ∧ k < xs.length) := fun i hi ds fs e => by
      have g := LK.ways_flw hok hfl i (by omega)
      rw [e] at g
      replace g : LK.Flw xs f t (N - i) fs := g
      obtain ⟨i', h1, h2⟩ := LK.fin_end hok (g.gone (by omega))
      refine ⟨g.gone (by omega), by rw [LK.waysUp, e], ?_, LK.way_len hok g (by omega), by have := h1.len; have := h1.up; omega, fun x hx => ?_⟩
      · have := LK.ways_len xs f t ML i; rw [e] at this; exact this
      · obtain ⟨k, e1, e2, _⟩ := h1.no x hx; exact ⟨k, e1, e2⟩
    have WF : Hid (∀ (W : World) (gf c1 r : Nat) (fs : List Int), LK.Gone xs f t r ⟨f, fs, []⟩ → MI2.RowAt W a xs → (∀ b off, a = some ⟨b, off, none⟩ → b ≠ gf) → W.ownsRow 0 3 1 (.slice (some ⟨gf, 0, none⟩) xs.length c1) xs.length (M4.iv fs) → Calls Try.prog 43 #[.slice a xs.length ca, .int .i64 f, .int .i64 t, .slice (some ⟨gf, 0, none⟩) xs.length c1] W fun e w' => ∃ a1 c2, e = .returned (.slice a1 (LK.fin xs f t fs).way.length c2) ∧ w'.ownsRow W.heap.size 3 1 (.slice a1 (LK.fin xs f t fs).way.length c2) (LK.fin xs f t fs).way.length (M4.iv (LK.fin xs f t fs).way) ∧ w'.ownsRow 0 3 1 (.slice (some ⟨gf, 0, none⟩) xs.length c1) xs.length (M4.iv (LK.fin xs f t fs).fs) ∧ MC.Only gf W w') := fun W gf c1 r fs h1 h2 h3 h4 => l9Way_any a ca gf c1 xs f t r fs W hok h1 h2 h3 h4
    have SF : Hid (∀ (W : World) (b : Option Addr) (cb : Nat) (way : List Int), way.length ≤ 20 → (∀ x ∈ way, ∃ k : Nat, x = (k : Int) ∧ k < xs.length) → MI2.RowAt W a xs → M4.IntsAt W b way → Calls Try.prog 42 #[.slice a xs.length ca, .int .i64 f, .slice b way.length cb] W fun e w' => ∃ a1 c1, e = .returned (.slice a1 (LK.strt xs way).length c1) ∧ w'.ownsRow W.heap.size 3 1 (.slice a1 (LK.strt xs way).length c1) (LK.strt xs way).length (M4.iv (LK.strt xs way)) ∧ Below W.heap.size W w') := fun W b cb way h1 h2 h3 h4 => l9Straight_any a b ca cb xs f way W (by omega) (by omega) h2 h3 h4
    have ST : Hid (LK.waysUp xs f t ML 0 = ([], ML)) := rfl
    have PO2 : Hid _ := PO.out w0 (HI.out.below hb0)
    have MX2 : Hid _ := MX.out (by trivial)
    have OU2 : Hid _ := OU.out (by trivial)
    clear WC PO MX OU hok hfl hL hN0 hLN hft
    go_wp2_with fail
    refine Calls.mono PO2.out ?_
    rintro e w1 ⟨b1, cb1, rfl, hr, hb1⟩
    have HR : Hid (MI3.RowAt w1 b1 (LK.pip xs)) := hr
    have hB1 := hb0.trans (hb1.mono hb0.size)
    have MX3 : Hid _ := MX2.out b1 cb1 w1 hr
    clear PO2 MX2 hr hb0 hb1
    go_wp2_with fail
    refine Calls.mono MX3.out ?_
    rintro e w2 ⟨a1, c1, rfl, ho, hb2⟩
    have hB2 := hB1.trans (hb2.mono hB1.size)
    have OU3 : Hid _ := OU2.out b1 a1 cb1 c1 w2 (HR.out.below hb2) (M5.own_ints ho)
    have HO2 : Hid (World.ownsRow w2 w1.heap.size 3 1 (.slice a1 xs.length c1) xs.length (M4.iv ML)) := ho
    have hsB := hB1.size
    clear MX3 OU2 HR ho hb2 hB1
    go_wp2_with fail
    refine Calls.mono OU3.out ?_
    rintro e w3 ⟨rfl, hb3⟩
    have hB3 := hB2.trans (hb3.mono hB2.size)
    have hgl : ∀ gf, a1 = some ⟨gf, 0, none⟩ → w1.heap.size ≤ gf ∧ gf < w3.heap.size := fun gf e => ⟨(HO2.out.lt gf (by rw [e]; rfl)).1, Nat.lt_of_lt_of_le (HO2.out.lt gf (by rw [e]; rfl)).2 hb3.size⟩
    have HGL : Hid _ := hgl
    have HO3 : Hid (World.ownsRow w3 w1.heap.size 3 1 (.slice a1 xs.length c1) xs.length (M4.iv ML)) := M5.own_below HO2.out hb3
    clear OU3 hb3 hB2 hgl HO2
    go_wp2
    go_loopw [10, 11] (fun nv v wr => ∃ (i : Nat) (ds : List (List Int)) (fs : List Int) (AA : Nat → Option Addr) (CC : Nat → Nat), nv = .int .i64 ((N : Int) - (i : Int)) ∧ i ≤ N ∧ Hid (LK.waysUp xs f t ML i = (ds, fs)) ∧ Hid (NR.Own 24 wr w3.heap.size v ds AA CC) ∧ Hid (World.ownsRow wr w1.heap.size 3 1 (.slice a1 xs.length c1) xs.length (M4.iv fs)) ∧ Below w.heap.size w wr ∧ w3.heap.size ≤ wr.heap.size) (fun nv _ _ => (intOf nv).toNat)
    case atStart => exact ⟨0, [], ML, fun _ => none, fun _ => 0, by simp, by omega, ST, NR.Own.nil _ _ _ _ _, HO3, hB3, Nat.le_refl _⟩
    case round =>
      clear ST HO3
      obtain ⟨i, ds, fs, AA, CC, rfl, hi, hU, HOW, HOF, hb, hsz⟩ := hrel
      by_cases hl : i < N
      · obtain ⟨hG, hU2, hdl, hwl, hyl, hyv⟩ := NXT.out i hl ds fs hU.out
        have hxp : 0 < xs.length := by
          obtain ⟨k, hk⟩ := hG.some HFT.out; exact Nat.lt_of_le_of_lt (Nat.zero_le _) hk.lt
        obtain ⟨gf, rfl⟩ : ∃ gf, a1 = some ⟨gf, 0, none⟩ := by
          rcases HOF.out.2 with ⟨h', h0⟩ | ⟨gf, cap, cur, hv, _⟩
          · omega
          · simp only [Value.slice.injEq] at hv; exact ⟨gf, hv.1⟩
        obtain ⟨hg0, hg1⟩ := HGL.out gf rfl
        have hne : ∀ b off, a = some ⟨b, off, none⟩ → b ≠ gf := fun b off e => by
          rcases HI.out.is with e2 | ⟨b', o', e2, h2, _⟩
          · rw [e2] at hxp; simp at hxp
          · rw [e] at e2; simp only [Option.some.injEq, Addr.mk.injEq, and_true] at e2; omega
        have WF2 : Hid _ := WF.out wr gf c1 (N - i - 1) fs hG (HI.out.below hb) hne (FL.own_base HOF.out (Nat.zero_le _))
        have SF2 : Hid _ := fun W b cb h1 h2 => SF.out W b cb (LK.fin xs f t fs).way hyl hyv h1 h2
        have HU2 : Hid _ := hU2
        have HDL : Hid _ := hdl
        generalize LK.strt xs (LK.fin xs f t fs).way = l at *
        generalize (LK.fin xs f t fs).fs = fs2 at *
        generalize (LK.fin xs f t fs).way = wy at *
        have hNi : (0 : Int) < (N : Int) - (i : Int) := by omega
        have hWr : IntKind.i64.wrap ((N : Int) - (i : Int) - 1) = (N : Int) - (i : Int) - 1 := by rw [IntKind.wrap_i64]; omega
        clear NXT WF SF hG hU2 hdl hU hyv
        generalize hyn : wy.length = yn at *
        clear hyn
        generalize hln : l.length = ln at *
        have HLL : Hid _ := hln
        clear hln
        go_wp2_with fail
        refine Calls.mono WF2.out ?_
        rintro e w4 ⟨a4, c4, rfl, hY, hF4, hO4⟩
        have hb4 : Below w.heap.size w w4 := hb.trans (hO4.below (by omega) hb.size)
        have SF3 : Hid _ := SF2.out w4 a4 c4 (HI.out.below hb4) (M5.own_ints hY)
        clear WF2 SF2 hY
        go_wp2_with fail
        refine Calls.mono SF3.out ?_
        rintro e w5 ⟨a5, c5, rfl, hZ, hb5⟩
        have hB5 := hb4.trans (hb5.mono hb4.size)
        have hOW5 := (HOW.out.only hO4 hg1).below hb5
        have hF5 := M5.own_below hF4 hb5
        have hI5 : NR.In w5 w4.heap.size a5 l := NR.In.of_own hZ
        have hlt4 : ∀ j, j < ds.length → NR.rw_ ds j ≠ [] → ∀ g, AA j = some ⟨g, 0, none⟩ → g < w4.heap.size := fun j hj h0 g hg => by
          have r := (HOW.out.only hO4 hg1).row j hj
          rw [hg] at r; exact (r.lt h0).2
        have hs5 : w3.heap.size ≤ w5.heap.size := Nat.le_trans hsz (Nat.le_trans hO4.size hb5.size)
        have hs45 : w3.heap.size ≤ w4.heap.size := Nat.le_trans hsz hO4.size
        have HOW5 : Hid _ := hOW5
        have HF5 : Hid _ := hF5
        have HI5 : Hid _ := hI5
        have HLT4 : Hid _ := hlt4
        clear SF3 hZ hOW5 hF5 hI5 hlt4 hF4 hO4 hb4 hb5 HOW HOF hb
        go_wp2_with (at_builtin; go_loud (refine wpList_append_own _ rfl _ _ 33 rfl w3.heap.size 24 i1 (.slice none 0 0) 1 24 Try.underlying33 hi' hz0' hz1' hz2' rfl (by decide) _ _ _ rfl (World.ownsRow.alloc HOW5.out.out _) ⟨w5.heap.size, 0, none⟩ 1 1 [.slice a5 ln c5] rfl rfl ?c1 ?c2 ?c3 ?c4 ?c5 ?_))
        all_goals try (first | rfl | omega | exact M2.new1 _ _ _ | (intro u hu; simp at hu; subst hu; rfl) | (unfold maxLen; rw [HDL.out]; omega) | (rw [HDL.out]; omega) | (simp; omega))
        intro v' w6 hown6 hgrow6 _
        have hold6 : ∀ j, j < ds.length → NR.In w6 w3.heap.size (AA j) (NR.rw_ ds j) := fun j hj => by
          have r := HOW5.out.row j hj
          have ra : NR.In (w5.alloc (.cells #[.slice a5 ln c5] 24)) w3.heap.size (AA j) (NR.rw_ ds j) := r.below ((Below.refl _ w5).alloc (Nat.le_refl _) _)
          exact LK.in_grown ra hgrow6 (fun h0 => LK.out_ne (by decide) HOW5.out.out r h0)
        have hnew6 : NR.In w6 w3.heap.size a5 l := by
          have ra : NR.In (w5.alloc (.cells #[.slice a5 ln c5] 24)) w4.heap.size a5 l := NR.In.below HI5.out ((Below.refl _ w5).alloc (Nat.le_refl _) _)
          exact (LK.in_grown ra hgrow6 (fun h0 => LK.out_ne (by decide) HOW5.out.out HI5.out h0)).mono hs45
        have hfar6 : l ≠ [] → ∀ j, j < ds.length → NR.rw_ ds j ≠ [] → AA j ≠ a5 := fun h0 j hj hj0 ea => by
          obtain ⟨g, hg⟩ := (HOW5.out.row j hj).some hj0
          have h1 := HLT4.out j hj hj0 g hg
          have r := HI5.out
          rw [← ea, hg] at r
          have := (NR.In.lt r h0).1
          omega
        have hOW6 := HOW5.out.snoc (w' := w6) (v' := v') (l := l) (a := a5) (c := c5) hold6 hnew6 hfar6 (by rw [HLL.out]; exact hown6)
        have hF6 : World.ownsRow w6 w1.heap.size 3 1 (.slice (some ⟨gf, 0, none⟩) xs.length c1) xs.length (M4.iv fs2) := by
          have k0 := World.ownsRow.kept (World.ownsRow.alloc HF5.out (.cells #[.slice a5 ln c5] 24)) hgrow6 (.inr (fun e => by
            simp only [Value.ownBlock] at e
            have := (HOW5.out.out.lt gf e.symm).1
            omega))
          rcases k0.2 with ⟨h', _⟩ | ⟨g', c', cur, hv, _, rest⟩
          · cases h'
          · simp only [Value.slice.injEq, Option.some.injEq, Addr.mk.injEq, and_true] at hv
            obtain ⟨rfl, -, rfl⟩ := hv
            exact ⟨k0.1, .inr ⟨gf, c1, cur, rfl, hg0, rest⟩⟩
        have hB6 : Below w.heap.size w w6 := (hB5.alloc hB5.size _).grown hgrow6 (by have := hB5.size; simp; omega) (fun q hq => by have := (HOW5.out.out.lt q hq).1; have := hB3.size; omega)
        have hs6 : w3.heap.size ≤ w6.heap.size := by have := hgrow6.size; simp at this; omega
        have HOW6 : Hid _ := hOW6
        have HF6 : Hid _ := hF6
        clear hown6 hgrow6 hold6 hnew6 hfar6 hOW6 hF6 HOW5 HF5 HI5 HLT4 hB5
        go_wp2
        go_roundw
        case rel => exact ⟨i + 1, _, fs2, _, _, by push_cast; congr 1; omega, by omega, HU2, HOW6, HF6, hB6, hs6⟩
        case measure => simp [intOf]; omega
      · obtain rfl : i = N := by omega
        have hE : L = ds := by have h1 := HLE.out; rw [hU.out] at h1; exact h1
        subst hE
        obtain ⟨a9, c9, hv, -⟩ := HOW.out.view
        have hz : ((i : Int) - (i : Int)) = 0 := by omega
        rw [hz]
        rw [hv] at HOW ⊢
        have HRW : Hid (NR.Own 24 wr w.heap.size (.slice a9 L.length c9) L AA CC) := ⟨FL.own_base HOW.out.out hB3.size, fun j hj => (HOW.out.row j hj).mono hB3.size, HOW.out.far⟩
        clear NXT WF SF HLE HOF hU HGL HI HOW hv
        generalize hll : L.length = ll at *
        have HLL : Hid _ := hll
        clear hll
        go_wp2
        go_ret2
        exact ⟨a9, c9, AA, CC, by rw [HLL.out]; rfl, by rw [HLL.out]; exact HRW.out, hb⟩
theorem specWays_any (a : Option Addr) (ca : Nat) (xs : List I2) (f t : Int) (w : World) (hn : xs.length ≤ 1048576) (hin : MI2.RowAt w a xs) :
    Calls Try.prog 17 #[.slice a xs.length ca, .int .i64 f, .int .i64 t] w fun e w' => ∃ a1 c1, e = .returned (.tuple #[.slice a1 (LK.wsL xs f t).length c1, .bool (FL.ask (LK.pip xs) f t)]) ∧ NR.RowsAt w' a1 (LK.wsL xs f t) ∧ Below w.heap.size w w' :=
  (specWaysO_any a ca xs f t w hn hin).mono fun _ _ ⟨a1, c1, _, _, h1, h2, h3⟩ => ⟨a1, c1, h1, h2.rows, h3⟩
end Go.Proofs.Ytcpkcaaplhgioaa
