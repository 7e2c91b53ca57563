import Derived.Test.YtpabhjnpbnabiaaCIsWay
import Derived.Test.YtpabhjnpbnabiaaMRB
import Derived.Test.YtpabhjnpbnabiaaMAA
import Derived.Test.YtpabhjnpbnabiaaMWY
import Derived.Test.YtpabhjnpbnabiaaMWZ
/- FnWays as plain facts: a way's end is reached, a way is not empty and has no link twice. -/
namespace Go.Proofs.Ytpabhjnpbnabiaa
open Go.RowKit
namespace LK
/-- No number twice, each below n: n at most. -/
theorem pig : ∀ (n : Nat) (l : List Nat), l.Nodup → (∀ x, x ∈ l → x < n) → l.length ≤ n
  | 0, l, _, h => by
    cases l with
    | nil => simp
    | cons a l => exact absurd (h a (by simp)) (by omega)
  | n + 1, l, hd, h => by
    by_cases hm : n ∈ l
    · have := pig n (l.erase n) (hd.erase n) (fun x hx => by
        have h1 := h x (List.mem_of_mem_erase hx)
        have h2 : x ≠ n := ((List.Nodup.mem_erase_iff hd).1 hx).1
        omega)
      rw [List.length_erase_of_mem hm] at this
      omega
    · have := pig n l hd (fun x hx => by
        have h1 := h x hx
        have h2 : x ≠ n := fun e => hm (e ▸ hx)
        omega)
      omega
theorem wy_seen {xs : List I2} {f p : Int} {way seen : List Int} {k : Nat} (hk : k ≤ way.length) (h : wyUp xs f way k = some (p, seen)) : seen = f :: (way.take k).map (fun i => (MI2.at_ xs i.toNat).a1) ∧ seen.Nodup := by
  induction k generalizing p seen with
  | zero => simp only [wyUp, Option.some.injEq, Prod.mk.injEq] at h; rw [← h.2]; simp
  | succ k ih =>
    have hlt : k < way.length := by omega
    rw [wyUp] at h
    split at h
    · cases h
    · rename_i p' s' e
      obtain ⟨h1, h2⟩ := ih (by omega) e
      split at h
      · rename_i hc
        simp only [Option.some.injEq, Prod.mk.injEq] at h
        have e1 : way.take (k + 1) = way.take k ++ [way.getD k 0] := by
          rw [List.take_add_one, List.getElem?_eq_getElem hlt, List.getD_eq_getElem?_getD, List.getElem?_eq_getElem hlt]; rfl
        constructor
        · rw [← h.2, h1, e1, List.map_append]; rfl
        · rw [← h.2, List.nodup_append]
          refine ⟨h2, by simp, ?_⟩
          intro a ha b hb e
          simp only [List.mem_singleton] at hb
          exact hc.2 (by rw [← hb, ← e]; exact ha)
      · cases h
theorem wy_R {xs : List I2} {f p : Int} {way seen : List Int} (hok : FL.okP (pip xs) = true) (hf : 0 ≤ f ∧ f ≤ 7) (hin : PN.inUp xs.length way way.length) {k : Nat} (hk : k ≤ way.length) (h : wyUp xs f way k = some (p, seen)) : R xs f [] p := by
  induction k generalizing p seen with
  | zero => simp only [wyUp, Option.some.injEq, Prod.mk.injEq] at h; rw [← h.1]; exact R_start hok hf
  | succ k ih =>
    rw [wyUp] at h
    split at h
    · cases h
    · rename_i p' s' e
      have h1 := ih (by omega) e
      split at h
      · rename_i hc
        simp only [Option.some.injEq, Prod.mk.injEq] at h
        have hi := hin k (by omega)
        rw [← h.1]
        exact R_closed hok hf (by omega) (by simp) (by rw [hc.1]; exact h1)
      · cases h
structure WayC (xs : List I2) (f t : Int) (way : List Int) : Prop where
  rb : rbOk xs f [] = true
  has : t ∈ rbL xs f []
  some_ : 0 < way.length
  ok : NR.apOk [way] = true
  apart : NR.apB [way] = true
theorem wayC {xs : List I2} {f t : Int} {way : List Int} (hb : iwB xs f t way = true) : WayC xs f t way := by
  simp only [iwB, iwOk, Bool.and_eq_true] at hb
  obtain ⟨⟨ha, hp⟩, hw⟩ := hb
  have A := FL.ask_is ha
  have hin := (PN.inP_iff _ _).1 hp
  have hf : 0 ≤ f ∧ f ≤ 7 := ⟨A.f0, A.f7⟩
  have hrb : rbOk xs f [] = true := by
    unfold rbOk
    rw [A.ok, show FL.nodeOk f = true from by simp [FL.nodeOk, hf], EG.rises_yes (fun i hi => by simp at hi)]; rfl
  have hxl : xs.length ≤ 20 := by have := A.len; rwa [pip_len] at this
  unfold isW at hw
  split at hw
  · cases hw
  · rename_i p seen e
    simp only [beq_iff_eq] at hw
    subst hw
    obtain ⟨s1, s2⟩ := wy_seen (Nat.le_refl _) e
    rw [List.take_length] at s1
    have hnd : way.Nodup := by
      rw [s1, List.nodup_cons] at s2
      exact (List.pairwise_map.1 s2.2).imp (fun h e => h (by rw [e]))
    have hlen : way.length ≤ 20 := by
      have := pig 20 (way.map Int.toNat) ?_ ?_
      · simpa using this
      · rw [List.Nodup, List.pairwise_map]
        refine List.Pairwise.imp_of_mem ?_ hnd
        intro x y hx hy hne e
        have := List.all_eq_true.1 hp x hx
        have := List.all_eq_true.1 hp y hy
        simp only [decide_eq_true_eq] at *
        omega
      · intro x hx
        obtain ⟨y, hy, rfl⟩ := List.mem_map.1 hx
        have := List.all_eq_true.1 hp y hy
        simp only [decide_eq_true_eq] at this
        omega
    have hok : NR.apOk [way] = true := by
      unfold NR.apOk NR.rowsOk; simp [hlen]
    refine ⟨hrb, ?_, ?_, hok, ?_⟩
    · rw [rb_yes hrb, side_R]; exact wy_R A.ok hf hin (Nat.le_refl _) e
    · rcases Nat.eq_zero_or_pos way.length with h0 | h0
      · obtain rfl := List.eq_nil_of_length_eq_zero h0
        simp only [List.length_nil, wyUp, Option.some.injEq, Prod.mk.injEq] at e
        exact absurd e.1 A.ne
      · exact h0
    · unfold NR.apB NR.nodB
      rw [hok]; simp [hnd]
/-- What is reached goes on along the links that are not left out. -/
theorem rb_closed {xs : List I2} {f : Int} {wo : List Int} (h : rbOk xs f wo = true) {k : Nat} (hk : k < xs.length) (hw : (k : Int) ∉ wo) (h0 : (MI2.at_ xs k).a0 ∈ rbL xs f wo) : (MI2.at_ xs k).a1 ∈ rbL xs f wo := by
  have h' := h
  simp only [rbOk, Bool.and_eq_true] at h'
  rw [rb_yes h, side_R] at h0 ⊢
  exact R_closed h'.1 (FL.node_yes h'.2.1) hk hw h0
end LK
end Go.Proofs.Ytpabhjnpbnabiaa

/- What flows is no more than what a cut bears, and the most that flows is as much as the cut that the search leaves: plain facts. -/
namespace Go.Proofs.Ytpabhjnpbnabiaa
namespace FL
open Go.RowKit
/-- What crosses out of some nodes, less what crosses into them, the first k pipes. -/
def crsUp (xs : List I3) (fs : List Int) (S : List Int) : Nat → Int
  | 0 => 0
  | k + 1 => crsUp xs fs S k + ((if hasN S (MI3.at_ xs k).a0 = true then fs.getD k 0 else 0) - (if hasN S (MI3.at_ xs k).a1 = true then fs.getD k 0 else 0))
theorem hasN_cons (a : Int) (S : List Int) (x : Int) : hasN (a :: S) x = (decide (x = a) || hasN S x) := by
  simp [hasN]
theorem sg_sum (c : I3) (v : Int) (hne : c.a0 ≠ c.a1) : ∀ S : List Int, S.Nodup → (S.map (fun u => sg c u v)).sum = (if hasN S c.a0 = true then v else 0) - (if hasN S c.a1 = true then v else 0)
  | [], _ => by simp [hasN]
  | a :: S, h => by
    rw [List.nodup_cons] at h
    have ih := sg_sum c v hne S h.2
    have h0 : hasN S a = false := by simp [hasN, h.1]
    rw [List.map_cons, List.sum_cons, ih, hasN_cons, hasN_cons]
    unfold sg
    by_cases e0 : c.a0 = a
    · have e1 : ¬ c.a1 = a := fun e => hne (e0.trans e.symm)
      rw [if_pos e0, e0, h0]; simp [e1]; omega
    · by_cases e1 : c.a1 = a
      · rw [if_neg e0, if_pos e1, e1, h0]; simp [e0]; omega
      · rw [if_neg e0, if_neg e1]; simp [e0, e1]
theorem sum_add (S : List Int) (f g : Int → Int) : (S.map (fun u => f u + g u)).sum = (S.map f).sum + (S.map g).sum := by
  induction S with
  | nil => simp
  | cons a S ih => simp only [List.map_cons, List.sum_cons, ih]; omega
theorem out_sum {xs : List I3} (hok : okP xs = true) (fs : List Int) {S : List Int} (hS : S.Nodup) : ∀ m, m ≤ xs.length → (S.map (fun u => outUp xs fs u m)).sum = crsUp xs fs S m
  | 0, _ => by
    induction S with
    | nil => rfl
    | cons a S ih =>
      rw [List.nodup_cons] at hS
      have := ih hS.2
      simp only [List.map_cons, List.sum_cons, outUp, crsUp] at this ⊢
      omega
  | m + 1, hm => by
    have ih := out_sum hok fs hS m (by omega)
    have g := okP_good hok (k := m) (by omega)
    have e : (fun u => outUp xs fs u (m + 1)) = (fun u => outUp xs fs u m + sg (MI3.at_ xs m) u (fs.getD m 0)) := rfl
    rw [e, sum_add, ih, sg_sum _ _ g.ne S hS]; rfl
theorem one_sum (f : Int) (v : Int) : ∀ S : List Int, S.Nodup → (S.map (fun u => if u = f then v else 0)).sum = if f ∈ S then v else 0
  | [], _ => by simp
  | a :: S, h => by
    rw [List.nodup_cons] at h
    rw [List.map_cons, List.sum_cons, one_sum f v S h.2]
    by_cases e : a = f
    · subst e; simp [h.1]
    · by_cases e2 : f ∈ S
      · simp [e, e2]
      · simp [e, e2, Ne.symm e]
/-- Some nodes, the first one among them and the last one not. -/
structure Side (S : List Int) (f t : Int) : Prop where
  nd : S.Nodup
  lt : ∀ u ∈ S, 0 ≤ u ∧ u ≤ 7
  hf : f ∈ S
  ht : t ∉ S
theorem out_is {xs : List I3} {fs : List Int} {f t : Int} {S : List Int} (hok : okP xs = true) (hS : Side S f t) (hc : calmUp xs fs f t 8) : outUp xs fs f xs.length = crsUp xs fs S xs.length := by
  rw [← out_sum hok fs hS.nd xs.length (Nat.le_refl _)]
  have e : S.map (fun u => outUp xs fs u xs.length) = S.map (fun u => if u = f then outUp xs fs f xs.length else 0) := by
    apply List.map_congr_left
    intro u hu
    by_cases e : u = f
    · subst e; rw [if_pos rfl]
    · rw [if_neg e]
      have h := hS.lt u hu
      have := hc u.toNat (by omega) (by omega) (by intro h'; exact hS.ht (by rw [← h', show ((u.toNat : Nat) : Int) = u by omega]; exact hu))
      rwa [show ((u.toNat : Nat) : Int) = u by omega] at this
  rw [e, one_sum f _ S hS.nd, if_pos hS.hf]
theorem crs_le {xs : List I3} {fs : List Int} {S : List Int} (hfit : fitUp xs fs xs.length) : ∀ m, m ≤ xs.length → crsUp xs fs S m ≤ capUp xs S m
  | 0, _ => by simp [crsUp, capUp]
  | m + 1, hm => by
    have ih := crs_le (S := S) hfit m (by omega)
    have h := hfit m (by omega)
    rw [crsUp, capUp]
    generalize fs.getD m 0 = v at *
    cases h0 : hasN S (MI3.at_ xs m).a0 <;> cases h1 : hasN S (MI3.at_ xs m).a1 <;> simp <;> omega
/-- No flow is more than any cut. -/
theorem flow_cut {xs : List I3} {fs : List Int} {f t : Int} {S : List Int} (hok : okP xs = true) (hS : Side S f t) (hfit : fitUp xs fs xs.length) (hc : calmUp xs fs f t 8) : outUp xs fs f xs.length ≤ capUp xs S xs.length := by
  rw [out_is hok hS hc]; exact crs_le hfit _ (Nat.le_refl _)
theorem crs_full {xs : List I3} {fs : List Int} {S : List Int} (h : ∀ k, k < xs.length → (hasN S (MI3.at_ xs k).a0 = true → hasN S (MI3.at_ xs k).a1 = false → fs.getD k 0 = (MI3.at_ xs k).a2) ∧ (hasN S (MI3.at_ xs k).a0 = false → hasN S (MI3.at_ xs k).a1 = true → fs.getD k 0 = 0)) : ∀ m, m ≤ xs.length → crsUp xs fs S m = capUp xs S m
  | 0, _ => by simp [crsUp, capUp]
  | m + 1, hm => by
    have ih := crs_full h m (by omega)
    obtain ⟨a1, a2⟩ := h m (by omega)
    rw [crsUp, capUp, ih]
    generalize fs.getD m 0 = v at *
    cases h0 : hasN S (MI3.at_ xs m).a0 <;> cases h1 : hasN S (MI3.at_ xs m).a1 <;> simp [h0, h1] at a1 a2 ⊢ <;> omega
theorem side_hasN (B : List Int) (u : Int) (hu : 0 ≤ u ∧ u ≤ 7) : hasN (sideUp B 8) u = true ↔ B.getD u.toNat 0 ≠ -1 := by
  unfold hasN
  rw [decide_eq_true_eq, LK.side_mem]
  constructor
  · rintro ⟨j, _, rfl, h⟩; simpa using h
  · intro h; exact ⟨u.toNat, by omega, by omega, h⟩
/-- At the end the search does not come to the last one. -/
theorem maxF_stuck {xs : List I3} {f t : Int} (A : Ask xs f t) : reach xs (maxF xs f t) f t = false := by
  have key : ∀ i : Nat, (∃ j, j ≤ i ∧ reach xs (flowAt xs f t j) f t = false ∧ (j : Int) ≤ outUp xs (flowAt xs f t j) f xs.length) ∨ ((i + 1 : Nat) : Int) ≤ outUp xs (flowAt xs f t (i + 1)) f xs.length := by
    intro i
    induction i with
    | zero =>
      have h0 : ((0 : Nat) : Int) ≤ outUp xs (flowAt xs f t 0) f xs.length := (flowAt_calm A 0).2
      cases h : reach xs (flowAt xs f t 0) f t with
      | false => exact .inl ⟨0, Nat.le_refl _, h, h0⟩
      | true => exact .inr (flowAt_next A h0 h).1
    | succ i ih =>
      rcases ih with ⟨j, h1, h2, h3⟩ | h
      · exact .inl ⟨j, by omega, h2, h3⟩
      · cases hr : reach xs (flowAt xs f t (i + 1)) f t with
        | false => exact .inl ⟨i + 1, Nat.le_refl _, hr, h⟩
        | true => exact .inr (flowAt_next A h hr).1
  rcases key 2000 with ⟨j, h1, h2, h3⟩ | h
  · rw [maxF_is A h3 h2]; exact h2
  · have o := flowAt_ok A (2000 + 1)
    have := (outUp_within (n := f) A.ok o.2 xs.length (Nat.le_refl _)).2
    have := A.len
    omega
theorem maxF_calm8 {xs : List I3} {f t : Int} (A : Ask xs f t) : calmUp xs (maxF xs f t) f t 8 := fun j _ h0 h1 => (maxF_calm A).1 j h0 h1
/-- What is reached at the end is a side. -/
theorem cut_side {xs : List I3} {f t : Int} (A : Ask xs f t) : Side (cutL xs f t) f t := by
  refine ⟨(LK.side_up _ 8).imp (fun h e => by omega), fun u hu => ?_, ?_, ?_⟩
  · obtain ⟨j, hj, e, _⟩ := (LK.side_mem _ _ _).1 hu; omega
  · have := (srch_tree (fs := maxF xs f t) A.ok ⟨A.f0, A.f7⟩)
    have h := (side_hasN (srch xs (maxF xs f t) f).by_ f ⟨A.f0, A.f7⟩).2 (by rw [this.fst]; decide)
    simpa [hasN, cutL] using h
  · intro h
    have h1 := (side_hasN (srch xs (maxF xs f t) f).by_ t ⟨A.t0, A.t7⟩).1 (by simpa [hasN, cutL] using h)
    have := maxF_stuck A
    simp only [reach, Bool.not_eq_false', decide_eq_true_eq] at this
    exact h1 this
/-- The most that flows is as much as that cut bears. -/
theorem max_cut {xs : List I3} {f t : Int} (A : Ask xs f t) : outUp xs (maxF xs f t) f xs.length = capUp xs (cutL xs f t) xs.length := by
  have o := maxF_ok A
  rw [out_is A.ok (cut_side A) (maxF_calm8 A)]
  refine crs_full (fun k hk => ?_) _ (Nat.le_refl _)
  have g := A.good hk
  have hf := o.2 k hk
  have C := fun {m : Nat} (hm : m < 8) hr h0 => srch_closed (xs := xs) (fs := maxF xs f t) (f := f) A.ok ⟨A.f0, A.f7⟩ (m := m) (k := k) hm hr hk h0
  have i0 := side_hasN (srch xs (maxF xs f t) f).by_ (MI3.at_ xs k).a0 ⟨g.f0, g.f1⟩
  have i1 := side_hasN (srch xs (maxF xs f t) f).by_ (MI3.at_ xs k).a1 ⟨g.t0, g.t1⟩
  constructor
  · intro h0 h1
    have r0 := i0.1 h0
    by_cases h : (maxF xs f t).getD k 0 = (MI3.at_ xs k).a2
    · exact h
    · have e0 : (((MI3.at_ xs k).a0.toNat : Nat) : Int) = (MI3.at_ xs k).a0 := by have := g.f0; omega
      have c := C (m := (MI3.at_ xs k).a0.toNat) (by have := g.f1; omega) r0 (by rw [e0]; simp only [rm, if_true]; omega)
      rw [e0] at c
      simp only [nx, if_true] at c
      have := i1.2 c
      rw [show cutL xs f t = sideUp (srch xs (maxF xs f t) f).by_ 8 from rfl] at h1
      rw [h1] at this; cases this
  · intro h0 h1
    have r1 := i1.1 h1
    by_cases h : (maxF xs f t).getD k 0 = 0
    · exact h
    · have e1 : (((MI3.at_ xs k).a1.toNat : Nat) : Int) = (MI3.at_ xs k).a1 := by have := g.t0; omega
      have hne := g.ne
      have c := C (m := (MI3.at_ xs k).a1.toNat) (by have := g.t1; omega) r1 (by rw [e1]; simp only [rm, if_neg hne, if_true]; omega)
      rw [e1] at c
      simp only [nx, if_neg hne, if_true] at c
      have := i0.2 c
      rw [show cutL xs f t = sideUp (srch xs (maxF xs f t) f).by_ 8 from rfl] at h0
      rw [h0] at this; cases this
end FL
end Go.Proofs.Ytpabhjnpbnabiaa

/- Ways apart and links to cut (Menger): plain facts, over whatever program. -/
namespace Go.Proofs.Ytpabhjnpbnabiaa
namespace LK
def st (xs : List I2) (x : Int) : Int := (MI2.at_ xs x.toNat).a0
def en (xs : List I2) (x : Int) : Int := (MI2.at_ xs x.toNat).a1
/-- Links that go one behind another from u to p. -/
def Ch (xs : List I2) : Int → List Int → Int → Prop
  | u, [], p => u = p
  | u, x :: w, p => (∃ k : Nat, x = (k : Int) ∧ k < xs.length) ∧ st xs x = u ∧ Ch xs (en xs x) w p
theorem ch_snoc {xs : List I2} {k : Nat} (hk : k < xs.length) : ∀ (w : List Int) (u : Int), Ch xs u w (MI2.at_ xs k).a0 → Ch xs u (w ++ [(k : Int)]) (MI2.at_ xs k).a1
  | [], u, h => ⟨⟨k, rfl, hk⟩, by simpa [st] using h.symm, rfl⟩
  | x :: w, u, h => ⟨h.1, h.2.1, ch_snoc hk w _ h.2.2⟩
theorem last_no {xs : List I2} {u : Int} : ∀ {w : List Int}, lastOf xs u w = none → ∀ x ∈ w, st xs x ≠ u
  | [], _, x, hx => by cases hx
  | y :: w, h, x, hx => by
    rw [lastOf] at h
    split at h
    · cases h
    · rename_i e
      split at h
      · cases h
      · rename_i hy
        rcases List.mem_cons.1 hx with rfl | hx
        · exact hy
        · exact last_no e x hx
theorem last_ch {xs : List I2} {u p : Int} : ∀ {w : List Int} {u0 z : Int} {v : List Int}, Ch xs u0 w p → lastOf xs u w = some (z, v) → (∃ k : Nat, z = (k : Int) ∧ k < xs.length) ∧ st xs z = u ∧ Ch xs (en xs z) v p ∧ (∀ x ∈ v, st xs x ≠ u)
  | [], u0, z, v, _, h => by cases h
  | y :: w, u0, z, v, hc, h => by
    rw [lastOf] at h
    split at h
    · rename_i r e
      cases h
      exact last_ch hc.2.2 e
    · rename_i e
      split at h
      · rename_i hy
        cases h
        exact ⟨hc.1, hy, hc.2.2, last_no e⟩
      · cases h
/-- A walk with its rounds left out is a way: it goes on, and starts nowhere twice. -/
theorem strt_ch {xs : List I2} {p : Int} : ∀ (n : Nat) (w : List Int) (u : Int), w.length = n → Ch xs u w p → Ch xs u (strt xs w) p ∧ ((strt xs w).map (st xs)).Nodup := by
  intro n
  induction n using Nat.strongRecOn with
  | ind n ih =>
    intro w u hn hc
    cases w with
    | nil => rw [strt_nil]; exact ⟨hc, by simp⟩
    | cons y w =>
      obtain ⟨z, v, h⟩ := lastOf_some xs y w
      have hy : (MI2.at_ xs y.toNat).a0 = u := hc.2.1
      rw [strt_cons h]
      rw [hy] at h
      obtain ⟨h1, h2, h3, h4⟩ := last_ch hc h
      have hl := lastOf_len h
      obtain ⟨i1, i2⟩ := ih v.length (by omega) v (en xs z) rfl h3
      refine ⟨⟨h1, h2, i1⟩, ?_⟩
      rw [List.map_cons, List.nodup_cons]
      refine ⟨fun hm => ?_, i2⟩
      obtain ⟨x, hx, he⟩ := List.mem_map.1 hm
      exact h4 x (strt_mem xs v.length v rfl x hx) (he.trans h2)
theorem getD_put (l : List Int) (k j : Nat) : (l.set k 0).getD j 0 = l.getD j 0 ∨ (l.set k 0).getD j 0 = 0 := by
  simp only [List.getD_eq_getElem?_getD, List.getElem?_set]
  split
  · split
    · exact .inr rfl
    · exact .inr rfl
  · exact .inl rfl
theorem getD_put_self (l : List Int) (k : Nat) : (l.set k 0).getD k 0 = 0 := by
  simp only [List.getD_eq_getElem?_getD, List.getElem?_set]
  split
  · split <;> rfl
  · rename_i h; exact absurd trivial h
theorem wlk_ch {xs : List I2} {f t : Int} {r : Nat} {fs : List Int} (hok : FL.okP (pip xs) = true) (h : Gone xs f t r ⟨f, fs, []⟩) : ∀ i, Ch xs f (wlk xs f t fs i).way (wlk xs f t fs i).pos
  | 0 => rfl
  | i + 1 => by
    rw [wlk]
    split
    · exact wlk_ch hok h i
    · rename_i hp
      obtain ⟨k, hk⟩ := (wlk_gone hok h i).some hp
      have hc := wlk_ch hok h i
      rw [← hk.is.1] at hc
      unfold wstep
      rw [fk_is hk]
      exact ch_snoc hk.lt _ _ hc
theorem wlk_use {xs : List I2} {f t : Int} {r : Nat} {fs : List Int} (hok : FL.okP (pip xs) = true) (h : Gone xs f t r ⟨f, fs, []⟩) : ∀ i, (∀ j, (wlk xs f t fs i).fs.getD j 0 = fs.getD j 0 ∨ (wlk xs f t fs i).fs.getD j 0 = 0) ∧ (∀ x ∈ (wlk xs f t fs i).way, fs.getD x.toNat 0 ≠ 0 ∧ (wlk xs f t fs i).fs.getD x.toNat 0 = 0)
  | 0 => ⟨fun _ => .inl rfl, fun x hx => by cases hx⟩
  | i + 1 => by
    obtain ⟨h1, h2⟩ := wlk_use hok h i
    rw [wlk]
    split
    · exact ⟨h1, h2⟩
    · rename_i hp
      obtain ⟨k, hk⟩ := (wlk_gone hok h i).some hp
      unfold wstep
      rw [fk_is hk]
      refine ⟨fun j => ?_, fun x hx => ?_⟩
      · rcases getD_put (wlk xs f t fs i).fs k j with e | e
        · rcases h1 j with e' | e'
          · exact .inl (e.trans e')
          · exact .inr (e.trans e')
        · exact .inr e
      · have hx' : x ∈ (wlk xs f t fs i).way ++ [(k : Int)] := hx
        rcases List.mem_append.1 hx' with hm | hm
        · refine ⟨(h2 x hm).1, ?_⟩
          rcases getD_put (wlk xs f t fs i).fs k x.toNat with e | e
          · exact e.trans (h2 x hm).2
          · exact e
        · rw [List.mem_singleton] at hm
          subst hm
          refine ⟨?_, getD_put_self _ _⟩
          rcases h1 k with e | e
          · intro h0
            exact hk.is.2 (e.trans h0)
          · exact absurd e hk.is.2
/-- A way from f to t. -/
structure Way (xs : List I2) (f t : Int) (w : List Int) : Prop where
  ch : Ch xs f w t
  nd : (w.map (st xs)).Nodup
  nt : ∀ x ∈ w, st xs x ≠ t
theorem fin_way {xs : List I2} {f t : Int} {m : Nat} {fs : List Int} (hok : FL.okP (pip xs) = true) (h : Flw xs f t m fs) (hm : 1 ≤ m) : Way xs f t (strt xs (fin xs f t fs).way) ∧ (∀ j, (fin xs f t fs).fs.getD j 0 = fs.getD j 0 ∨ (fin xs f t fs).fs.getD j 0 = 0) ∧ (∀ x ∈ strt xs (fin xs f t fs).way, fs.getD x.toNat 0 ≠ 0 ∧ (fin xs f t fs).fs.getD x.toNat 0 = 0) := by
  obtain ⟨i, ha, hp⟩ := fin_end hok (h.gone hm)
  have hc : Ch xs f (fin xs f t fs).way (fin xs f t fs).pos := wlk_ch hok (h.gone hm) xs.length
  rw [hp] at hc
  obtain ⟨u1, u2⟩ := wlk_use hok (h.gone hm) xs.length
  obtain ⟨c1, c2⟩ := strt_ch _ _ _ rfl hc
  have hmem := strt_mem xs _ (fin xs f t fs).way rfl
  refine ⟨⟨c1, c2, fun x hx => ?_⟩, u1, fun x hx => u2 x (hmem x hx)⟩
  obtain ⟨k, rfl, _, h3⟩ := ha.no x (hmem x hx)
  exact h3
theorem ch_in {xs : List I2} : ∀ {w : List Int} {u p : Int}, Ch xs u w p → ∀ x ∈ w, ∃ k : Nat, x = (k : Int) ∧ k < xs.length
  | y :: w, u, p, h, x, hx => by
    rcases List.mem_cons.1 hx with rfl | hx
    · exact h.1
    · exact ch_in h.2.2 x hx
theorem way_up {xs : List I2} {f t : Int} {w : List Int} (W : Way xs f t w) : ∀ k, k ≤ w.length → ∃ p, wyUp xs f w k = some (p, (w.take k).map (st xs) ++ [p]) ∧ Ch xs p (w.drop k) t
  | 0, _ => ⟨f, rfl, W.ch⟩
  | k + 1, hk => by
    obtain ⟨p, h1, h2⟩ := way_up W k (by omega)
    have hlt : k < w.length := by omega
    rw [List.drop_eq_getElem_cons hlt] at h2
    obtain ⟨-, h4, h5⟩ := h2
    have hg : w.getD k 0 = w[k] := by simp [List.getD_eq_getElem?_getD, hlt]
    have hseen : (w.take k).map (st xs) ++ [p] = (w.take (k + 1)).map (st xs) := by rw [List.take_succ_eq_append_getElem hlt, List.map_append, ← h4]; rfl
    have hno : en xs w[k] ∉ (w.take (k + 1)).map (st xs) := by
      intro hm
      by_cases hd : k + 1 < w.length
      · rw [List.drop_eq_getElem_cons hd] at h5
        have h6 : st xs w[k + 1] = en xs w[k] := h5.2.1
        have hnd := W.nd
        conv at hnd => rw [← List.take_append_drop (k + 1) w, List.map_append, List.drop_eq_getElem_cons hd, List.map_cons]
        rw [List.nodup_append] at hnd
        exact hnd.2.2 _ hm _ (List.mem_cons_self) h6.symm
      · rw [List.drop_eq_nil_of_le (by omega)] at h5
        have h6 : en xs w[k] = t := h5
        rw [h6] at hm
        obtain ⟨x, hx, he⟩ := List.mem_map.1 hm
        exact W.nt x (List.mem_of_mem_take hx) he
    refine ⟨en xs w[k], ?_, h5⟩
    rw [wy_yes h1 (by rw [hg]; exact h4) (by rw [hg, hseen]; exact hno), hg, hseen]
    rfl
theorem way_isW {xs : List I2} {f t : Int} {w : List Int} (W : Way xs f t w) : isW xs f t w = true := by
  obtain ⟨p, h1, h2⟩ := way_up W w.length (Nat.le_refl _)
  rw [List.drop_length] at h2
  have h3 : p = t := h2
  rw [isW_end h1, h3]
  simp
theorem way_nd {xs : List I2} {f t : Int} {w : List Int} (W : Way xs f t w) : w.Nodup := by
  have := W.nd
  exact List.Pairwise.of_map _ (fun a b h e => h (by rw [e])) this
theorem way_iw {xs : List I2} {f t : Int} {w : List Int} (ha : FL.ask (pip xs) f t = true) (W : Way xs f t w) : iwOk xs f t w = true ∧ iwB xs f t w = true := by
  have hin : PN.inP xs.length w = true := by
    unfold PN.inP
    rw [List.all_eq_true]
    intro x hx
    obtain ⟨k, rfl, hk⟩ := ch_in W.ch x hx
    simp only [decide_eq_true_eq]
    omega
  have h1 : iwOk xs f t w = true := by simp [iwOk, ha, hin]
  exact ⟨h1, by simp [iwB, h1, way_isW W]⟩
/-- What all ways together are. -/
structure All (xs : List I2) (f t : Int) (fs : List Int) (L : List (List Int)) (F : List Int) : Prop where
  use : ∀ x ∈ L.flatten, fs.getD x.toNat 0 ≠ 0 ∧ F.getD x.toNat 0 = 0
  nd : L.flatten.Nodup
  less : ∀ j, F.getD j 0 = fs.getD j 0 ∨ F.getD j 0 = 0
  way : ∀ w ∈ L, Way xs f t w ∧ w.length ≤ 20
theorem all_up {xs : List I2} {f t : Int} {m : Nat} {fs : List Int} (hok : FL.okP (pip xs) = true) (h : Flw xs f t m fs) : ∀ i, i ≤ m → All xs f t fs (waysUp xs f t fs i).1 (waysUp xs f t fs i).2
  | 0, _ => ⟨fun x hx => by simp [waysUp] at hx, by simp [waysUp], fun j => .inl rfl, fun w hw => by simp [waysUp] at hw⟩
  | i + 1, hi => by
    have A := all_up hok h i (by omega)
    have hF := ways_flw hok h i (by omega)
    obtain ⟨w1, w2, w3⟩ := fin_way hok hF (by omega)
    have hl := way_len hok hF (by omega)
    rw [waysUp]
    generalize (waysUp xs f t fs i).2 = F at *
    generalize (waysUp xs f t fs i).1 = L at *
    generalize strt xs (fin xs f t F).way = v at *
    generalize (fin xs f t F).fs = F' at *
    have hback : ∀ j, F.getD j 0 ≠ 0 → fs.getD j 0 ≠ 0 := fun j hj => by
      rcases A.less j with e | e
      · rw [← e]; exact hj
      · exact absurd e hj
    refine ⟨fun x hx => ?_, ?_, fun j => ?_, fun w hw => ?_⟩
    · rw [List.flatten_append, List.mem_append] at hx
      rcases hx with hx | hx
      · refine ⟨(A.use x hx).1, ?_⟩
        rcases w2 x.toNat with e | e
        · exact e.trans (A.use x hx).2
        · exact e
      · have hx' : x ∈ v := by simpa using hx
        exact ⟨hback _ (w3 x hx').1, (w3 x hx').2⟩
    · rw [List.flatten_append, List.nodup_append]
      refine ⟨A.nd, by simpa using way_nd w1, fun x hx y hy e => ?_⟩
      have hy' : y ∈ v := by simpa using hy
      rw [← e] at hy'
      exact (w3 x hy').1 (A.use x hx).2
    · rcases w2 j with e | e
      · rcases A.less j with e' | e'
        · exact .inl (e.trans e')
        · exact .inr (e.trans e')
      · exact .inr e
    · rcases List.mem_append.1 hw with hw | hw
      · exact A.way w hw
      · rw [List.mem_singleton] at hw
        rw [hw]
        exact ⟨w1, hl⟩
end LK
end Go.Proofs.Ytpabhjnpbnabiaa

/- Links to cut (Menger): as many as ways, none is left with them cut, and one with any fewer: plain facts. -/
namespace Go.Proofs.Ytpabhjnpbnabiaa
namespace LK
theorem cap_len (xs : List I2) (zs : List Int) : ∀ k, k ≤ xs.length → ((FL.outK (pip xs) zs k).length : Int) = FL.capUp (pip xs) zs k
  | 0, _ => rfl
  | k + 1, hk => by
    have ih := cap_len xs zs k (by omega)
    rw [FL.capUp]
    by_cases h : FL.hasN zs (MI3.at_ (pip xs) k).a0 = true ∧ FL.hasN zs (MI3.at_ (pip xs) k).a1 = false
    · rw [if_pos h, FL.outK_yes h.1 h.2, List.length_append, pip_at xs k (by omega)]
      show ((FL.outK (pip xs) zs k).length + 1 : Nat) = FL.capUp (pip xs) zs k + 1
      omega
    · rw [if_neg h, FL.outK_no (by
        cases h0 : FL.hasN zs (MI3.at_ (pip xs) k).a0
        · exact .inl rfl
        · cases h1 : FL.hasN zs (MI3.at_ (pip xs) k).a1
          · exact absurd ⟨h0, h1⟩ h
          · exact .inr rfl)]
      omega
theorem outK_in (xs : List I2) (S : List Int) : ∀ n, n ≤ xs.length → ∀ k : Nat, (k : Int) ∈ FL.outK (pip xs) S n ↔ k < n ∧ (MI2.at_ xs k).a0 ∈ S ∧ (MI2.at_ xs k).a1 ∉ S
  | 0, _, k => by simp [FL.outK]
  | n + 1, hn, k => by
    have ih := outK_in xs S n (by omega) k
    have hp := pip_at xs n (by omega)
    by_cases h : FL.hasN S (MI3.at_ (pip xs) n).a0 = true ∧ FL.hasN S (MI3.at_ (pip xs) n).a1 = false
    · rw [FL.outK_yes h.1 h.2, List.mem_append, ih, List.mem_singleton]
      rw [hp] at h
      have h0 : (MI2.at_ xs n).a0 ∈ S := by have := h.1; unfold FL.hasN at this; exact of_decide_eq_true this
      have h1 : (MI2.at_ xs n).a1 ∉ S := by have := h.2; unfold FL.hasN at this; exact of_decide_eq_false this
      constructor
      · rintro (⟨a, b, c⟩ | e)
        · exact ⟨by omega, b, c⟩
        · obtain rfl : k = n := by omega
          exact ⟨by omega, h0, h1⟩
      · rintro ⟨a, b, c⟩
        by_cases e : k = n
        · exact .inr (by rw [e])
        · exact .inl ⟨by omega, b, c⟩
    · rw [FL.outK_no (by
        cases h0 : FL.hasN S (MI3.at_ (pip xs) n).a0
        · exact .inl rfl
        · cases h1 : FL.hasN S (MI3.at_ (pip xs) n).a1
          · exact absurd ⟨h0, h1⟩ h
          · exact .inr rfl), ih]
      rw [hp] at h
      constructor
      · rintro ⟨a, b, c⟩; exact ⟨by omega, b, c⟩
      · rintro ⟨a, b, c⟩
        refine ⟨?_, b, c⟩
        by_cases e : k = n
        · subst e
          exact absurd ⟨by unfold FL.hasN; exact decide_eq_true b, by unfold FL.hasN; exact decide_eq_false c⟩ h
        · omega
theorem outK_up (xs : List I3) (S : List Int) : ∀ n, Up (FL.outK xs S n)
  | 0 => by simp [FL.outK, Up]
  | n + 1 => by
    have ih := outK_up xs S n
    unfold FL.outK
    split
    · unfold Up
      rw [List.pairwise_append]
      refine ⟨ih, by simp, fun x hx y hy => ?_⟩
      obtain ⟨j, rfl, hj⟩ := FL.outK_mem x hx
      rw [List.mem_singleton] at hy
      omega
    · rw [List.append_nil]; exact ih
theorem up_rises {n : Nat} {l : List Int} (h : Up l) (hb : ∀ x ∈ l, 0 ≤ x ∧ x < n) : EG.rises n l = true := by
  refine EG.rises_yes fun i hi => ?_
  have hg : l.getD i 0 = l[i] := by simp [List.getD_eq_getElem?_getD, hi]
  rw [hg]
  refine ⟨(hb _ (List.getElem_mem hi)).1, (hb _ (List.getElem_mem hi)).2, fun h0 => ?_⟩
  have hg' : l.getD (i - 1) 0 = l[i - 1] := by simp [List.getD_eq_getElem?_getD, show i - 1 < l.length by omega]
  rw [hg']
  exact (List.pairwise_iff_getElem.1 h) (i - 1) i (by omega) hi (by omega)
theorem nodup_le : ∀ (l m : List Int), l.Nodup → (∀ x ∈ l, x ∈ m) → l.length ≤ m.length
  | [], m, _, _ => by simp
  | x :: l, m, hn, hs => by
    rw [List.nodup_cons] at hn
    have hx := hs x List.mem_cons_self
    have ih := nodup_le l (m.erase x) hn.2 (fun y hy => (List.mem_erase_of_ne (fun (e : y = x) => hn.1 (by rw [← e]; exact hy))).2 (hs y (List.mem_cons_of_mem _ hy)))
    rw [List.length_erase_of_mem hx] at ih
    have := List.length_pos_of_mem hx
    simp only [List.length_cons]
    omega
/-- Who goes from one side to the other crosses. -/
theorem ch_cross {xs : List I2} {S : List Int} : ∀ {w : List Int} {u p : Int}, Ch xs u w p → u ∈ S → p ∉ S → ∃ k : Nat, (k : Int) ∈ w ∧ k < xs.length ∧ (MI2.at_ xs k).a0 ∈ S ∧ (MI2.at_ xs k).a1 ∉ S
  | [], u, p, h, h1, h2 => absurd (h ▸ h1) h2
  | x :: w, u, p, h, h1, h2 => by
    obtain ⟨⟨k, rfl, hk⟩, h4, h5⟩ := h
    have hs : (MI2.at_ xs k).a0 ∈ S := by have : st xs (k : Int) ∈ S := h4 ▸ h1; simpa [st] using this
    by_cases he : (MI2.at_ xs k).a1 ∈ S
    · obtain ⟨j, a, b, c, d⟩ := ch_cross h5 (by simpa [en] using he) h2
      exact ⟨j, List.mem_cons_of_mem _ a, b, c, d⟩
    · exact ⟨k, List.mem_cons_self, hk, hs, he⟩
/-- What FnMenger asks of the ways and of the links to cut. -/
structure Mg (xs : List I2) (f t : Int) (ws : List (List Int)) (c : List Int) : Prop where
  way : ∀ w ∈ ws, iwOk xs f t w = true ∧ iwB xs f t w = true
  met : ∀ w ∈ ws, ∃ x ∈ w, x ∈ c
  apart : NR.apOk ws = true ∧ NR.apB ws = true
  len : ws.length = c.length
  cut : rbOk xs f c = true ∧ t ∉ rbL xs f c
  few : ∀ i, i < c.length → rbOk xs f (c.eraseIdx i) = true ∧ t ∈ rbL xs f (c.eraseIdx i)
theorem mg_of {xs : List I2} {f t : Int} (ha : FL.ask (pip xs) f t = true) : Mg xs f t (wsL xs f t) (fcL xs f t) := by
  have A := FL.ask_is ha
  have hS := FL.cut_side A
  have hmax := FL.max_cut A
  have hws : wsL xs f t = (waysUp xs f t (FL.maxF (pip xs) f t) (FL.outUp (pip xs) (FL.maxF (pip xs) f t) f xs.length).toNat).1 := by unfold wsL; rw [if_pos ha]
  have hfc : fcL xs f t = FL.outK (pip xs) (FL.cutL (pip xs) f t) xs.length := by
    unfold fcL FL.mcL; rw [if_pos ha, if_pos ha]
  have hfl := maxF_flw A
  have hcl := cap_len xs (FL.cutL (pip xs) f t) xs.length (Nat.le_refl _)
  rw [pip_len] at hmax
  have hall := all_up A.ok hfl _ (Nat.le_refl _)
  have hlen0 := ways_len xs f t (FL.maxF (pip xs) f t) (FL.outUp (pip xs) (FL.maxF (pip xs) f t) f xs.length).toNat
  rw [← hws] at hall hlen0
  rw [← hfc] at hcl
  have hlen : (wsL xs f t).length = (fcL xs f t).length := by rw [hlen0]; omega
  have h20 : xs.length ≤ 20 := by have := A.len; rw [pip_len] at this; exact this
  have hc20 : (fcL xs f t).length ≤ 20 := by rw [hfc]; have := FL.outK_len (pip xs) (FL.cutL (pip xs) f t) xs.length; omega
  have hup : Up (fcL xs f t) := by rw [hfc]; exact outK_up _ _ _
  have hbd : ∀ x ∈ fcL xs f t, 0 ≤ x ∧ x < xs.length := fun x hx => by
    rw [hfc] at hx
    obtain ⟨j, rfl, hj⟩ := FL.outK_mem x hx
    omega
  have hnf : 0 ≤ f ∧ f ≤ 7 := hS.lt f hS.hf
  have hnode : FL.nodeOk f = true := by simp [FL.nodeOk]; omega
  have hrb : ∀ l, Up l → (∀ x ∈ l, 0 ≤ x ∧ x < (xs.length : Int)) → rbOk xs f l = true := fun l h1 h2 => by
    simp [rbOk, A.ok, hnode, up_rises h1 h2]
  refine ⟨fun w hw => way_iw ha (hall.way w hw).1, fun w hw => ?_, ?_, hlen, ⟨hrb _ hup hbd, ?_⟩, fun i hi => ?_⟩
  · obtain ⟨k, h1, h2, h3, h4⟩ := ch_cross (hall.way w hw).1.ch hS.hf hS.ht
    refine ⟨k, h1, ?_⟩
    rw [hfc]
    exact (outK_in xs _ xs.length (Nat.le_refl _) k).2 ⟨h2, h3, h4⟩
  · have h1 : NR.apOk (wsL xs f t) = true := by
      unfold NR.apOk NR.rowsOk
      rw [Bool.and_eq_true, decide_eq_true_eq, List.all_eq_true]
      exact ⟨by omega, fun w hw => by simpa using (hall.way w hw).2⟩
    exact ⟨h1, by simp [NR.apB, h1, NR.nodB, hall.nd]⟩
  · rw [rb_yes (hrb _ hup hbd), side_R]
    intro hR
    refine hS.ht (R_least A.ok hnf (fun n => n ∈ FL.cutL (pip xs) f t) hS.hf (fun k hk hw h0 => ?_) t hR)
    by_cases he : (MI2.at_ xs k).a1 ∈ FL.cutL (pip xs) f t
    · exact he
    · exfalso
      apply hw
      rw [hfc]
      exact (outK_in xs _ xs.length (Nat.le_refl _) k).2 ⟨hk, h0, he⟩
  · have hup' : Up ((fcL xs f t).eraseIdx i) := List.Pairwise.sublist (List.eraseIdx_sublist _ _) hup
    have hbd' : ∀ x ∈ (fcL xs f t).eraseIdx i, 0 ≤ x ∧ x < (xs.length : Int) := fun x hx => hbd x ((List.eraseIdx_sublist _ _).subset hx)
    refine ⟨hrb _ hup' hbd', ?_⟩
    rw [rb_yes (hrb _ hup' hbd')]
    by_cases ht : t ∈ FL.sideUp (reachB xs f ((fcL xs f t).eraseIdx i)) 8
    · exact ht
    · exfalso
      have hSd : FL.Side (FL.sideUp (reachB xs f ((fcL xs f t).eraseIdx i)) 8) f t := by
        refine ⟨?_, fun u hu => ?_, (side_R _ _ _ _).2 (R_start A.ok hnf), ht⟩
        · exact (side_up _ _).imp (fun h e => by omega)
        · have := (side_R _ _ _ _).1 hu
          exact ⟨this.1, this.2.1⟩
      have hfc2 := FL.flow_cut A.ok hSd (FL.maxF_ok A).2 (FL.maxF_calm8 A)
      rw [pip_len, ← cap_len xs _ xs.length (Nat.le_refl _), hmax, ← cap_len xs _ xs.length (Nat.le_refl _), ← hfc] at hfc2
      have hsub : ∀ x ∈ FL.outK (pip xs) (FL.sideUp (reachB xs f ((fcL xs f t).eraseIdx i)) 8) xs.length, x ∈ (fcL xs f t).eraseIdx i := fun x hx => by
        obtain ⟨k, rfl, hk⟩ := FL.outK_mem x hx
        obtain ⟨h1, h2, h3⟩ := (outK_in xs _ xs.length (Nat.le_refl _) k).1 hx
        by_cases hw : (k : Int) ∈ (fcL xs f t).eraseIdx i
        · exact hw
        · exact absurd ((side_R _ _ _ _).2 (R_closed A.ok hnf h1 hw ((side_R _ _ _ _).1 h2))) h3
      have hnd : (FL.outK (pip xs) (FL.sideUp (reachB xs f ((fcL xs f t).eraseIdx i)) 8) xs.length).Nodup := (outK_up _ _ _).imp (fun h e => by omega)
      have hle := nodup_le _ _ hnd hsub
      rw [List.length_eraseIdx, if_pos hi] at hle
      omega
end LK
end Go.Proofs.Ytpabhjnpbnabiaa
