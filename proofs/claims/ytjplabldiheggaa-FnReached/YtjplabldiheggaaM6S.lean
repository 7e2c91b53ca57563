/- The search from the front, contact by contact: plain facts. -/
import Derived.Test.YtjplabldiheggaaMArr
namespace Go.Proofs.Ytjplabldiheggaa
open Go.RowKit
namespace PN
open FL
/-- Whether a time is earlier. -/
def early (t : Int) : Mo → Bool
  | .fin u => decide (t < u)
  | .inf => true
  | .ago => false
/-- Of the first k contacts the first by which a node is reached earliest, and earlier than before. -/
def best (xs : List I5) (s : Nat → Mo) : Nat → Option (Nat × Int)
  | 0 => none
  | k + 1 =>
    match arr (MI5.at_ xs k) (s (MI5.at_ xs k).a0.toNat) with
    | .fin t => if early t (s (MI5.at_ xs k).a1.toNat) = true then
        (match best xs s k with
          | none => some (k, t)
          | some (b, u) => if t < u then some (k, t) else some (b, u))
      else best xs s k
    | _ => best xs s k
theorem best_skip {xs : List I5} {s : Nat → Mo} {k : Nat} (h : arr (MI5.at_ xs k) (s (MI5.at_ xs k).a0.toNat) = .inf) : best xs s (k + 1) = best xs s k := by
  rw [best, h]
theorem best_late {xs : List I5} {s : Nat → Mo} {k : Nat} {t : Int} (h : arr (MI5.at_ xs k) (s (MI5.at_ xs k).a0.toNat) = .fin t) (h2 : early t (s (MI5.at_ xs k).a1.toNat) = false) : best xs s (k + 1) = best xs s k := by
  rw [best, h]; simp [h2]
theorem best_first {xs : List I5} {s : Nat → Mo} {k : Nat} {t : Int} (h : arr (MI5.at_ xs k) (s (MI5.at_ xs k).a0.toNat) = .fin t) (h2 : early t (s (MI5.at_ xs k).a1.toNat) = true) (h3 : best xs s k = none) : best xs s (k + 1) = some (k, t) := by
  rw [best, h]; simp [h2, h3]
theorem best_new {xs : List I5} {s : Nat → Mo} {k b : Nat} {t u : Int} (h : arr (MI5.at_ xs k) (s (MI5.at_ xs k).a0.toNat) = .fin t) (h2 : early t (s (MI5.at_ xs k).a1.toNat) = true) (h3 : best xs s k = some (b, u)) (h4 : t < u) : best xs s (k + 1) = some (k, t) := by
  rw [best, h]; simp [h2, h3, h4]
theorem best_old {xs : List I5} {s : Nat → Mo} {k b : Nat} {t u : Int} (h : arr (MI5.at_ xs k) (s (MI5.at_ xs k).a0.toNat) = .fin t) (h2 : early t (s (MI5.at_ xs k).a1.toNat) = true) (h3 : best xs s k = some (b, u)) (h4 : ¬ t < u) : best xs s (k + 1) = some (b, u) := by
  rw [best, h]; simp [h2, h3, h4]
theorem best_is {xs : List I5} {s : Nat → Mo} {k b : Nat} {t : Int} (h : best xs s k = some (b, t)) : b < k ∧ arr (MI5.at_ xs b) (s (MI5.at_ xs b).a0.toNat) = .fin t ∧ early t (s (MI5.at_ xs b).a1.toNat) = true := by
  induction k generalizing b t with
  | zero => simp [best] at h
  | succ k ih =>
    rw [best] at h
    split at h
    · rename_i u hu
      split at h
      · rename_i he
        split at h
        · simp only [Option.some.injEq, Prod.mk.injEq] at h
          obtain ⟨rfl, rfl⟩ := h
          exact ⟨by omega, hu, he⟩
        · rename_i b' u' hb
          split at h
          · simp only [Option.some.injEq, Prod.mk.injEq] at h
            obtain ⟨rfl, rfl⟩ := h
            exact ⟨by omega, hu, he⟩
          · simp only [Option.some.injEq, Prod.mk.injEq] at h
            obtain ⟨rfl, rfl⟩ := h
            obtain ⟨h1, h2, h3⟩ := ih hb
            exact ⟨by omega, h2, h3⟩
      · obtain ⟨h1, h2, h3⟩ := ih h
        exact ⟨by omega, h2, h3⟩
    · obtain ⟨h1, h2, h3⟩ := ih h
      exact ⟨by omega, h2, h3⟩
/-- A state of the search: when each node is reached, and by which contact last. -/
structure St where
  wh : Nat → Mo
  la : Nat → Option Nat
def put {α : Type} (f : Nat → α) (i : Nat) (v : α) : Nat → α := fun p => if p = i then v else f p
theorem put_at {α : Type} (f : Nat → α) (i : Nat) (v : α) : put f i v i = v := by simp [put]
theorem put_ne {α : Type} (f : Nat → α) {i j : Nat} (v : α) (h : j ≠ i) : put f i v j = f j := by simp [put, h]
/-- A contact is taken. -/
def take1 (xs : List I5) (s : St) (k : Nat) (t : Int) : St := ⟨put s.wh (MI5.at_ xs k).a1.toNat (.fin t), put s.la (MI5.at_ xs k).a1.toNat (some k)⟩
def wt : Mo → Nat
  | .fin n => n.toNat
  | _ => 1048577
def mu (f : Nat → Mo) : Nat := wt (f 0) + wt (f 1) + wt (f 2) + wt (f 3) + wt (f 4) + wt (f 5) + wt (f 6) + wt (f 7)
theorem mu_put {f : Nat → Mo} {i : Nat} {m : Mo} (hi : i < 8) (h : wt m < wt (f i)) : mu (put f i m) < mu f := by
  match i, hi with
  | 0, _ => simp [mu, put] at *; omega
  | 1, _ => simp [mu, put] at *; omega
  | 2, _ => simp [mu, put] at *; omega
  | 3, _ => simp [mu, put] at *; omega
  | 4, _ => simp [mu, put] at *; omega
  | 5, _ => simp [mu, put] at *; omega
  | 6, _ => simp [mu, put] at *; omega
  | 7, _ => simp [mu, put] at *; omega
/-- All times are such. -/
def okS (f : Nat → Mo) : Prop := ∀ i, okT (f i)
theorem okT_of_arr {xs : List I5} (h : okP xs = true) {f : Nat → Mo} (hf : okS f) {k : Nat} (hk : k < xs.length) : okT (arr (MI5.at_ xs k) (f (MI5.at_ xs k).a0.toNat)) := arr_okT (okP_good h hk) (hf _)
theorem step_ok {xs : List I5} (h : okP xs = true) {s : St} (hs : okS s.wh) {b : Nat} {t : Int} (hb : best xs s.wh xs.length = some (b, t)) : okS (take1 xs s b t).wh ∧ mu (take1 xs s b t).wh < mu s.wh := by
  obtain ⟨h1, h2, h3⟩ := best_is hb
  have ht := okT_of_arr h hs h1
  rw [h2] at ht
  have g := okP_good h h1
  refine ⟨fun i => ?_, ?_⟩
  · simp only [take1, put]
    split
    · exact ht
    · exact hs i
  · simp only [take1]
    refine mu_put (by have := g.t0; have := g.t1; omega) ?_
    have h4 := hs (MI5.at_ xs b).a1.toNat
    cases hq : s.wh (MI5.at_ xs b).a1.toNat with
    | fin u => rw [hq] at h3 h4; simp only [early, decide_eq_true_eq] at h3; simp only [okT] at ht h4; simp only [wt]; omega
    | inf => simp only [okT] at ht; simp only [wt]; omega
    | ago => rw [hq] at h3; simp [early] at h3
def run (xs : List I5) : Nat → St → St
  | 0, s => s
  | f + 1, s => match best xs s.wh xs.length with
    | none => s
    | some (b, t) => run xs f (take1 xs s b t)
theorem run_more {xs : List I5} (h : okP xs = true) (f g : Nat) (s : St) (hs : okS s.wh) (hf : mu s.wh < f) (hg : mu s.wh < g) : run xs f s = run xs g s := by
  induction f generalizing g s with
  | zero => omega
  | succ f ih =>
    cases g with
    | zero => omega
    | succ g =>
      simp only [run]
      cases hb : best xs s.wh xs.length with
      | none => rfl
      | some p =>
        obtain ⟨b, t⟩ := p
        obtain ⟨h1, h2⟩ := step_ok h hs hb
        exact ih g _ h1 (by omega) (by omega)
/-- Where the search ends. -/
def fin (xs : List I5) (s : St) : St := run xs (mu s.wh + 1) s
theorem fin_none {xs : List I5} {s : St} (h : best xs s.wh xs.length = none) : fin xs s = s := by simp [fin, run, h]
theorem fin_some {xs : List I5} (h : okP xs = true) {s : St} (hs : okS s.wh) {b : Nat} {t : Int} (hb : best xs s.wh xs.length = some (b, t)) : fin xs s = fin xs (take1 xs s b t) := by
  obtain ⟨h1, h2⟩ := step_ok h hs hb
  unfold fin
  rw [run, hb]
  exact run_more h _ _ _ h1 (by omega) (by omega)
/-- How the search begins. -/
def st0 (f n : Int) : St := ⟨put (fun _ => .inf) f.toNat (.fin n), fun _ => none⟩
theorem st0_ok {f n : Int} (h0 : 0 ≤ n) (h1 : n ≤ 1000) : okS (st0 f n).wh := by
  intro i
  simp only [st0, put]
  split
  · simp only [okT]; omega
  · trivial
theorem fin_okS {xs : List I5} (h : okP xs = true) {s : St} (hs : okS s.wh) : okS (fin xs s).wh := by
  have : ∀ f (s : St), okS s.wh → okS (run xs f s).wh := by
    intro f
    induction f with
    | zero => exact fun s hs => hs
    | succ f ih =>
      intro s hs
      simp only [run]
      cases hb : best xs s.wh xs.length with
      | none => exact hs
      | some p => obtain ⟨b, t⟩ := p; exact ih _ (step_ok h hs hb).1
  exact this _ s hs
/-- Times as the specification has them. -/
def tS : Mo → Int
  | .fin n => n
  | _ => -1
def kS : Option Nat → Int
  | some k => k
  | none => -1
def kI : Option Nat → Int
  | some k => k
  | none => 0
def whL (f : Nat → Mo) : List Int := (List.range 8).map fun i => tS (f i)
def laL (f : Nat → Option Nat) : List Int := (List.range 8).map fun i => kS (f i)
theorem whL_len (f : Nat → Mo) : (whL f).length = 8 := by simp [whL]
theorem laL_len (f : Nat → Option Nat) : (laL f).length = 8 := by simp [laL]
theorem whL_get (f : Nat → Mo) {i : Nat} (h : i < 8) : (whL f)[i]? = some (tS (f i)) := by simp [whL, h]
theorem laL_get (f : Nat → Option Nat) {i : Nat} (h : i < 8) : (laL f)[i]? = some (kS (f i)) := by simp [laL, h]
theorem whL_set (f : Nat → Mo) {i : Nat} (m : Mo) (h : i < 8) : (whL f).set i (tS m) = whL (put f i m) := by
  refine List.ext_getElem? fun j => ?_
  rw [List.getElem?_set]
  by_cases hj : j < 8
  · rw [whL_get _ hj, whL_get _ hj]
    by_cases e : i = j
    · subst e; rw [if_pos rfl, if_pos (by rw [whL_len]; exact h), put_at]
    · rw [if_neg e, put_ne _ _ (by omega)]
  · rw [List.getElem?_eq_none (by rw [whL_len]; omega), List.getElem?_eq_none (by rw [whL_len]; omega), if_neg (by omega)]
theorem laL_set (f : Nat → Option Nat) {i : Nat} (m : Option Nat) (h : i < 8) : (laL f).set i (kS m) = laL (put f i m) := by
  refine List.ext_getElem? fun j => ?_
  rw [List.getElem?_set]
  by_cases hj : j < 8
  · rw [laL_get _ hj, laL_get _ hj]
    by_cases e : i = j
    · subst e; rw [if_pos rfl, if_pos (by rw [laL_len]; exact h), put_at]
    · rw [if_neg e, put_ne _ _ (by omega)]
  · rw [List.getElem?_eq_none (by rw [laL_len]; omega), List.getElem?_eq_none (by rw [laL_len]; omega), if_neg (by omega)]
theorem whL_none : whL (fun _ => .inf) = List.replicate 8 (-1) := by decide
theorem laL_none : laL (fun _ => none) = List.replicate 8 (-1) := by decide
end PN
end Go.Proofs.Ytjplabldiheggaa
