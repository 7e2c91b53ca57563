/- The ways that a search notes: plain facts. -/
import Derived.Test.YtjplabldiheggaaM6S
namespace Go.Proofs.Ytjplabldiheggaa
open Go.RowKit
namespace PN
open FL
/-- A contact by which a node is reached earlier than before. -/
def imp (xs : List I5) (s : Nat → Mo) (k : Nat) (t : Int) : Prop := arr (MI5.at_ xs k) (s (MI5.at_ xs k).a0.toNat) = .fin t ∧ early t (s (MI5.at_ xs k).a1.toNat) = true
theorem best_min {xs : List I5} {s : Nat → Mo} {n b : Nat} {t : Int} (h : best xs s n = some (b, t)) : ∀ k, k < n → ∀ t', imp xs s k t' → t ≤ t' := by
  induction n generalizing b t with
  | zero => simp [best] at h
  | succ n ih =>
    intro k hk t' hi
    by_cases e : k = n
    · subst e
      obtain ⟨h1, h2⟩ := hi
      cases hb : best xs s k with
      | none => rw [best_first h1 h2 hb] at h; simp only [Option.some.injEq, Prod.mk.injEq] at h; omega
      | some p =>
        obtain ⟨b', u⟩ := p
        by_cases hl : t' < u
        · rw [best_new h1 h2 hb hl] at h; simp only [Option.some.injEq, Prod.mk.injEq] at h; omega
        · rw [best_old h1 h2 hb hl] at h; simp only [Option.some.injEq, Prod.mk.injEq] at h; omega
    · rw [best] at h
      split at h
      · rename_i u hu
        split at h
        · split at h
          · rename_i hb
            exfalso
            -- there is none among the first n: so k is no such contact
            have : ∀ m, best xs s m = none → ∀ j, j < m → ∀ t'', ¬ imp xs s j t'' := by
              intro m
              induction m with
              | zero => intro _ j hj; omega
              | succ m ihm =>
                intro hm j hj t'' hi''
                have hm0 : best xs s m = none := by
                  cases hbm : best xs s m with
                  | none => rfl
                  | some p =>
                    obtain ⟨b', u'⟩ := p
                    rw [best] at hm
                    split at hm
                    · split at hm
                      · rw [hbm] at hm; simp only at hm; split at hm <;> cases hm
                      · rw [hbm] at hm; cases hm
                    · rw [hbm] at hm; cases hm
                by_cases ej : j = m
                · subst ej
                  rw [best_first hi''.1 hi''.2 hm0] at hm; cases hm
                · exact ihm hm0 j (by omega) t'' hi''
            exact this n hb k (by omega) t' hi
          · rename_i b' u' hb
            split at h
            · simp only [Option.some.injEq, Prod.mk.injEq] at h
              have := ih hb k (by omega) t' hi
              omega
            · simp only [Option.some.injEq, Prod.mk.injEq] at h
              have := ih hb k (by omega) t' hi
              omega
        · exact ih h k (by omega) t' hi
      · exact ih h k (by omega) t' hi
/-- No time that is noted lies behind one that is still to come. -/
def Ord (xs : List I5) (s : Nat → Mo) : Prop := ∀ k, k < xs.length → ∀ t, imp xs s k t → ∀ i u, s i = .fin u → u ≤ t
theorem arr_ge {c : I5} (hc : Good c) {p t : Int} (h : arr c (.fin p) = .fin t) : p ≤ t := by
  simp only [arr] at h
  split at h
  · cases h
  · simp only [Mo.fin.injEq] at h
    have := hc.d0
    omega
theorem arr_fin {c : I5} {m : Mo} {t : Int} (h : arr c m = .fin t) : ∃ p, m = .fin p := by
  cases m with
  | fin p => exact ⟨p, rfl⟩
  | inf => simp [arr] at h
  | ago => simp [arr] at h
theorem early_less {t t' : Int} {m : Mo} (h : early t m = true) (h' : t' < t) : early t' m = true := by
  cases m with
  | fin u => simp only [early, decide_eq_true_eq] at *; omega
  | inf => rfl
  | ago => cases h
theorem ord_step {xs : List I5} (hok : okP xs = true) {s : St} (ho : Ord xs s.wh) {b : Nat} {t : Int} (hb : best xs s.wh xs.length = some (b, t)) : Ord xs (take1 xs s b t).wh := by
  obtain ⟨hbl, hA, hE⟩ := best_is hb
  have hall : ∀ i u, (take1 xs s b t).wh i = .fin u → u ≤ t := by
    intro i u hu
    simp only [take1, put] at hu
    split at hu
    · simp only [Mo.fin.injEq] at hu; omega
    · exact ho b hbl t ⟨hA, hE⟩ i u hu
  intro k hk t' hi i u hu
  refine Int.le_trans (hall i u hu) ?_
  obtain ⟨h1, h2⟩ := hi
  have gk := okP_good hok hk
  by_cases e1 : (MI5.at_ xs k).a0.toNat = (MI5.at_ xs b).a1.toNat
  · have : (take1 xs s b t).wh (MI5.at_ xs k).a0.toNat = .fin t := by simp only [take1]; rw [e1, put_at]
    rw [this] at h1
    exact arr_ge gk h1
  · have e2 : (take1 xs s b t).wh (MI5.at_ xs k).a0.toNat = s.wh (MI5.at_ xs k).a0.toNat := by simp only [take1]; exact put_ne _ _ e1
    rw [e2] at h1
    by_cases e3 : (MI5.at_ xs k).a1.toNat = (MI5.at_ xs b).a1.toNat
    · have e4 : (take1 xs s b t).wh (MI5.at_ xs k).a1.toNat = .fin t := by simp only [take1]; rw [e3, put_at]
      rw [e4] at h2
      simp only [early, decide_eq_true_eq] at h2
      have := best_min hb k hk t' ⟨h1, by rw [e3]; exact early_less hE h2⟩
      exact this
    · have e4 : (take1 xs s b t).wh (MI5.at_ xs k).a1.toNat = s.wh (MI5.at_ xs k).a1.toNat := by simp only [take1]; exact put_ne _ _ e3
      rw [e4] at h2
      exact best_min hb k hk t' ⟨h1, h2⟩
theorem ord_new {xs : List I5} {s : St} (hs : okS s.wh) (ho : Ord xs s.wh) {b : Nat} {t : Int} (hb : best xs s.wh xs.length = some (b, t)) : s.wh (MI5.at_ xs b).a1.toNat = .inf := by
  obtain ⟨hbl, hA, hE⟩ := best_is hb
  cases hq : s.wh (MI5.at_ xs b).a1.toNat with
  | inf => rfl
  | ago => have := hs (MI5.at_ xs b).a1.toNat; rw [hq] at this; exact absurd this id
  | fin u =>
    have h1 := ho b hbl t ⟨hA, hE⟩ _ u hq
    rw [hq] at hE
    simp only [early, decide_eq_true_eq] at hE
    omega
def c1 : Mo → Nat
  | .fin _ => 1
  | _ => 0
def cnt (f : Nat → Mo) : Nat := c1 (f 0) + c1 (f 1) + c1 (f 2) + c1 (f 3) + c1 (f 4) + c1 (f 5) + c1 (f 6) + c1 (f 7)
theorem c1_le (m : Mo) : c1 m ≤ 1 := by cases m <;> simp [c1]
theorem cnt_le (f : Nat → Mo) : cnt f ≤ 8 := by
  have := c1_le (f 0); have := c1_le (f 1); have := c1_le (f 2); have := c1_le (f 3); have := c1_le (f 4); have := c1_le (f 5); have := c1_le (f 6); have := c1_le (f 7)
  unfold cnt; omega
theorem cnt_put {f : Nat → Mo} {i : Nat} {t : Int} (hi : i < 8) (h : f i = .inf) : cnt (put f i (.fin t)) = cnt f + 1 := by
  match i, hi with
  | 0, _ => simp [cnt, put, h, c1]; omega
  | 1, _ => simp [cnt, put, h, c1]; omega
  | 2, _ => simp [cnt, put, h, c1]; omega
  | 3, _ => simp [cnt, put, h, c1]; omega
  | 4, _ => simp [cnt, put, h, c1]; omega
  | 5, _ => simp [cnt, put, h, c1]; omega
  | 6, _ => simp [cnt, put, h, c1]; omega
  | 7, _ => simp [cnt, put, h, c1]
/-- Each node that was reached, but the first, was reached from one that was reached ahead of it. -/
structure Via (xs : List I5) (f : Nat) (s : St) (rk : Nat → Nat) : Prop where
  src : ∃ p, s.wh f = .fin p
  via : ∀ v, v ≠ f → ∀ u, s.wh v = .fin u → ∃ k, s.la v = some k ∧ k < xs.length ∧ (∃ p, s.wh (MI5.at_ xs k).a0.toNat = .fin p) ∧ rk (MI5.at_ xs k).a0.toNat < rk v
  top : ∀ v u, s.wh v = .fin u → rk v ≤ cnt s.wh
theorem via_step {xs : List I5} (hok : okP xs = true) {f : Nat} {s : St} {rk : Nat → Nat} (hs : okS s.wh) (ho : Ord xs s.wh) (hv : Via xs f s rk) {b : Nat} {t : Int} (hb : best xs s.wh xs.length = some (b, t)) : ∃ rk', Via xs f (take1 xs s b t) rk' := by
  obtain ⟨hbl, hA, hE⟩ := best_is hb
  have hnew := ord_new hs ho hb
  have g := okP_good hok hbl
  have hc : cnt (take1 xs s b t).wh = cnt s.wh + 1 := by simp only [take1]; exact cnt_put (by have := g.t0; have := g.t1; omega) hnew
  have hne : (MI5.at_ xs b).a0.toNat ≠ (MI5.at_ xs b).a1.toNat := by have := g.ne; have := g.f0; have := g.t0; omega
  obtain ⟨p, hp⟩ := arr_fin hA
  have hf : f ≠ (MI5.at_ xs b).a1.toNat := by
    rintro rfl
    obtain ⟨q, hq⟩ := hv.src
    rw [hq] at hnew; cases hnew
  refine ⟨put rk (MI5.at_ xs b).a1.toNat (cnt s.wh + 1), ?_, ?_, ?_⟩
  · obtain ⟨q, hq⟩ := hv.src
    exact ⟨q, by simp only [take1]; rw [put_ne _ _ hf]; exact hq⟩
  · intro v hvf u hu
    by_cases e : v = (MI5.at_ xs b).a1.toNat
    · subst e
      refine ⟨b, by simp only [take1]; exact put_at _ _ _, hbl, ⟨p, by simp only [take1]; rw [put_ne _ _ hne]; exact hp⟩, ?_⟩
      rw [put_ne _ _ hne, put_at]
      have := hv.top _ _ hp
      omega
    · simp only [take1] at hu
      rw [put_ne _ _ e] at hu
      obtain ⟨k, h1, h2, ⟨p', h3⟩, h4⟩ := hv.via v hvf u hu
      have e2 : (MI5.at_ xs k).a0.toNat ≠ (MI5.at_ xs b).a1.toNat := by
        intro e2; rw [e2] at h3; rw [h3] at hnew; cases hnew
      refine ⟨k, by simp only [take1]; rw [put_ne _ _ e]; exact h1, h2, ⟨p', by simp only [take1]; rw [put_ne _ _ e2]; exact h3⟩, ?_⟩
      rw [put_ne _ _ e2, put_ne _ _ e]; exact h4
  · intro v u hu
    rw [hc]
    by_cases e : v = (MI5.at_ xs b).a1.toNat
    · subst e; rw [put_at]; exact Nat.le_refl _
    · rw [put_ne _ _ e]
      simp only [take1] at hu
      rw [put_ne _ _ e] at hu
      have := hv.top v u hu
      omega
theorem via_fin {xs : List I5} (hok : okP xs = true) {f : Nat} {s : St} {rk : Nat → Nat} (hs : okS s.wh) (ho : Ord xs s.wh) (hv : Via xs f s rk) : ∃ rk', Via xs f (fin xs s) rk' := by
  have : ∀ m (s : St) (rk : Nat → Nat), okS s.wh → Ord xs s.wh → Via xs f s rk → ∃ rk', Via xs f (run xs m s) rk' := by
    intro m
    induction m with
    | zero => exact fun s rk _ _ h => ⟨rk, h⟩
    | succ m ih =>
      intro s rk hs ho hv
      simp only [run]
      cases hb : best xs s.wh xs.length with
      | none => exact ⟨rk, hv⟩
      | some p =>
        obtain ⟨b, t⟩ := p
        obtain ⟨rk', hv'⟩ := via_step hok hs ho hv hb
        exact ih _ rk' (step_ok hok hs hb).1 (ord_step hok ho hb) hv'
  exact this _ s rk hs ho hv
theorem ord_st0 {xs : List I5} (hok : okP xs = true) {f n : Int} : Ord xs (st0 f n).wh := by
  intro k hk t hi i u hu
  obtain ⟨h1, _⟩ := hi
  obtain ⟨p, hp⟩ := arr_fin h1
  have hpn : p = n := by
    simp only [st0, put] at hp
    split at hp
    · simpa using hp.symm
    · cases hp
  have hun : u = n := by
    simp only [st0, put] at hu
    split at hu
    · simpa using hu.symm
    · cases hu
  rw [hp] at h1
  have := arr_ge (okP_good hok hk) h1
  omega
theorem via_st0 (xs : List I5) {f n : Int} (h0 : 0 ≤ f) (h1 : f ≤ 7) : Via xs f.toNat (st0 f n) (fun _ => 1) := by
  have hw : (st0 f n).wh f.toNat = .fin n := by simp [st0, put]
  refine ⟨⟨n, hw⟩, ?_, ?_⟩
  · intro v hv u hu
    simp only [st0, put] at hu
    rw [if_neg hv] at hu; cases hu
  · intro v u hu
    have hlt : f.toNat < 8 := by omega
    have : cnt (put (fun _ => Mo.inf) f.toNat (.fin n)) = cnt (fun _ => Mo.inf) + 1 := cnt_put hlt rfl
    show 1 ≤ cnt (put (fun _ => Mo.inf) f.toNat (.fin n))
    omega
/-- The row of contacts by the notes. -/
def way (xs : List I5) (la : Nat → Option Nat) (f : Nat) : Nat → Nat → List Int
  | 0, _ => []
  | m + 1, v => if v = f then [] else match la v with
    | some k => way xs la f m (MI5.at_ xs k).a0.toNat ++ [(k : Int)]
    | none => []
theorem way_len (xs : List I5) (la : Nat → Option Nat) (f m v : Nat) : (way xs la f m v).length ≤ m := by
  induction m generalizing v with
  | zero => simp [way]
  | succ m ih =>
    rw [way]
    split
    · simp
    · split
      · have := ih (MI5.at_ xs (‹Nat›)).a0.toNat; simp; omega
      · simp
theorem way_end (xs : List I5) (la : Nat → Option Nat) (f m : Nat) : way xs la f m f = [] := by cases m <;> simp [way]
theorem way_step {xs : List I5} {la : Nat → Option Nat} {f m v k : Nat} (hv : v ≠ f) (hk : la v = some k) : way xs la f (m + 1) v = way xs la f m (MI5.at_ xs k).a0.toNat ++ [(k : Int)] := by
  rw [way, if_neg hv, hk]
end PN
end Go.Proofs.Ytjplabldiheggaa
