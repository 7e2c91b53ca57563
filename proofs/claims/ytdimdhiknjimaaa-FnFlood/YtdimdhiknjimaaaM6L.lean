/- The search from the end, and what both searches tell: plain facts. -/
import Derived.Test.YtdimdhiknjimaaaM6R
namespace Go.Proofs.Ytdimdhiknjimaaa
open Go.RowKit
namespace PN
open FL
/-- Who is at a node at a time can be at node t by a time. -/
inductive Rf (xs : List I5) (t : Nat) (by_ : Int) : Nat → Int → Prop
  | here {x : Int} : x ≤ by_ → Rf xs t by_ t x
  | step {k : Nat} {x z : Int} : k < xs.length → arr (MI5.at_ xs k) (.fin x) = .fin z → Rf xs t by_ (MI5.at_ xs k).a1.toNat z → Rf xs t by_ (MI5.at_ xs k).a0.toNat x
theorem arr_mono {c : I5} {x x' z : Int} (h : x' ≤ x) (ha : arr c (.fin x) = .fin z) : ∃ z', arr c (.fin x') = .fin z' ∧ z' ≤ z := by
  simp only [arr] at ha ⊢
  split at ha
  · cases ha
  · rename_i h1
    simp only [Mo.fin.injEq] at ha
    rw [if_neg (by omega)]
    exact ⟨_, rfl, by omega⟩
theorem best_none_imp {xs : List I5} {s : Nat → Mo} {m : Nat} (h : best xs s m = none) : ∀ j, j < m → ∀ t, ¬ imp xs s j t := by
  induction m with
  | zero => intro j hj; omega
  | succ m ih =>
    intro j hj t hi
    have hm0 : best xs s m = none := by
      cases hbm : best xs s m with
      | none => rfl
      | some p =>
        obtain ⟨b', u'⟩ := p
        rw [best] at h
        split at h
        · split at h
          · rw [hbm] at h; simp only at h; split at h <;> cases h
          · rw [hbm] at h; cases h
        · rw [hbm] at h; cases h
    by_cases ej : j = m
    · subst ej
      rw [best_first hi.1 hi.2 hm0] at h; cases h
    · exact ih hm0 j (by omega) t hi
theorem fin_best {xs : List I5} (hok : okP xs = true) {s : St} (hs : okS s.wh) : best xs (fin xs s).wh xs.length = none := by
  have : ∀ f (s : St), okS s.wh → mu s.wh < f → best xs (run xs f s).wh xs.length = none := by
    intro f
    induction f with
    | zero => intro s _ h; omega
    | succ f ih =>
      intro s hs hf
      simp only [run]
      cases hb : best xs s.wh xs.length with
      | none => exact hb
      | some p => obtain ⟨b, t⟩ := p; obtain ⟨h1, h2⟩ := step_ok hok hs hb; exact ih _ h1 (by omega)
  exact this _ s hs (by omega)
/-- The search from the front finds a way where there is one. -/
theorem front_all {xs : List I5} (_hok : okP xs = true) {s : Nat → Mo} (hs : okS s) (hb : best xs s xs.length = none) {t : Nat} {by_ : Int} {v : Nat} {x : Int} (h : Rf xs t by_ v x) : ∀ x', s v = .fin x' → x' ≤ x → ∃ y, s t = .fin y ∧ y ≤ by_ := by
  induction h with
  | here hx => exact fun x' h1 h2 => ⟨x', h1, by omega⟩
  | @step k x z hk ha _ ih =>
    intro x' h1 h2
    obtain ⟨z', hz, hzz⟩ := arr_mono h2 ha
    have hni := best_none_imp hb k hk z'
    have he : early z' (s (MI5.at_ xs k).a1.toNat) = false := by
      cases e : early z' (s (MI5.at_ xs k).a1.toNat) with
      | false => rfl
      | true => exact absurd ⟨by rw [h1]; exact hz, e⟩ hni
    cases hq : s (MI5.at_ xs k).a1.toNat with
    | inf => rw [hq] at he; cases he
    | ago => have := hs (MI5.at_ xs k).a1.toNat; rw [hq] at this; exact absurd this id
    | fin u =>
      rw [hq] at he
      exact ih u hq (by simp only [early, decide_eq_false_iff_not] at he; omega)
/-- What the search from the front finds is a way. -/
def Snd (xs : List I5) (t : Nat) (by_ : Int) (f : Nat) (n : Int) (s : Nat → Mo) : Prop := ∀ v y, s v = .fin y → Rf xs t by_ v y → Rf xs t by_ f n
theorem front_snd {xs : List I5} {t : Nat} {by_ : Int} {f : Nat} {n : Int} {s : St} (hs : Snd xs t by_ f n s.wh) : Snd xs t by_ f n (fin xs s).wh := by
  have : ∀ m (s : St), Snd xs t by_ f n s.wh → Snd xs t by_ f n (run xs m s).wh := by
    intro m
    induction m with
    | zero => exact fun s h => h
    | succ m ih =>
      intro s h
      simp only [run]
      cases hb : best xs s.wh xs.length with
      | none => exact h
      | some p =>
        obtain ⟨b, u⟩ := p
        obtain ⟨h1, h2, _⟩ := best_is hb
        refine ih _ ?_
        intro v y hv hr
        simp only [take1, put] at hv
        split at hv
        · rename_i e
          simp only [Mo.fin.injEq] at hv
          subst e hv
          obtain ⟨p, hp⟩ := arr_fin h2
          rw [hp] at h2
          exact h _ p hp (Rf.step h1 h2 hr)
        · exact h v y hv hr
  exact this _ s hs
theorem front_iff {xs : List I5} (hok : okP xs = true) {t : Nat} {by_ : Int} {f n : Int} (hn0 : 0 ≤ n) (hn1 : n ≤ 1000) : (∃ y, (fin xs (st0 f n)).wh t = .fin y ∧ y ≤ by_) ↔ Rf xs t by_ f.toNat n := by
  constructor
  · rintro ⟨y, h1, h2⟩
    refine front_snd (s := st0 f n) ?_ t y h1 (Rf.here h2)
    intro v y hv hr
    simp only [st0, put] at hv
    split at hv
    · rename_i e; subst e; simp only [Mo.fin.injEq] at hv; subst hv; exact hr
    · cases hv
  · intro h
    have hst := st0_ok (f := f) hn0 hn1
    have h0 : ∃ x', (fin xs (st0 f n)).wh f.toNat = .fin x' ∧ x' ≤ n := by
      -- the first node's time is never later
      have : ∀ m (s : St), okS s.wh → (∃ x', s.wh f.toNat = .fin x' ∧ x' ≤ n) → ∃ x', (run xs m s).wh f.toNat = .fin x' ∧ x' ≤ n := by
        intro m
        induction m with
        | zero => exact fun s _ h => h
        | succ m ih =>
          intro s hs h
          simp only [run]
          cases hb : best xs s.wh xs.length with
          | none => exact h
          | some p =>
            obtain ⟨b, u⟩ := p
            refine ih _ (step_ok hok hs hb).1 ?_
            obtain ⟨x', e1, e2⟩ := h
            obtain ⟨_, _, h3⟩ := best_is hb
            simp only [take1, put]
            split
            · rename_i e
              rw [← e, e1] at h3
              simp only [early, decide_eq_true_eq] at h3
              exact ⟨u, rfl, by omega⟩
            · exact ⟨x', e1, e2⟩
      exact this _ (st0 f n) hst ⟨n, by simp [st0, put], Int.le_refl _⟩
    obtain ⟨x', e1, e2⟩ := h0
    exact front_all hok (fin_okS hok hst) (fin_best hok hst) h x' e1 e2
/-- The latest time to be there for a contact. -/
def dep (c : I5) : Mo → Mo
  | .fin b => if min (b - c.a4) (c.a3 - 1) < c.a2 then .ago else .fin (min (b - c.a4) (c.a3 - 1))
  | _ => .ago
def okL : Mo → Prop
  | .fin n => 0 ≤ n ∧ n ≤ 2000
  | .ago => True
  | .inf => False
theorem dep_okL {c : I5} (hc : Good c) {m : Mo} (h : okL m) : okL (dep c m) := by
  cases m with
  | inf => exact absurd h id
  | ago => trivial
  | fin b =>
    simp only [dep]
    split
    · trivial
    · have := hc.s0; have := hc.d0; simp only [okL] at *; omega
theorem dep_iff {c : I5} (hc : Good c) {b x : Int} : (∃ z, arr c (.fin x) = .fin z ∧ z ≤ b) ↔ ∃ l, dep c (.fin b) = .fin l ∧ x ≤ l := by
  have h1 := hc.s1
  simp only [arr, dep]
  constructor
  · rintro ⟨z, ha, hz⟩
    split at ha
    · cases ha
    · simp only [Mo.fin.injEq] at ha
      rw [if_neg (by omega)]
      exact ⟨_, rfl, by omega⟩
  · rintro ⟨l, hd, hx⟩
    split at hd
    · cases hd
    · simp only [Mo.fin.injEq] at hd
      rw [if_neg (by omega)]
      exact ⟨_, rfl, by omega⟩
/-- What is noted from the end is a way. -/
def Bsnd (xs : List I5) (t : Nat) (by_ : Int) (s : Nat → Mo) : Prop := ∀ v l, s v = .fin l → ∀ x, x ≤ l → Rf xs t by_ v x
def l0 (t : Nat) (by_ : Int) : Nat → Mo := put (fun _ => .ago) t (.fin by_)
theorem bsnd0 (xs : List I5) (t : Nat) (by_ : Int) : Bsnd xs t by_ (l0 t by_) := by
  intro v l hv x hx
  simp only [l0, put] at hv
  split at hv
  · rename_i e; subst e; simp only [Mo.fin.injEq] at hv; subst hv; exact Rf.here hx
  · cases hv
theorem bsnd_step {xs : List I5} (hok : okP xs = true) {t : Nat} {by_ : Int} {s : Nat → Mo} (h : Bsnd xs t by_ s) {k : Nat} (hk : k < xs.length) {l : Int} (hd : dep (MI5.at_ xs k) (s (MI5.at_ xs k).a1.toNat) = .fin l) : Bsnd xs t by_ (put s (MI5.at_ xs k).a0.toNat (.fin l)) := by
  intro v l' hv x hx
  simp only [put] at hv
  split at hv
  · rename_i e
    simp only [Mo.fin.injEq] at hv
    subst e hv
    cases hq : s (MI5.at_ xs k).a1.toNat with
    | inf => rw [hq] at hd; simp [dep] at hd
    | ago => rw [hq] at hd; simp [dep] at hd
    | fin b =>
      rw [hq] at hd
      obtain ⟨z, hz, hzb⟩ := (dep_iff (okP_good hok hk)).2 ⟨l, hd, hx⟩
      exact Rf.step hk hz (h _ b hq z hzb)
  · exact h v l' hv x hx
/-- Nothing later is found. -/
def Shut (xs : List I5) (s : Nat → Mo) (k : Nat) : Prop := ∀ j, j < k → (dep (MI5.at_ xs j) (s (MI5.at_ xs j).a1.toNat)).cmp (s (MI5.at_ xs j).a0.toNat) ≠ .gt
theorem back_all {xs : List I5} (hok : okP xs = true) {t : Nat} {by_ : Int} {s : Nat → Mo} (hs : ∀ v, okL (s v)) (ht : ∃ l, s t = .fin l ∧ by_ ≤ l) (hsh : Shut xs s xs.length) {v : Nat} {x : Int} (h : Rf xs t by_ v x) : ∃ l, s v = .fin l ∧ x ≤ l := by
  induction h with
  | here hx => obtain ⟨l, h1, h2⟩ := ht; exact ⟨l, h1, by omega⟩
  | @step k x z hk ha _ ih =>
    obtain ⟨b, hb, hzb⟩ := ih
    obtain ⟨l, hl, hxl⟩ := (dep_iff (okP_good hok hk)).1 ⟨z, ha, hzb⟩
    have := hsh k hk
    rw [hb, hl] at this
    cases hq : s (MI5.at_ xs k).a0.toNat with
    | inf => have := hs (MI5.at_ xs k).a0.toNat; rw [hq] at this; exact absurd this id
    | ago => rw [hq] at this; exact absurd rfl this
    | fin u =>
      rw [hq] at this
      refine ⟨u, rfl, ?_⟩
      by_cases hu : u < l
      · exact absurd (cmp_gt hu) this
      · omega
/-- The latest time at which one starts. -/
def Lst (xs : List I5) (t : Nat) (by_ : Int) (f : Nat) (m : Int) : Prop := 0 ≤ m ∧ m ≤ 1000 ∧ Rf xs t by_ f m ∧ ∀ n, m < n → n ≤ 1000 → ¬ Rf xs t by_ f n
open Classical in
noncomputable def latA (xs : List I5) (t : Nat) (by_ : Int) (f : Nat) : Option Int := if h : ∃ m, Lst xs t by_ f m then some h.choose else none
theorem lst_one {xs : List I5} {t : Nat} {by_ : Int} {f : Nat} {m m' : Int} (h : Lst xs t by_ f m) (h' : Lst xs t by_ f m') : m = m' := by
  obtain ⟨_, a2, a3, a4⟩ := h
  obtain ⟨_, b2, b3, b4⟩ := h'
  by_cases e : m < m'
  · exact absurd b3 (a4 m' e b2)
  · by_cases e' : m' < m
    · exact absurd a3 (b4 m e' a2)
    · omega
theorem latA_some {xs : List I5} {t : Nat} {by_ : Int} {f : Nat} {m : Int} (h : Lst xs t by_ f m) : latA xs t by_ f = some m := by
  have hex : ∃ m, Lst xs t by_ f m := ⟨m, h⟩
  unfold latA
  rw [dif_pos hex, lst_one hex.choose_spec h]
theorem latA_none {xs : List I5} {t : Nat} {by_ : Int} {f : Nat} (h : ∀ n, 0 ≤ n → n ≤ 1000 → ¬ Rf xs t by_ f n) : latA xs t by_ f = none := by
  unfold latA
  rw [dif_neg]
  rintro ⟨m, h1, h2, h3, _⟩
  exact h m h1 h2 h3
theorem latA_back {xs : List I5} (hok : okP xs = true) {t : Nat} {by_ : Int} {s : Nat → Mo} (hs : ∀ v, okL (s v)) (ht : ∃ l, s t = .fin l ∧ by_ ≤ l) (hsh : Shut xs s xs.length) (hsnd : Bsnd xs t by_ s) (f : Nat) : latA xs t by_ f = (match s f with | .fin l => some (min l 1000) | _ => none) := by
  cases hq : s f with
  | inf => have := hs f; rw [hq] at this; exact absurd this id
  | ago =>
    refine latA_none fun n _ _ hr => ?_
    obtain ⟨l, hl, _⟩ := back_all hok hs ht hsh hr
    rw [hq] at hl; cases hl
  | fin l =>
    have hl := hs f
    rw [hq] at hl
    simp only [okL] at hl
    refine latA_some ⟨by omega, by omega, hsnd f l hq _ (by omega), fun n h1 h2 hr => ?_⟩
    obtain ⟨l', h3, h4⟩ := back_all hok hs ht hsh hr
    rw [hq] at h3
    simp only [Mo.fin.injEq] at h3
    omega
end PN
end Go.Proofs.Ytdimdhiknjimaaa
