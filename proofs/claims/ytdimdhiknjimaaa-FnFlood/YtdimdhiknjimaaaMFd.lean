/- Word that spreads time by time comes to the earliest times: plain facts. -/
import Derived.Test.YtdimdhiknjimaaaMVix
import Derived.Test.YtdimdhiknjimaaaM6L
namespace Go.Proofs.Ytdimdhiknjimaaa
open Go.RowKit
namespace PN
open FL
/-- The earliest times. -/
def eaW (xs : List I5) (f n : Int) : Nat → Mo := (fin xs (st0 f n)).wh
/-- When contact k leads there, taken now, if that is earlier. -/
def fl1 (xs : List I5) (now : Int) (g : Nat → Mo) (k : Nat) : Option Int :=
  match g (MI5.at_ xs k).a0.toNat with
  | .fin u => if (u ≤ now ∧ (MI5.at_ xs k).a2 ≤ now ∧ now < (MI5.at_ xs k).a3) ∧ early (now + (MI5.at_ xs k).a4) (g (MI5.at_ xs k).a1.toNat) = true then some (now + (MI5.at_ xs k).a4) else none
  | _ => none
theorem fl1_some {xs : List I5} {now : Int} {g : Nat → Mo} {k : Nat} {t : Int} (h : fl1 xs now g k = some t) : ∃ u, g (MI5.at_ xs k).a0.toNat = .fin u ∧ u ≤ now ∧ (MI5.at_ xs k).a2 ≤ now ∧ now < (MI5.at_ xs k).a3 ∧ early t (g (MI5.at_ xs k).a1.toNat) = true ∧ t = now + (MI5.at_ xs k).a4 := by
  unfold fl1 at h
  split at h
  · rename_i u hu
    split at h
    · rename_i hc
      cases h
      exact ⟨u, hu, hc.1.1, hc.1.2.1, hc.1.2.2, hc.2, rfl⟩
    · cases h
  · cases h
theorem fl1_none {xs : List I5} {now : Int} {g : Nat → Mo} {k : Nat} (h : fl1 xs now g k = none) {u : Int} (hu : g (MI5.at_ xs k).a0.toNat = .fin u) (h1 : u ≤ now) (h2 : (MI5.at_ xs k).a2 ≤ now) (h3 : now < (MI5.at_ xs k).a3) : early (now + (MI5.at_ xs k).a4) (g (MI5.at_ xs k).a1.toNat) = false := by
  unfold fl1 at h
  rw [hu] at h
  simp only at h
  split at h
  · cases h
  · rename_i hc
    cases he : early (now + (MI5.at_ xs k).a4) (g (MI5.at_ xs k).a1.toNat) with
    | false => rfl
    | true => exact absurd ⟨⟨h1, h2, h3⟩, he⟩ hc
/-- What holds all the time. -/
structure FI (xs : List I5) (f : Nat) (n : Int) (E g : Nat → Mo) : Prop where
  ok : okS g
  na : ∀ v, g v ≠ .ago
  src : ∃ t, g f = .fin t ∧ t ≤ n
  snd : ∀ v t, g v = .fin t → ∃ e, E v = .fin e ∧ e ≤ t
theorem early_ltF {t : Int} {m : Mo} (h : early t m = true) : m = .inf ∨ ∃ u, m = .fin u ∧ t < u := by
  cases m with
  | fin u => exact .inr ⟨u, rfl, of_decide_eq_true h⟩
  | inf => exact .inl rfl
  | ago => cases h
theorem early_noF {t : Int} {m : Mo} (h : early t m = false) (hm : m ≠ .ago) : ∃ u, m = .fin u ∧ u ≤ t := by
  cases m with
  | fin u => exact ⟨u, rfl, by have := of_decide_eq_false h; omega⟩
  | inf => cases h
  | ago => exact absurd rfl hm
/-- No contact makes the earliest times earlier. -/
theorem ea_calm {xs : List I5} (hok : okP xs = true) {f n : Int} (n0 : 0 ≤ n) (n1 : n ≤ 1000) {k : Nat} (hk : k < xs.length) {t : Int} (h : arr (MI5.at_ xs k) (eaW xs f n (MI5.at_ xs k).a0.toNat) = .fin t) : early t (eaW xs f n (MI5.at_ xs k).a1.toNat) = false := by
  have hB := fin_best hok (st0_ok (f := f) n0 n1)
  have key : ∀ m : Nat, best xs (fin xs (st0 f n)).wh m = none → ∀ j, j < m → ∀ t, arr (MI5.at_ xs j) ((fin xs (st0 f n)).wh (MI5.at_ xs j).a0.toNat) = .fin t → early t ((fin xs (st0 f n)).wh (MI5.at_ xs j).a1.toNat) = false := by
    intro m
    induction m with
    | zero => intro _ j hj; omega
    | succ m ih =>
      intro hb j hj t ht
      have hm : best xs (fin xs (st0 f n)).wh m = none ∧ ∀ t, arr (MI5.at_ xs m) ((fin xs (st0 f n)).wh (MI5.at_ xs m).a0.toNat) = .fin t → early t ((fin xs (st0 f n)).wh (MI5.at_ xs m).a1.toNat) = false := by
        cases ha : arr (MI5.at_ xs m) ((fin xs (st0 f n)).wh (MI5.at_ xs m).a0.toNat) with
        | inf => rw [best_skip ha] at hb; exact ⟨hb, fun t h => by cases h⟩
        | ago =>
          simp only [best, ha] at hb
          exact ⟨hb, fun t h => by cases h⟩
        | fin u =>
          cases he : early u ((fin xs (st0 f n)).wh (MI5.at_ xs m).a1.toNat) with
          | false => rw [best_late ha he] at hb; exact ⟨hb, fun t h => by cases h; exact he⟩
          | true =>
            simp only [best, ha, he, if_true] at hb
            split at hb
            · cases hb
            · split at hb <;> cases hb
      by_cases e : j = m
      · subst e; exact hm.2 t ht
      · exact ih hm.1 j (by omega) t ht
  exact key xs.length hB k hk t h
theorem FI.step {xs : List I5} (hok : okP xs = true) {f n : Int} (n0 : 0 ≤ n) (n1 : n ≤ 1000) {g : Nat → Mo} (h : FI xs f.toNat n (eaW xs f n) g) {now : Int} (h0 : n ≤ now) (h1 : now ≤ 1000) {k : Nat} (hk : k < xs.length) {t : Int} (hs : fl1 xs now g k = some t) : FI xs f.toNat n (eaW xs f n) (put g (MI5.at_ xs k).a1.toNat (.fin t)) ∧ mu (put g (MI5.at_ xs k).a1.toNat (.fin t)) < mu g := by
  obtain ⟨u, hu, c1, c2, c3, he, rfl⟩ := fl1_some hs
  have G := okP_good hok hk
  have gd0 := G.d0
  have gd1 := G.d1
  obtain ⟨e, hE, heu⟩ := h.snd _ _ hu
  have hnag : ∀ v, eaW xs f n v ≠ .ago → True := fun _ _ => trivial
  refine ⟨⟨fun v => ?_, fun v => ?_, ?_, fun v t ht => ?_⟩, ?_⟩
  · by_cases hv : v = (MI5.at_ xs k).a1.toNat
    · subst hv; rw [put_at]; exact ⟨by omega, by omega⟩
    · rw [put_ne _ _ hv]; exact h.ok v
  · by_cases hv : v = (MI5.at_ xs k).a1.toNat
    · subst hv; rw [put_at]; exact fun e => by cases e
    · rw [put_ne _ _ hv]; exact h.na v
  · obtain ⟨s, hsf, hsn⟩ := h.src
    by_cases hv : f.toNat = (MI5.at_ xs k).a1.toNat
    · rw [← hv, hsf] at he
      have : now + (MI5.at_ xs k).a4 < s := of_decide_eq_true he
      omega
    · exact ⟨s, by rw [put_ne _ _ hv]; exact hsf, hsn⟩
  · by_cases hv : v = (MI5.at_ xs k).a1.toNat
    · subst hv
      rw [put_at] at ht
      cases ht
      have ha : arr (MI5.at_ xs k) (eaW xs f n (MI5.at_ xs k).a0.toNat) = .fin (max e (MI5.at_ xs k).a2 + (MI5.at_ xs k).a4) := by
        rw [hE]; show (if (MI5.at_ xs k).a3 ≤ e then Mo.inf else _) = _
        rw [if_neg (by omega)]
      have hc := ea_calm hok n0 n1 hk ha
      have hok2 := fin_okS hok (st0_ok (f := f) n0 n1)
      have hna : eaW xs f n (MI5.at_ xs k).a1.toNat ≠ .ago := fun e2 => by
        have := hok2 (MI5.at_ xs k).a1.toNat
        have e3 : (fin xs (st0 f n)).wh (MI5.at_ xs k).a1.toNat = .ago := e2
        rw [e3] at this
        exact this
      obtain ⟨w, hw, hwl⟩ := early_noF hc hna
      exact ⟨w, hw, by omega⟩
    · rw [put_ne _ _ hv] at ht; exact h.snd v t ht
  · refine mu_put (by have := G.t0; have := G.t1; omega) ?_
    rcases early_ltF he with hi | ⟨w, hw, hwl⟩
    · rw [hi]; show (now + (MI5.at_ xs k).a4).toNat < _; simp only [wt]; omega
    · rw [hw]; have := h.ok (MI5.at_ xs k).a1.toNat; rw [hw] at this; have h5 : 0 ≤ w := this.1; simp only [wt]; omega
/-- What was open till now has been taken. -/
def Qd (xs : List I5) (lo now : Int) (g : Nat → Mo) : Prop := ∀ k, k < xs.length → ∀ τ, lo ≤ τ → τ ≤ now → ∀ u, g (MI5.at_ xs k).a0.toNat = .fin u → u ≤ τ → (MI5.at_ xs k).a2 ≤ τ → τ < (MI5.at_ xs k).a3 → ∃ w, g (MI5.at_ xs k).a1.toNat = .fin w ∧ w ≤ τ + (MI5.at_ xs k).a4
theorem Qd.start (xs : List I5) (lo : Int) (g : Nat → Mo) : Qd xs lo (lo - 1) g := fun k _ τ h1 h2 => by omega
theorem Qd.step {xs : List I5} (hok : okP xs = true) {lo now : Int} {g : Nat → Mo} (h : Qd xs lo (now - 1) g) {k : Nat} (hk : k < xs.length) {t : Int} (hs : fl1 xs now g k = some t) : Qd xs lo (now - 1) (put g (MI5.at_ xs k).a1.toNat (.fin t)) := by
  obtain ⟨u, hu, c1, c2, c3, he, rfl⟩ := fl1_some hs
  have gd0 := (okP_good hok hk).d0
  intro j hj τ h1 h2 v hv h3 h4 h5
  by_cases e0 : (MI5.at_ xs j).a0.toNat = (MI5.at_ xs k).a1.toNat
  · rw [e0, put_at] at hv
    cases hv
    omega
  · rw [put_ne _ _ e0] at hv
    obtain ⟨w, hw, hwl⟩ := h j hj τ h1 h2 v hv h3 h4 h5
    by_cases e1 : (MI5.at_ xs j).a1.toNat = (MI5.at_ xs k).a1.toNat
    · rw [e1, put_at]
      rw [e1] at hw
      rw [hw] at he
      exact ⟨_, rfl, by have := of_decide_eq_true he; omega⟩
    · exact ⟨w, by rw [put_ne _ _ e1]; exact hw, hwl⟩
theorem Qd.done {xs : List I5} {lo now : Int} {g : Nat → Mo} (h : Qd xs lo (now - 1) g) (hna : ∀ v, g v ≠ .ago) (hc : ∀ k, k < xs.length → fl1 xs now g k = none) : Qd xs lo now g := by
  intro k hk τ h1 h2 u hu h3 h4 h5
  by_cases e : τ = now
  · subst e
    exact early_noF (fl1_none (hc k hk) hu h3 h4 h5) (hna _)
  · exact h k hk τ h1 (by omega) u hu h3 h4 h5
theorem ge_start {xs : List I5} {f n : Int} (hok : okP xs = true) (f0 : 0 ≤ f) (f1 : f ≤ 7) (n0 : 0 ≤ n) (n1 : n ≤ 1000) : ∀ v e, eaW xs f n v = .fin e → n ≤ e := by
  have hs0 := st0_ok (f := f) n0 n1
  have hO := ord_st0 hok (f := f) (n := n)
  have hX := vix_fin hok hs0 hO (vix_st0 xs (f := f) (n := n))
  obtain ⟨rk, hV⟩ := via_fin hok hs0 hO (via_st0 xs f0 f1 (n := n))
  have key : ∀ m v e, rk v ≤ m → eaW xs f n v = .fin e → n ≤ e := by
    intro m
    induction m with
    | zero =>
      intro v e hr hv
      by_cases hf : v = f.toNat
      · subst hf
        have : eaW xs f n f.toNat = .fin n := hX.src
        rw [this] at hv; cases hv
        omega
      · obtain ⟨k, _, _, _, h4⟩ := hV.via v hf e hv
        omega
    | succ m ih =>
      intro v e hr hv
      by_cases hf : v = f.toNat
      · subst hf
        have : eaW xs f n f.toNat = .fin n := hX.src
        rw [this] at hv; cases hv
        omega
      · obtain ⟨k, ha, hk, ht1, harr⟩ := hX.via v hf e hv
        obtain ⟨k2, hb, hk2, ⟨p, hp⟩, hrk⟩ := hV.via v hf e hv
        have : k = k2 := by rw [ha] at hb; cases hb; rfl
        subst this
        rw [hp] at harr
        have := arr_ge (okP_good hok hk) harr
        have := ih _ p (by omega) hp
        omega
  exact fun v e hv => key (rk v) v e (Nat.le_refl _) hv
theorem flood_is {xs : List I5} {f n : Int} (hok : okP xs = true) (f0 : 0 ≤ f) (f1 : f ≤ 7) (n0 : 0 ≤ n) (n1 : n ≤ 1000) {until_ : Int} {g : Nat → Mo} (h : FI xs f.toNat n (eaW xs f n) g) (hq : Qd xs n until_ g) : ∀ v e, eaW xs f n v = .fin e → e ≤ until_ → g v = .fin e := by
  have hs0 := st0_ok (f := f) n0 n1
  have hO := ord_st0 hok (f := f) (n := n)
  have hX := vix_fin hok hs0 hO (vix_st0 xs (f := f) (n := n))
  obtain ⟨rk, hV⟩ := via_fin hok hs0 hO (via_st0 xs f0 f1 (n := n))
  have key : ∀ m v e, rk v ≤ m → eaW xs f n v = .fin e → e ≤ until_ → ∃ w, g v = .fin w ∧ w ≤ e := by
    intro m
    induction m with
    | zero =>
      intro v e hr hv he
      by_cases hf : v = f.toNat
      · subst hf
        obtain ⟨t, ht, htn⟩ := h.src
        have : eaW xs f n f.toNat = .fin n := hX.src
        rw [this] at hv; cases hv
        exact ⟨t, ht, htn⟩
      · obtain ⟨k, _, _, _, h4⟩ := hV.via v hf e hv
        omega
    | succ m ih =>
      intro v e hr hv he
      by_cases hf : v = f.toNat
      · subst hf
        obtain ⟨t, ht, htn⟩ := h.src
        have : eaW xs f n f.toNat = .fin n := hX.src
        rw [this] at hv; cases hv
        exact ⟨t, ht, htn⟩
      · obtain ⟨k, ha, hk, ht1, harr⟩ := hX.via v hf e hv
        obtain ⟨k2, hb, hk2, ⟨p, hp⟩, hrk⟩ := hV.via v hf e hv
        have : k = k2 := by rw [ha] at hb; cases hb; rfl
        subst this
        rw [hp] at harr
        have harr2 : (if (MI5.at_ xs k).a3 ≤ p then Mo.inf else Mo.fin (max p (MI5.at_ xs k).a2 + (MI5.at_ xs k).a4)) = .fin e := harr
        split at harr2
        · cases harr2
        · rename_i hlt
          have G := okP_good hok hk
          have d0 := G.d0
          have s1 := G.s1
          cases harr2
          obtain ⟨w, hw, hwl⟩ := ih _ p (by omega) hp (by omega)
          have hpn : n ≤ p := by
            have := ge_start hok f0 f1 n0 n1 _ p hp
            exact this
          obtain ⟨z, hz, hzl⟩ := hq k hk (max p (MI5.at_ xs k).a2) (by omega) (by omega) w hw (by omega) (by omega) (by omega)
          rw [ht1] at hz
          exact ⟨z, hz, hzl⟩
  intro v e hv he
  obtain ⟨w, hw, hwl⟩ := key (rk v) v e (Nat.le_refl _) hv he
  obtain ⟨e2, h1, h2⟩ := h.snd v w hw
  rw [hv] at h1
  cases h1
  rw [hw, show w = e by omega]
end PN
end Go.Proofs.Ytdimdhiknjimaaa
