/- What FnEarliest asks: plain facts. -/
import Derived.Test.YtobdgmopflccfaaMLQ
import Derived.Test.YtobdgmopflccfaaMRou
namespace Go.Proofs.Ytobdgmopflccfaa
open Go.RowKit
namespace PN
open FL
/-- How each is there: by the start, or by the contact that is noted. -/
structure Vix (xs : List I5) (f : Nat) (n : Int) (s : St) : Prop where
  src : s.wh f = .fin n
  via : ∀ v, v ≠ f → ∀ u, s.wh v = .fin u → ∃ k, s.la v = some k ∧ k < xs.length ∧ (MI5.at_ xs k).a1.toNat = v ∧ arr (MI5.at_ xs k) (s.wh (MI5.at_ xs k).a0.toNat) = .fin u
theorem vix_step {xs : List I5} (hok : okP xs = true) {f : Nat} {n : Int} {s : St} (hs : okS s.wh) (ho : Ord xs s.wh) (hv : Vix xs f n s) {b : Nat} {t : Int} (hb : best xs s.wh xs.length = some (b, t)) : Vix xs f n (take1 xs s b t) := by
  have hnew := ord_new hs ho hb
  obtain ⟨h1, h2, _⟩ := best_is hb
  have hG := okP_good hok h1
  have hft : (MI5.at_ xs b).a0.toNat ≠ (MI5.at_ xs b).a1.toNat := by
    have := hG.ne
    have := hG.f0
    have := hG.t0
    omega
  have hfb : f ≠ (MI5.at_ xs b).a1.toNat := fun e => by rw [← e, hv.src] at hnew; cases hnew
  refine ⟨?_, fun v hvf u hu => ?_⟩
  · show put s.wh _ _ f = _
    rw [put_ne _ _ hfb]; exact hv.src
  · by_cases hvb : v = (MI5.at_ xs b).a1.toNat
    · subst hvb
      have hu2 : u = t := by
        have : put s.wh (MI5.at_ xs b).a1.toNat (.fin t) (MI5.at_ xs b).a1.toNat = .fin u := hu
        rw [put_at] at this
        cases this; rfl
      subst hu2
      refine ⟨b, ?_, h1, rfl, ?_⟩
      · show put s.la _ _ _ = _
        rw [put_at]
      · show arr _ (put s.wh _ _ _) = _
        rw [put_ne _ _ hft]; exact h2
    · have hu2 : s.wh v = .fin u := by
        have : put s.wh (MI5.at_ xs b).a1.toNat (.fin t) v = .fin u := hu
        rwa [put_ne _ _ hvb] at this
      obtain ⟨k, a1, a2, a3, a4⟩ := hv.via v hvf u hu2
      obtain ⟨p, hp⟩ := arr_fin a4
      have hne : (MI5.at_ xs k).a0.toNat ≠ (MI5.at_ xs b).a1.toNat := fun e => by rw [e, hnew] at hp; cases hp
      refine ⟨k, ?_, a2, a3, ?_⟩
      · show put s.la _ _ _ = _
        rw [put_ne _ _ hvb]; exact a1
      · show arr _ (put s.wh _ _ _) = _
        rw [put_ne _ _ hne]; exact a4
theorem vix_fin {xs : List I5} (hok : okP xs = true) {f : Nat} {n : Int} {s : St} (hs : okS s.wh) (ho : Ord xs s.wh) (hv : Vix xs f n s) : Vix xs f n (fin xs s) := by
  have : ∀ m (s : St), okS s.wh → Ord xs s.wh → Vix xs f n s → Vix xs f n (run xs m s) := by
    intro m
    induction m with
    | zero => exact fun s _ _ h => h
    | succ m ih =>
      intro s hs ho hv
      simp only [run]
      cases hb : best xs s.wh xs.length with
      | none => exact hv
      | some p =>
        obtain ⟨b, t⟩ := p
        exact ih _ (step_ok hok hs hb).1 (ord_step hok ho hb) (vix_step hok hs ho hv hb)
  exact this _ s hs ho hv
theorem vix_st0 (xs : List I5) {f n : Int} : Vix xs f.toNat n (st0 f n) := by
  refine ⟨by simp [st0, put], ?_⟩
  intro v hv u hu
  simp only [st0, put] at hu
  rw [if_neg hv] at hu; cases hu
theorem getD_left {os ps : List Int} {i : Nat} (h : i < os.length) : (os ++ ps).getD i 0 = os.getD i 0 := by simp only [List.getD_eq_getElem?_getD]; rw [List.getElem?_append_left h]
theorem mo_app (xs : List I5) (os ps : List Int) (n : Int) : ∀ j, j ≤ os.length → mo xs (os ++ ps) n j = mo xs os n j
  | 0, _ => rfl
  | j + 1, h => by rw [mo, mo, mo_app xs os ps n j (by omega), getD_left (by omega)]
theorem node_app (xs : List I5) (f : Int) (os ps : List Int) : ∀ j, j ≤ os.length → nodeAt xs f (os ++ ps) j = nodeAt xs f os j
  | 0, _ => rfl
  | j + 1, h => by rw [nodeAt, nodeAt, getD_left (by omega)]
/-- The way that is noted leads there, at the time that is told. -/
theorem way_is {xs : List I5} (hok : okP xs = true) {f : Nat} {fi n : Int} (hf : fi = (f : Int)) {s : St} {rk : Nat → Nat} (hx : Vix xs f n s) (hv : Via xs f s rk) : ∀ m v u, s.wh v = .fin u → rk v ≤ m → mo xs (way xs s.la f m v) n (way xs s.la f m v).length = .fin u ∧ inUp xs.length (way xs s.la f m v) (way xs s.la f m v).length ∧ goUp xs fi (way xs s.la f m v) (way xs s.la f m v).length ∧ nodeAt xs fi (way xs s.la f m v) (way xs s.la f m v).length = (v : Int) := by
  intro m
  induction m with
  | zero =>
    intro v u hu hr
    by_cases hvf : v = f
    · subst hvf
      rw [way_end]
      rw [hx.src] at hu
      exact ⟨hu, fun i hi => by simp at hi, fun i hi => by simp at hi, hf⟩
    · obtain ⟨k, _, _, _, h⟩ := hv.via v hvf u hu
      omega
  | succ m ih =>
    intro v u hu hr
    by_cases hvf : v = f
    · subst hvf
      rw [way_end]
      rw [hx.src] at hu
      exact ⟨hu, fun i hi => by simp at hi, fun i hi => by simp at hi, hf⟩
    · obtain ⟨k, a1, a2, a3, a4⟩ := hx.via v hvf u hu
      obtain ⟨k', b1, _, _, b4⟩ := hv.via v hvf u hu
      rw [a1] at b1
      cases b1
      obtain ⟨p, hp⟩ := arr_fin a4
      obtain ⟨i1, i2, i3, i4⟩ := ih (MI5.at_ xs k).a0.toNat p hp (by omega)
      rw [way_step hvf a1]
      generalize way xs s.la f m (MI5.at_ xs k).a0.toNat = W at *
      have eL : (W ++ [(k : Int)]).length = W.length + 1 := by simp
      have eG : (W ++ [(k : Int)]).getD W.length 0 = (k : Int) := by simp [List.getD_eq_getElem?_getD]
      have eO : ofN xs ((W ++ [(k : Int)]).getD W.length 0) = MI5.at_ xs k := by rw [eG, ofN, Int.toNat_natCast]
      have G := okP_good hok a2
      have g1 := G.f0
      have g2 := G.t0
      rw [eL]
      refine ⟨?_, fun i hi => ?_, fun i hi => ?_, ?_⟩
      · rw [mo, eO, mo_app _ _ _ _ _ (Nat.le_refl _), i1, ← hp]; exact a4
      · by_cases e : i = W.length
        · subst e; rw [eG]; omega
        · rw [getD_left (by omega)]; exact i2 i (by omega)
      · by_cases e : i = W.length
        · subst e; rw [eO, node_app _ _ _ _ _ (Nat.le_refl _), i4]; omega
        · rw [getD_left (by omega), node_app _ _ _ _ _ (by omega)]; exact i3 i (by omega)
      · rw [nodeAt, eO]; omega
/-- What FnEarliest asks of the times from a start. -/
structure EQ (xs : List I5) (f n : Int) (L : List Int) : Prop where
  f0 : 0 ≤ f
  f1 : f ≤ 7
  len : L.length = 8
  src : L.getD f.toNat 0 = n
  con : ∀ k, k < xs.length → 0 ≤ L.getD (MI5.at_ xs k).a0.toNat 0 → L.getD (MI5.at_ xs k).a0.toNat 0 < (MI5.at_ xs k).a3 → 0 ≤ L.getD (MI5.at_ xs k).a1.toNat 0 ∧ L.getD (MI5.at_ xs k).a1.toNat 0 ≤ max (L.getD (MI5.at_ xs k).a0.toNat 0) (MI5.at_ xs k).a2 + (MI5.at_ xs k).a4
  rt : ∀ v : Nat, v < 8 → tellB (routeM xs f n (v : Int)) = decide (0 ≤ L.getD v 0) ∧ (0 ≤ L.getD v 0 → tellN (routeM xs f n (v : Int)) = L.getD v 0 ∧ tellB (arrM xs f n (routeL xs f n (v : Int))) = true ∧ tellN (arrM xs f n (routeL xs f n (v : Int))) = L.getD v 0)
  bd : ∀ v : Nat, v < 8 → -1 ≤ L.getD v 0 ∧ L.getD v 0 ≤ 1048576
theorem eq_of {xs : List I5} {f n : Int} (h : startOk xs f n = true) : EQ xs f n (earL xs f n) := by
  obtain ⟨hok, f0, f1, n0, n1⟩ := start_is h
  have hs0 := st0_ok (f := f) n0 n1
  have hO := ord_st0 hok (f := f) (n := n)
  have hX := vix_fin hok hs0 hO (vix_st0 xs (f := f) (n := n))
  obtain ⟨rk, hV⟩ := via_fin hok hs0 hO (via_st0 xs f0 f1 (n := n))
  have hS := fin_okS hok hs0
  have hB := fin_best hok hs0
  have hget : ∀ i : Nat, i < 8 → (earL xs f n).getD i 0 = tS ((fin xs (st0 f n)).wh i) := fun i hi => earL_get h hi
  have hlen : (earL xs f n).length = 8 := by rw [earL_yes h, whL_len]
  have htS : ∀ v : Nat, v < 8 → ∀ m, (fin xs (st0 f n)).wh v = m → okT m := fun v _ m e => e ▸ hS v
  generalize earL xs f n = L at *
  have hrM : ∀ v : Nat, v < 8 → routeM xs f n (v : Int) = (fin xs (st0 f n)).wh v := fun v hv => by
    unfold routeM askOk
    rw [h, if_pos (by simp; omega), Int.toNat_natCast]
  have hrL : ∀ v : Nat, v < 8 → tellB ((fin xs (st0 f n)).wh v) = true → routeL xs f n (v : Int) = way xs (fin xs (st0 f n)).la f.toNat 8 v := fun v hv hb => by
    unfold routeL
    rw [hrM v hv, if_pos hb, Int.toNat_natCast]
  generalize fin xs (st0 f n) = s at *
  refine ⟨f0, f1, hlen, ?_, ?_, ?_, ?_⟩
  · rw [hget _ (by omega), hX.src]; rfl
  · intro k hk h0 h1
    have G := okP_good hok hk
    have a0 : (MI5.at_ xs k).a0.toNat < 8 := by have := G.f0; have := G.f1; omega
    have a1 : (MI5.at_ xs k).a1.toNat < 8 := by have := G.t0; have := G.t1; omega
    rw [hget _ a0] at h0 h1 ⊢
    rw [hget _ a1]
    cases hm : s.wh (MI5.at_ xs k).a0.toNat with
    | fin p =>
      rw [hm] at h0 h1
      have h1' : ¬ (MI5.at_ xs k).a3 ≤ p := by simp only [tS] at h1; omega
      have ha : arr (MI5.at_ xs k) (.fin p) = .fin (max p (MI5.at_ xs k).a2 + (MI5.at_ xs k).a4) := by simp [arr, h1']
      have hni := best_none_imp hB k hk (max p (MI5.at_ xs k).a2 + (MI5.at_ xs k).a4)
      have he : early (max p (MI5.at_ xs k).a2 + (MI5.at_ xs k).a4) (s.wh (MI5.at_ xs k).a1.toNat) = false := by
        cases hq : early (max p (MI5.at_ xs k).a2 + (MI5.at_ xs k).a4) (s.wh (MI5.at_ xs k).a1.toNat) with
        | false => rfl
        | true => exact absurd ⟨by rw [hm]; exact ha, hq⟩ hni
      have hT := hS (MI5.at_ xs k).a1.toNat
      cases hm2 : s.wh (MI5.at_ xs k).a1.toNat with
      | fin y =>
        rw [hm2] at he hT
        simp only [early, decide_eq_false_iff_not] at he
        simp only [tS]
        exact ⟨hT.1, by omega⟩
      | inf => rw [hm2] at he; simp [early] at he
      | ago => rw [hm2] at hT; exact absurd hT (by simp [okT])
    | inf => rw [hm] at h0; simp [tS] at h0
    | ago => have hT := hS (MI5.at_ xs k).a0.toNat; rw [hm] at hT; exact absurd hT (by simp [okT])
  · intro v hv
    rw [hrM v hv, hget v hv]
    have hT := hS v
    cases hm : s.wh v with
    | fin u =>
      rw [hm] at hT
      have hw := way_is hok (fi := f) (by omega) hX hV 8 v u hm (Nat.le_trans (hV.top v u hm) (cnt_le _))
      have hl := way_len xs s.la f.toNat 8 v
      have hb : tellB (s.wh v) = true := by rw [hm]; rfl
      rw [hrL v hv hb]
      generalize way xs s.la f.toNat 8 v = Wy at *
      have hwk : wayOk xs f n Wy = true := way_go h ((inP_iff _ _).2 hw.2.1) (by omega) hw.2.2.1
      rw [arrM_yes hwk, hw.1]
      have h0 : (0 : Int) ≤ tS (Mo.fin u) := hT.1
      exact ⟨(decide_eq_true h0).symm, fun _ => ⟨rfl, rfl, rfl⟩⟩
    | inf => simp [tellB, tS]
    | ago => rw [hm] at hT; exact absurd hT (by simp [okT])
  · intro v hv
    rw [hget v hv]
    have hT := hS v
    cases hm : s.wh v with
    | fin u => rw [hm] at hT; simp only [tS]; have := hT.1; have := hT.2; omega
    | inf => simp [tS]
    | ago => rw [hm] at hT; exact absurd hT (by simp [okT])
/-- Nobody is there earlier than is told, by any contacts. -/
theorem arr_ge_ear {xs : List I5} {f n : Int} {os : List Int} {t : Int} (h : arrM xs f n os = .fin t) : startOk xs f n = true ∧ inUp xs.length os os.length ∧ os.length ≤ 20 ∧ 0 ≤ nodeAt xs f os os.length ∧ nodeAt xs f os os.length ≤ 7 ∧ 0 ≤ (earL xs f n).getD (nodeAt xs f os os.length).toNat 0 ∧ (earL xs f n).getD (nodeAt xs f os os.length).toNat 0 ≤ t := by
  have hwk : wayOk xs f n os = true := by
    cases hq : wayOk xs f n os with
    | true => rfl
    | false => rw [arrM_no hq] at h; cases h
  rw [arrM_yes hwk] at h
  have hw2 := hwk
  simp only [wayOk, Bool.and_eq_true] at hw2
  obtain ⟨⟨hst, hrow⟩, hhd⟩ := hw2
  obtain ⟨hok, f0, f1, n0, n1⟩ := start_is hst
  obtain ⟨hin, hch, hl⟩ := rowB_is hrow
  have hgo := goUp_iff.2 ⟨hhd, hch⟩
  have hnode : ∀ k, k ≤ os.length → 0 ≤ nodeAt xs f os k ∧ nodeAt xs f os k ≤ 7 := fun k hk => by
    cases k with
    | zero => exact ⟨f0, f1⟩
    | succ k =>
      have G := good_of_in hok hin (show k < os.length by omega)
      exact ⟨G.t0, G.t1⟩
  have hpre : ∀ j, j ≤ os.length → ∃ x, mo xs os n j = .fin x := fun j hj => by
    cases hm : mo xs os n j with
    | fin x => exact ⟨x, rfl⟩
    | inf =>
      have := mo_inf hm (os.length - j)
      rw [show j + (os.length - j) = os.length by omega, h] at this
      cases this
    | ago =>
      have := mo_okT hok hin n0 n1 j hj
      rw [hm] at this
      exact absurd this (by simp [okT])
  have hR : ∀ d, d ≤ os.length → ∀ x, mo xs os n (os.length - d) = .fin x → Rf xs (nodeAt xs f os os.length).toNat t (nodeAt xs f os (os.length - d)).toNat x := fun d => by
    induction d with
    | zero =>
      intro _ x hx
      rw [Nat.sub_zero] at hx ⊢
      rw [h] at hx
      cases hx
      exact .here (Int.le_refl _)
    | succ d ih =>
      intro hd x hx
      obtain ⟨j, hj⟩ : ∃ j, os.length - (d + 1) = j := ⟨_, rfl⟩
      have hj1 : os.length - d = j + 1 := by omega
      have hjl : j < os.length := by omega
      obtain ⟨z, hz⟩ := hpre (j + 1) (by omega)
      have ihz := ih (by omega) z (by rw [hj1]; exact hz)
      rw [hj] at hx ⊢
      rw [hj1] at ihz
      have hi := hin j hjl
      have e0 := hgo j hjl
      rw [mo, hx] at hz
      rw [nodeAt] at ihz
      rw [← e0]
      exact Rf.step (k := (os.getD j 0).toNat) (by omega) hz ihz
  have hRf := hR os.length (Nat.le_refl _) n (by rw [Nat.sub_self]; rfl)
  rw [Nat.sub_self] at hRf
  obtain ⟨y, hy1, hy2⟩ := (front_iff hok (f := f) n0 n1).2 hRf
  have hnd := hnode os.length (Nat.le_refl _)
  have hS := fin_okS hok (st0_ok (f := f) n0 n1) (nodeAt xs f os os.length).toNat
  refine ⟨hst, hin, hl, hnd.1, hnd.2, ?_, ?_⟩
  · rw [earL_get hst (by omega), hy1]
    rw [hy1] at hS
    exact hS.1
  · rw [earL_get hst (by omega), hy1]; exact hy2
end PN
end Go.Proofs.Ytobdgmopflccfaa
