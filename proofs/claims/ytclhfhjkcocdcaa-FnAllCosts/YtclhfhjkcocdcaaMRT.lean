/- Least costs between all, and ways that cost so: plain facts. -/
import Derived.Test.YtclhfhjkcocdcaaMRW
namespace Go.Proofs.Ytclhfhjkcocdcaa
namespace RD
open Go.RowKit
theorem frm_fe {xs : List I3} (h : okP xs = true) (hc : calm xs = true) (a : Nat) : Fe xs (frm xs a) := (settled h (calm_Calm h hc) (start_bd a)).2.2
theorem jk_above {xs : List I3} {q : Cs} (hq : ∀ r, r ∈ xs → q r.a1.toNat ≤ q r.a0.toNat + r.a2) (a : Nat) : ∀ (n v : Nat), jk xs n (start a) v = far ∨ q v - q a ≤ jk xs n (start a) v
  | 0, v => by
    show start a v = far ∨ _ ≤ start a v
    unfold start put
    split
    · rename_i e; right; rw [e]; omega
    · exact .inl rfl
  | n + 1, v => by
    rcases jac_is (xs := xs) (jk xs n (start a)) v with e | ⟨r, hr, hv, e⟩
    · rw [show jk xs (n + 1) (start a) v = jac xs (jk xs n (start a)) v from rfl, e]; exact jk_above hq a n v
    · rw [show jk xs (n + 1) (start a) v = jac xs (jk xs n (start a)) v from rfl, e]
      unfold ov
      split
      · exact .inl rfl
      · rename_i nf
        have h1 := hq r hr
        rcases jk_above hq a n r.a0.toNat with h2 | h2
        · exact absurd h2 nf
        · right; rw [← hv]; omega
theorem frm_self {xs : List I3} (h : okP xs = true) (hc : calm xs = true) (a : Nat) : frm xs a a = 0 := by
  obtain ⟨q, hq⟩ := calm_Calm h hc
  have h1 := jk_down xs (start a) 0 7 a
  rw [Nat.zero_add] at h1
  have h2 : start a a = 0 := by simp [start, put]
  have h3 : jk xs 0 (start a) a = 0 := h2
  rw [h3] at h1
  rcases jk_above hq a 7 a with e | e
  · rw [e] at h1; unfold far at h1; omega
  · have : jk xs 7 (start a) a = frm xs a a := rfl
    omega
theorem tri_n {xs : List I3} (h : okP xs = true) (hc : calm xs = true) (a b : Nat) (hab : frm xs a b < far) : ∀ (n d : Nat), n ≤ 100 → jk xs n (start b) d < far → frm xs a d ≤ frm xs a b + jk xs n (start b) d
  | 0, d, _, hd => by
    have e0 : jk xs 0 (start b) d = start b d := rfl
    rw [e0] at hd ⊢
    unfold start put at hd ⊢
    split
    · rename_i e; rw [e]; omega
    · rename_i e; rw [if_neg e] at hd; exact absurd hd (Int.lt_irrefl _)
  | n + 1, d, hn, hd => by
    have hg := okP_Gd h
    have hB := jk_bd hg (start_bd b) n (by omega)
    rcases jac_is (xs := xs) (jk xs n (start b)) d with e | ⟨r, hr, hv, e⟩
    · have e1 : jk xs (n + 1) (start b) d = jk xs n (start b) d := e
      rw [e1] at hd ⊢
      exact tri_n h hc a b hab n d (by omega) hd
    · have e1 : jk xs (n + 1) (start b) d = ov (jk xs n (start b)) r := e
      rw [e1] at hd ⊢
      have nf : jk xs n (start b) r.a0.toNat ≠ far := fun e2 => by rw [ov, if_pos e2] at hd; omega
      rw [ov, if_neg nf] at hd ⊢
      have hlt := bd_lt (B := 100 * n) (by unfold far; omega) hB nf
      have ih := tri_n h hc a b hab n r.a0.toNat (by omega) hlt
      have h1 := frm_bd h a b
      have h2 := hB r.a0.toNat
      have h3 := frm_fe h hc a r hr
      rw [hv] at h3
      have h4 := frm_bd h a r.a0.toNat
      have nf2 : frm xs a r.a0.toNat ≠ far := by unfold far at *; omega
      rw [ov, if_neg nf2] at h3
      omega
theorem tri {xs : List I3} (h : okP xs = true) (hc : calm xs = true) (a b d : Nat) (hab : frm xs a b < far) (hbd : frm xs b d < far) : frm xs a d ≤ frm xs a b + frm xs b d := tri_n h hc a b hab 7 d (by omega) hbd
/-- A way from there, with those costs together. -/
def Pth (xs : List I3) : List Int → Int → Int → Int → Prop
  | [], a, b, s => a = b ∧ s = 0
  | k :: way, a, b, s => ∃ j : Nat, j < xs.length ∧ k = (j : Int) ∧ (MI3.at_ xs j).a0 = a ∧ Pth xs way (MI3.at_ xs j).a1 b (s - (MI3.at_ xs j).a2)
theorem wy_path {xs : List I3} {c : Cs} {f t : Int} : ∀ (n : Nat) (at_ : Int) (way ns R : List Int), 0 ≤ at_ → c at_.toNat ≠ far → Pth xs way at_ t (c t.toNat - c at_.toNat) → Gd xs → wy xs c f n at_ way ns = some R → Pth xs R f t (c t.toNat - c f.toNat)
  | 0, _, _, _, _, _, _, _, _, h => by rw [wy] at h; cases h
  | n + 1, at_, way, ns, R, h0, hnf, hp, hg, h => by
    rw [wy] at h
    split at h
    · rename_i e
      obtain rfl : way = R := Option.some.inj h
      rw [← e]; exact hp
    · cases hb : bk xs c at_ ns with
      | none => rw [hb] at h; cases h
      | some k =>
        rw [hb] at h
        obtain ⟨hk, hh⟩ := bk_is hb
        unfold hit at hh
        simp only [Bool.and_eq_true, decide_eq_true_eq, Bool.not_eq_true'] at hh
        obtain ⟨⟨h1, h2⟩, -⟩ := hh
        have G : Good (MI3.at_ xs k) := by rw [MI3.at_eq xs k hk]; exact hg _ (List.getElem_mem hk)
        rw [h1] at h2
        have nf2 : c (MI3.at_ xs k).a0.toNat ≠ far := fun e => by rw [ov, if_pos e] at h2; exact hnf h2.symm
        rw [ov, if_neg nf2] at h2
        have hp2 : Pth xs ((k : Int) :: way) (MI3.at_ xs k).a0 t (c t.toNat - c (MI3.at_ xs k).a0.toNat) := by
          refine ⟨k, hk, rfl, rfl, ?_⟩
          rw [h1, show c t.toNat - c (MI3.at_ xs k).a0.toNat - (MI3.at_ xs k).a2 = c t.toNat - c at_.toNat from by omega]
          exact hp
        exact wy_path n _ _ _ R G.f0 nf2 hp2 hg h
/-- What FnAllCosts asks of costs. -/
structure AQ (xs : List I3) (AL : List (List Int)) (C : Nat → Cs) : Prop where
  ln : AL.length = 8
  rw_ : ∀ a, a < 8 → AL.getD a [] = li (C a)
  gd : ∀ k, k < xs.length → Good (MI3.at_ xs k)
  self : ∀ a, C a a = 0
  fe : ∀ a k, k < xs.length → C a (MI3.at_ xs k).a0.toNat < far → C a (MI3.at_ xs k).a1.toNat ≤ C a (MI3.at_ xs k).a0.toNat + (MI3.at_ xs k).a2
  tr : ∀ a b d, C a b < far → C b d < far → C a d ≤ C a b + C b d
  bd : ∀ a v, C a v = far ∨ (-700 ≤ C a v ∧ C a v ≤ 700)
  cf : ∀ a : Nat, a < 8 → cfL xs (a : Int) = li (C a) ∧ may xs (a : Int) = true
theorem aq_of {xs : List I3} (h : fine xs = true) {AL : List (List Int)} (hA : AL = (List.range 8).map fun n => li (frm xs n)) : AQ xs AL (frm xs) := by
  obtain ⟨h1, h2⟩ := fine_is h
  refine ⟨by rw [hA]; simp, fun a ha => by rw [hA]; simp [List.getD_eq_getElem?_getD, ha], fun k hk => okP_good h1 hk, frm_self h1 h2, fun a k hk hl => ?_, fun a b d => tri h1 h2 a b d, fun a v => frm_bd h1 a v, fun a ha => ⟨cfL_yes h ha, ?_⟩⟩
  · have hr : MI3.at_ xs k ∈ xs := by rw [MI3.at_eq xs k hk]; exact List.getElem_mem hk
    have := frm_fe h1 h2 a _ hr
    rwa [ov, if_neg (by omega)] at this
  · rw [may, h, show nodeOk (a : Int) = true from by simp only [nodeOk, decide_eq_true_eq]; omega]; rfl
/-- What FnAllCosts asks of a way. -/
structure WQ (xs : List I3) (f t : Int) (way : List Int) (c : Cs) : Prop where
  ln : way.length ≤ 8
  t0 : 0 ≤ t
  t1 : t ≤ 7
  cf : cfL xs f = li c ∧ may xs f = true
  pt : Pth xs way f t (c t.toNat)
  gd : ∀ k, k < xs.length → Good (MI3.at_ xs k)
theorem wq_of {xs : List I3} {f t : Int} {way : List Int} (h : wbO xs f t = some way) : WQ xs f t way (frm xs f.toNat) := by
  have hl := wbL_len8 xs f t
  unfold wbO at h
  split at h
  · rename_i hc
    simp only [Bool.and_eq_true] at hc
    obtain ⟨⟨h1, h2⟩, h3⟩ := hc
    have k2 := node_yes h2
    have k3 := node_yes h3
    obtain ⟨p1, p2⟩ := fine_is h1
    split at h
    · cases h
    · rename_i hnf
      have hw : wbO xs f t = some way := by
        unfold wbO
        rw [h1, h2, h3]
        show (if _ then none else _) = _
        rw [if_neg hnf]; exact h
      have hp := wy_path (xs := xs) (c := frm xs f.toNat) (f := f) (t := t) 8 t [] [t] way k3.1 hnf ⟨rfl, by omega⟩ (okP_Gd p1) h
      rw [frm_self p1 p2 f.toNat, Int.sub_zero] at hp
      refine ⟨by rw [wbL, hw] at hl; exact hl, k3.1, k3.2, ⟨?_, by rw [may, h1, h2]; rfl⟩, hp, fun k hk => okP_good p1 hk⟩
      obtain ⟨fn, hf⟩ := Int.eq_ofNat_of_zero_le k2.1
      subst hf
      rw [cfL_yes h1 (by omega)]; rfl
  · cases h
theorem Pth.step {xs : List I3} {way : List Int} {k : Nat} (hk : k < way.length) {x t s : Int} (h : Pth xs (way.drop k) x t s) : ∃ j : Nat, j < xs.length ∧ way.getD k 0 = (j : Int) ∧ (MI3.at_ xs j).a0 = x ∧ Pth xs (way.drop (k + 1)) (MI3.at_ xs j).a1 t (s - (MI3.at_ xs j).a2) := by
  rw [List.drop_eq_getElem_cons hk] at h
  obtain ⟨j, hj, e, h1, h2⟩ := h
  exact ⟨j, hj, by rw [List.getD_eq_getElem?_getD, List.getElem?_eq_getElem hk]; exact e, h1, h2⟩
theorem Pth.end {xs : List I3} {way : List Int} {x t s : Int} (h : Pth xs (way.drop way.length) x t s) : x = t ∧ s = 0 := by
  rw [List.drop_length] at h; exact h
end RD
end Go.Proofs.Ytclhfhjkcocdcaa
