import Derived.Test.YtdglialjcibbbaaMPM
import Derived.Test.YtdglialjcibbbaaCLinked
/- Ways along a forest: plain facts. -/
namespace Go.Proofs.Ytdglialjcibbbaa
namespace EG
/-- The other end of an edge, where a is one. -/
def jn (e : Nat × Nat) (a : Nat) : Option Nat := if e.1 = a then some e.2 else if e.2 = a then some e.1 else none
theorem jn_is {e : Nat × Nat} {a c : Nat} (h : jn e a = some c) : (e.1 = a ∧ e.2 = c) ∨ (e.2 = a ∧ e.1 = c) := by
  unfold jn at h
  split at h
  · rename_i h1; simp at h; exact .inl ⟨h1, h⟩
  · split at h
    · rename_i h2; simp at h; exact .inr ⟨h2, h⟩
    · cases h
/-- Going by edges of S, never back by the edge by which one came. -/
def Wk (en : Nat → Nat × Nat) (S : Nat → Prop) : List Nat → Option Nat → Nat → Nat → Prop
  | [], _, a, b => a = b
  | k :: ks, came, a, b => S k ∧ some k ≠ came ∧ ∃ c, jn (en k) a = some c ∧ Wk en S ks (some k) c b
def lst : List Nat → Option Nat → Option Nat
  | [], c => c
  | k :: ks, _ => lst ks (some k)
theorem wk_app {en : Nat → Nat × Nat} {S : Nat → Prop} : ∀ (p q : List Nat) (came : Option Nat) (a b : Nat), Wk en S (p ++ q) came a b → ∃ c, Wk en S p came a c ∧ Wk en S q (lst p came) c b
  | [], q, came, a, b, h => ⟨a, rfl, h⟩
  | k :: p, q, came, a, b, h => by
    obtain ⟨h1, h2, c, h3, h4⟩ := h
    obtain ⟨d, h5, h6⟩ := wk_app p q (some k) c b h4
    exact ⟨d, ⟨h1, h2, c, h3, h5⟩, h6⟩
theorem wk_cn {en : Nat → Nat × Nat} {S T : Nat → Prop} : ∀ (p : List Nat) (came : Option Nat) (a b : Nat), Wk en S p came a b → (∀ k, k ∈ p → S k → T k) → Cn en T a b
  | [], came, a, b, h, _ => by cases h; exact Cn.rfl' _
  | k :: p, came, a, b, h, hT => by
    obtain ⟨h1, h2, c, h3, h4⟩ := h
    have e := Cn.edge (en := en) (hT k (by simp) h1)
    have r := wk_cn p (some k) c b h4 (fun j hj => hT j (by simp [hj]))
    rcases jn_is h3 with ⟨e1, e2⟩ | ⟨e1, e2⟩
    · rw [e1, e2] at e; exact e.trans r
    · rw [e1, e2] at e; exact e.symm.trans r
/-- No edge links two that the lesser ones link. -/
def Fo (en : Nat → Nat × Nat) (S : Nat → Prop) : Prop := ∀ k, S k → ¬ Cn en (fun j => S j ∧ j < k) (en k).1 (en k).2
theorem wk_closed {en : Nat → Nat × Nat} {S : Nat → Prop} (hF : Fo en S) : ∀ (n : Nat) (ks : List Nat) (came : Option Nat) (a : Nat), (∀ k, k ∈ ks → k < n) → Wk en S ks came a a → ks = []
  | 0, ks, came, a, hn, _ => by
    cases ks with
    | nil => rfl
    | cons k ks => exact absurd (hn k (by simp)) (by omega)
  | n + 1, ks, came, a, hn, h => by
    by_cases hm : n ∈ ks
    · exfalso
      obtain ⟨p, q, rfl, hp⟩ := List.eq_append_cons_of_mem hm
      obtain ⟨x, h1, h2, h3, y, h4, h5⟩ := wk_app p (n :: q) came a a h
      have low : ∀ (l : List Nat), (∀ k, k ∈ l → k ∈ p ++ n :: q) → n ∉ l → ∀ k, k ∈ l → S k → (S k ∧ k < n) := fun l hl hnl k hk hs => by
        have := hn k (hl k hk)
        have h' : k ≠ n := fun e => hnl (e ▸ hk)
        exact ⟨hs, by omega⟩
      have no : ¬ Cn en (fun j => S j ∧ j < n) x y := fun hc => hF n h2 (by
        rcases jn_is h4 with ⟨e1, e2⟩ | ⟨e1, e2⟩
        · rw [e1, e2]; exact hc
        · rw [e1, e2]; exact hc.symm)
      have cp := wk_cn (T := fun j => S j ∧ j < n) p came a x h1 (low p (fun k hk => by simp [hk]) hp)
      by_cases hq : n ∈ q
      · obtain ⟨p', q', rfl, hp'⟩ := List.eq_append_cons_of_mem hq
        obtain ⟨z, g1, g2, g3, z', g4, g5⟩ := wk_app p' (n :: q') (some n) y a h5
        have lp := low p' (fun k hk => by simp [hk]) hp'
        have cz := wk_cn (T := fun j => S j ∧ j < n) p' (some n) y z g1 lp
        by_cases hz : z = y
        · subst hz
          have := wk_closed hF n p' (some n) z (fun k hk => by
            have := hn k (by simp [hk])
            have h' : k ≠ n := fun e => hp' (e ▸ hk)
            omega) g1
          subst this
          exact g3 rfl
        · have hzx : z = x := by
            rcases jn_is h4 with ⟨e1, e2⟩ | ⟨e1, e2⟩ <;> rcases jn_is g4 with ⟨f1, f2⟩ | ⟨f1, f2⟩ <;> omega
          subst hzx
          exact no cz.symm
      · have cq := wk_cn (T := fun j => S j ∧ j < n) q (some n) y a h5 (low q (fun k hk => by simp [hk]) hq)
        exact no (cq.trans cp).symm
    · refine wk_closed hF n ks came a (fun k hk => ?_) h
      have := hn k hk
      have h' : k ≠ n := fun e => hm (e ▸ hk)
      omega
def vis (en : Nat → Nat × Nat) : List Nat → Nat → List Nat
  | [], a => [a]
  | k :: ks, a => a :: vis en ks ((jn (en k) a).getD 0)
theorem vis_len (en : Nat → Nat × Nat) : ∀ (ks : List Nat) (a : Nat), (vis en ks a).length = ks.length + 1
  | [], a => rfl
  | k :: ks, a => by simp [vis, vis_len en ks]
theorem vis_mem {en : Nat → Nat × Nat} {S : Nat → Prop} {x : Nat} : ∀ (ks : List Nat) (came : Option Nat) (a b : Nat), Wk en S ks came a b → x ∈ vis en ks a → ∃ p q, ks = p ++ q ∧ Wk en S p came a x
  | [], came, a, b, h, hx => ⟨[], [], rfl, by simp [vis] at hx; exact hx.symm⟩
  | k :: ks, came, a, b, h, hx => by
    obtain ⟨h1, h2, c, h3, h4⟩ := h
    rw [vis, h3, List.mem_cons] at hx
    rcases hx with hx | hx
    · exact ⟨[], k :: ks, rfl, hx.symm⟩
    · obtain ⟨p, q, rfl, h5⟩ := vis_mem ks (some k) c b h4 hx
      exact ⟨k :: p, q, rfl, h1, h2, c, h3, h5⟩
theorem le_bound (l : List Nat) : ∃ n, ∀ k, k ∈ l → k < n := by
  induction l with
  | nil => exact ⟨0, fun k hk => by cases hk⟩
  | cons a l ih =>
    obtain ⟨n, hn⟩ := ih
    exact ⟨max n (a + 1), fun k hk => by
      rcases List.mem_cons.1 hk with rfl | h
      · omega
      · have := hn k h; omega⟩
theorem vis_nodup {en : Nat → Nat × Nat} {S : Nat → Prop} (hF : Fo en S) : ∀ (ks : List Nat) (came : Option Nat) (a b : Nat), Wk en S ks came a b → (vis en ks a).Nodup
  | [], came, a, b, h => by simp [vis]
  | k :: ks, came, a, b, h => by
    have hh := h
    obtain ⟨h1, h2, c, h3, h4⟩ := h
    rw [vis, h3, List.nodup_cons]
    refine ⟨fun hx => ?_, vis_nodup hF ks (some k) c b h4⟩
    obtain ⟨p, q, rfl, h5⟩ := vis_mem ks (some k) c b h4 hx
    obtain ⟨n, hn⟩ := le_bound (k :: p)
    have := wk_closed hF n (k :: p) came a hn ⟨h1, h2, c, h3, h5⟩
    cases this
theorem vis_lt {en : Nat → Nat × Nat} {S : Nat → Prop} (hS : ∀ k, S k → (en k).1 < 8 ∧ (en k).2 < 8) : ∀ (ks : List Nat) (came : Option Nat) (a b : Nat), a < 8 → Wk en S ks came a b → ∀ x, x ∈ vis en ks a → x < 8
  | [], came, a, b, ha, h, x, hx => by simp [vis] at hx; omega
  | k :: ks, came, a, b, ha, h, x, hx => by
    obtain ⟨h1, h2, c, h3, h4⟩ := h
    rw [vis, h3, List.mem_cons] at hx
    rcases hx with rfl | hx
    · exact ha
    · have := hS k h1
      refine vis_lt hS ks (some k) c b ?_ h4 x hx
      rcases jn_is h3 with ⟨e1, e2⟩ | ⟨e1, e2⟩ <;> omega
theorem wk_short {en : Nat → Nat × Nat} {S : Nat → Prop} (hF : Fo en S) (hS : ∀ k, S k → (en k).1 < 8 ∧ (en k).2 < 8) {ks : List Nat} {came : Option Nat} {a b : Nat} (ha : a < 8) (h : Wk en S ks came a b) : ks.length < 8 := by
  have := pigeon 8 (vis en ks a) (vis_nodup hF ks came a b h) (vis_lt hS ks came a b ha h)
  rw [vis_len] at this
  omega
/-- No way goes on for more than f edges. -/
structure Oky (en : Nat → Nat × Nat) (S : Nat → Prop) (f : Nat) (came : Option Nat) (a : Nat) : Prop where
  is : ∀ ks b, Wk en S ks came a b → ks.length < f
theorem Oky.pos {en : Nat → Nat × Nat} {S : Nat → Prop} {f : Nat} {came : Option Nat} {a : Nat} (h : Oky en S f came a) : 0 < f := h.is [] a rfl
theorem Oky.step {en : Nat → Nat × Nat} {S : Nat → Prop} {f : Nat} {came : Option Nat} {a c k : Nat} (h : Oky en S (f + 1) came a) (hk : S k) (hc : some k ≠ came) (hj : jn (en k) a = some c) : Oky en S f (some k) c :=
  ⟨fun ks b hw => by have := h.is (k :: ks) b ⟨hk, hc, c, hj, hw⟩; simp at this; omega⟩
/-- The way along: from the edges that are left. -/
def pthL (en : Nat → Nat × Nat) (rec : Nat → Nat → Option (List Int)) (came : Option Nat) (a : Nat) : List Int → Option (List Int)
  | [] => none
  | k :: ks => match jn (en k.toNat) a with
    | none => pthL en rec came a ks
    | some c => if some k.toNat = came then pthL en rec came a ks else
      match rec k.toNat c with
      | some r => some (k :: r)
      | none => pthL en rec came a ks
def pth (en : Nat → Nat × Nat) (os : List Int) (b : Nat) : Nat → Option Nat → Nat → Option (List Int)
  | 0, _, _ => none
  | f + 1, came, a => if a = b then some [] else pthL en (fun k c => pth en os b f (some k) c) came a os
theorem pthL_len {en : Nat → Nat × Nat} {rec : Nat → Nat → Option (List Int)} {f : Nat} (hr : ∀ k c r, rec k c = some r → r.length ≤ f) {came : Option Nat} {a : Nat} : ∀ (os : List Int) (r : List Int), pthL en rec came a os = some r → r.length ≤ f + 1
  | [], r, h => by cases h
  | k :: ks, r, h => by
    rw [pthL] at h
    split at h
    · exact pthL_len hr ks r h
    · split at h
      · exact pthL_len hr ks r h
      · split at h
        · rename_i r' hr'
          have := hr _ _ _ hr'
          simp at h; subst h; simp; omega
        · exact pthL_len hr ks r h
theorem pth_len (en : Nat → Nat × Nat) (os : List Int) (b : Nat) : ∀ (f : Nat) (came : Option Nat) (a : Nat) (r : List Int), pth en os b f came a = some r → r.length ≤ f
  | 0, came, a, r, h => by cases h
  | f + 1, came, a, r, h => by
    rw [pth] at h
    split at h
    · simp at h; subst h; simp
    · exact pthL_len (fun k c r => pth_len en os b f (some k) c r) os r h
end EG
end Go.Proofs.Ytdglialjcibbbaa

/- Paths in a forest as the two functions search them: plain facts. -/
namespace Go.Proofs.Ytdglialjcibbbaa
open Go.RowKit
namespace EG
def cm (came : Int) : Option Nat := if came < 0 then none else some came.toNat
def SS (os : List Int) : Nat → Prop := fun k => (k : Int) ∈ os
/-- Where a path begins and how one came. -/
structure At (xs : List I3) (os : List Int) (f : Nat) (came : Int) (a : Nat) : Prop where
  ok : Oky (en xs) (SS os) f (cm came) a
  lt : a < 8
  ge : -1 ≤ came
  le : came ≤ 24
def pathO (xs : List I3) (os : List Int) (b f : Nat) (came : Int) (a : Nat) : Option (List Int) := pth (en xs) os b f (cm came) a
/-- From edge j of some on. -/
def restO (xs : List I3) (os : List Int) (b f : Nat) (came : Int) (a j : Nat) : Option (List Int) := pthL (en xs) (fun k c => pth (en xs) os b f (some k) c) (cm came) a (os.drop j)
def oL (r : Option (List Int)) : List Int := r.getD []
theorem drop_cons (os : List Int) {j : Nat} (h : j < os.length) : os.drop j = os.getD j 0 :: os.drop (j + 1) := by
  rw [List.drop_eq_getElem_cons h]; simp [List.getD_eq_getElem?_getD, List.getElem?_eq_getElem h]
theorem path_zero {xs : List I3} {os : List Int} {b f : Nat} {came : Int} : pathO xs os b (f + 1) came b = some [] := by simp [pathO, pth]
theorem path_rest {xs : List I3} {os : List Int} {a b f : Nat} {came : Int} (h : a ≠ b) : pathO xs os b (f + 1) came a = restO xs os b f came a 0 := by simp [pathO, restO, pth, h]
theorem rest_end {xs : List I3} {os : List Int} {a b f : Nat} {came : Int} : restO xs os b f came a os.length = none := by simp [restO, pthL]
theorem rest_skip {xs : List I3} {os : List Int} {a b f j i : Nat} {came : Int} (hj : j < os.length) (hi : os.getD j 0 = (i : Int)) (h : jn (en xs i) a = none ∨ (i : Int) = came) : restO xs os b f came a j = restO xs os b f came a (j + 1) := by
  rw [restO, drop_cons os hj, hi, pthL, Int.toNat_natCast]
  rcases h with h | h
  · rw [h]; rfl
  · have : some i = cm came := by rw [← h]; simp [cm]
    cases jn (en xs i) a with
    | none => rfl
    | some c => show (if some i = cm came then _ else _) = _; rw [if_pos this]; rfl
theorem cm_nat (i : Nat) : cm (i : Int) = some i := by simp [cm]
theorem cm_ne {i : Nat} {came : Int} (h : (i : Int) ≠ came) : some i ≠ cm came := by
  unfold cm; split
  · simp
  · intro e; simp at e; omega
theorem rest_yes {xs : List I3} {os : List Int} {a b c f j i : Nat} {came : Int} {r : List Int} (hj : j < os.length) (hi : os.getD j 0 = (i : Int)) (h : jn (en xs i) a = some c) (hc : (i : Int) ≠ came) (hr : pathO xs os b f (i : Int) c = some r) : restO xs os b f came a j = some ((i : Int) :: r) := by
  rw [restO, drop_cons os hj, hi, pthL, Int.toNat_natCast, h]
  rw [pathO, cm_nat] at hr
  simp only [cm_ne hc, if_false, hr]
theorem rest_no {xs : List I3} {os : List Int} {a b c f j i : Nat} {came : Int} (hj : j < os.length) (hi : os.getD j 0 = (i : Int)) (h : jn (en xs i) a = some c) (hc : (i : Int) ≠ came) (hr : pathO xs os b f (i : Int) c = none) : restO xs os b f came a j = restO xs os b f came a (j + 1) := by
  rw [restO, drop_cons os hj, hi, pthL, Int.toNat_natCast, h]
  rw [pathO, cm_nat] at hr
  simp only [cm_ne hc, if_false, hr]; rfl
theorem At.step {xs : List I3} {os : List Int} {a c f j i : Nat} {came : Int} (h : At xs os (f + 1) came a) (hj : j < os.length) (hi : os.getD j 0 = (i : Int)) (hil : i < 24) (hn : jn (en xs i) a = some c) (hc : (i : Int) ≠ came) (hc8 : c < 8) : At xs os f (i : Int) c := by
  refine ⟨?_, hc8, by omega, by omega⟩
  rw [cm_nat]
  refine h.ok.step ?_ (cm_ne hc) hn
  show (i : Int) ∈ os
  rw [← hi, List.getD_eq_getElem?_getD, List.getElem?_eq_getElem hj]; exact List.getElem_mem hj
theorem path_len (xs : List I3) (os : List Int) (b f : Nat) (came : Int) (a : Nat) : (oL (pathO xs os b f came a)).length ≤ f := by
  unfold oL pathO
  cases h : pth (en xs) os b f (cm came) a with
  | none => simp
  | some r => exact pth_len _ _ _ _ _ _ _ h
end EG
end Go.Proofs.Ytdglialjcibbbaa
