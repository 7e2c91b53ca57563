/- All the ways, one after another: plain facts, over whatever program. -/
import Derived.Test.YtpabhjnpbnabiaaMWA
namespace Go.Proofs.Ytpabhjnpbnabiaa
namespace LK
open Go.RowKit
/-- A flow of m ways. -/
structure Flw (xs : List I2) (f t : Int) (m : Nat) (fs : List Int) : Prop where
  len : fs.length = xs.length
  one : ∀ k, k < xs.length → fs.getD k 0 = 0 ∨ fs.getD k 0 = 1
  net : ∀ v, v ≠ t → FL.outUp (pip xs) fs v xs.length = if v = f then (m : Int) else 0
theorem Flw.gone {xs : List I2} {f t : Int} {m : Nat} {fs : List Int} (h : Flw xs f t m fs) (hm : 1 ≤ m) : Gone xs f t (m - 1) ⟨f, fs, []⟩ := by
  refine ⟨h.len, h.one, fun v hv => ?_⟩
  rw [h.net v hv]
  show _ = _ + (if v = f then 1 else 0)
  by_cases e : v = f
  · rw [if_pos e, if_pos e, if_pos e]; omega
  · rw [if_neg e, if_neg e, if_neg e]; rfl
theorem atW_end {xs : List I2} {f t : Int} {r : Nat} {fs : List Int} (hok : FL.okP (pip xs) = true) : ∀ (d i : Nat) (s : Wk), AtW xs f t r fs i s → cntUp s.fs xs.length ≤ d → ∃ i' s', AtW xs f t r fs i' s' ∧ s'.pos = t := by
  intro d
  induction d with
  | zero =>
    intro i s h hd
    by_cases hp : s.pos = t
    · exact ⟨i, s, h, hp⟩
    · obtain ⟨k, hk⟩ := h.go.some hp
      have := (h.step hok hp hk).2
      omega
  | succ d ih =>
    intro i s h hd
    by_cases hp : s.pos = t
    · exact ⟨i, s, h, hp⟩
    · obtain ⟨k, hk⟩ := h.go.some hp
      have n := h.step hok hp hk
      exact ih _ _ n.1 (by have := n.2; show cntUp (s.fs.set k 0) xs.length ≤ d; omega)
theorem fin_end {xs : List I2} {f t : Int} {r : Nat} {fs : List Int} (hok : FL.okP (pip xs) = true) (h : Gone xs f t r ⟨f, fs, []⟩) : ∃ i, AtW xs f t r fs i (fin xs f t fs) ∧ (fin xs f t fs).pos = t := by
  obtain ⟨i, s, h1, h2⟩ := atW_end hok _ 0 _ (AtW.start h) (Nat.le_refl _)
  have e := h1.fin h2
  rw [e]; exact ⟨i, h1, h2⟩
theorem Flw.next {xs : List I2} {f t : Int} {m : Nat} {fs : List Int} (hok : FL.okP (pip xs) = true) (h : Flw xs f t m fs) (hm : 1 ≤ m) : Flw xs f t (m - 1) (fin xs f t fs).fs := by
  obtain ⟨i, h1, h2⟩ := fin_end hok (h.gone hm)
  refine ⟨h1.go.len, h1.go.one, fun v hv => ?_⟩
  rw [h1.go.net v hv, h2, if_neg hv]; omega
theorem strt_len (xs : List I2) : ∀ (n : Nat) (w : List Int), w.length = n → (strt xs w).length ≤ n := by
  intro n
  induction n using Nat.strongRecOn with
  | ind n ih =>
    intro w hn
    cases w with
    | nil => rw [strt_nil]; simp
    | cons y w =>
      obtain ⟨z, v, e⟩ := lastOf_some xs y w
      have hv := lastOf_len e
      rw [strt_cons e]
      have := ih v.length (by omega) v rfl
      simp only [List.length_cons] at hn hv ⊢
      omega
theorem way_len {xs : List I2} {f t : Int} {m : Nat} {fs : List Int} (hok : FL.okP (pip xs) = true) (h : Flw xs f t m fs) (hm : 1 ≤ m) : (strt xs (fin xs f t fs).way).length ≤ 20 := by
  obtain ⟨i, h1, h2⟩ := fin_end hok (h.gone hm)
  have := strt_len xs _ (fin xs f t fs).way rfl
  have := h1.len
  have := h1.up
  have := ((FL.okP_iff _).1 hok).1
  rw [pip_len] at this
  omega
theorem ways_flw {xs : List I2} {f t : Int} {m : Nat} {fs : List Int} (hok : FL.okP (pip xs) = true) (h : Flw xs f t m fs) : ∀ i, i ≤ m → Flw xs f t (m - i) (waysUp xs f t fs i).2
  | 0, _ => h
  | i + 1, hi => by
    have g := ways_flw hok h i (by omega)
    have n := g.next hok (by omega)
    rw [waysUp]
    rwa [show m - i - 1 = m - (i + 1) from by omega] at n
theorem ways_tot {xs : List I2} {f t : Int} {m : Nat} {fs : List Int} (hok : FL.okP (pip xs) = true) (h : Flw xs f t m fs) : ∀ i, i ≤ m → NR.tot (waysUp xs f t fs i).1 ≤ 20 * i
  | 0, _ => by simp [waysUp, NR.tot]
  | i + 1, hi => by
    have g := ways_tot hok h i (by omega)
    have l := way_len hok (ways_flw hok h i (by omega)) (by omega)
    rw [waysUp, NR.tot_app, NR.tot_one]
    omega
theorem maxF_flw {xs : List I2} {f t : Int} (A : FL.Ask (pip xs) f t) : Flw xs f t (FL.outUp (pip xs) (FL.maxF (pip xs) f t) f xs.length).toNat (FL.maxF (pip xs) f t) := by
  have o := FL.maxF_ok A
  have c := FL.maxF_calm A
  rw [pip_len] at o c
  refine ⟨o.1, fun k hk => ?_, fun v hv => ?_⟩
  · have := o.2 k hk
    rw [pip_at xs k hk] at this
    simp only [pip1] at this
    omega
  · by_cases e : v = f
    · rw [if_pos e, e]; have := c.2; omega
    · rw [if_neg e]; exact c.1 v e hv
/-- What is answered. -/
noncomputable def wsL (xs : List I2) (f t : Int) : List (List Int) := if FL.ask (pip xs) f t = true then (waysUp xs f t (FL.maxF (pip xs) f t) (FL.outUp (pip xs) (FL.maxF (pip xs) f t) f xs.length).toNat).1 else []
theorem many_le {xs : List I2} {f t : Int} (A : FL.Ask (pip xs) f t) : (FL.outUp (pip xs) (FL.maxF (pip xs) f t) f xs.length).toNat ≤ 2000 := by
  have o := FL.maxF_ok A
  have w := FL.outUp_within (n := f) A.ok o.2 xs.length (by rw [pip_len]; omega)
  have := A.len
  rw [pip_len] at this
  omega
theorem wsL_len (xs : List I2) (f t : Int) : (wsL xs f t).length ≤ 1048576 := by
  unfold wsL; split
  · rename_i h
    rw [ways_len]
    have := many_le (FL.ask_is h); omega
  · simp
theorem wsL_tot (xs : List I2) (f t : Int) : NR.tot (wsL xs f t) ≤ 1048576 := by
  unfold wsL; split
  · rename_i h
    have := ways_tot (FL.ask_is h).ok (maxF_flw (FL.ask_is h)) _ (Nat.le_refl _)
    have := many_le (FL.ask_is h); omega
  · simp [NR.tot]
structure WsC (xs : List I2) (f t : Int) (is : Bool) (L : List (List Int)) (F : List Int) (N : Int) : Prop where
  no : is = false → L = []
  yes : is = true → FL.okP (pip xs) = true ∧ xs.length ≤ 20 ∧ Flw xs f t N.toNat F ∧ L = (waysUp xs f t F N.toNat).1 ∧ 0 ≤ N ∧ N ≤ 2000 ∧ f ≠ t
theorem wsC (xs : List I2) (f t : Int) : WsC xs f t (FL.ask (pip xs) f t) (wsL xs f t) (FL.maxF (pip xs) f t) (FL.outUp (pip xs) (FL.maxF (pip xs) f t) f xs.length) := by
  constructor
  · intro h; simp [wsL, h]
  · intro h
    have A := FL.ask_is h
    have h1 := A.len
    rw [pip_len] at h1
    have c := (FL.maxF_calm A).2
    rw [pip_len] at c
    have m := many_le A
    exact ⟨A.ok, h1, maxF_flw A, by simp [wsL, h], c, by omega, A.ne⟩
/-- The ways that were found, and what is not yet filled. -/
structure Ws (T : TypeId) (w : World) (B go N : Nat) (ds : List (List Int)) (A : Nat → Option Addr) (C : Nat → Nat) : Prop where
  out : w.ownsRow B T 1 (.slice (some ⟨go, 0, none⟩) N N) N (NR.hd ds A C ++ List.replicate (N - ds.length) (.slice none 0 0))
  row : ∀ j, j < ds.length → NR.In w B (A j) (NR.rw_ ds j)
  far : ∀ i j, i < j → j < ds.length → NR.rw_ ds i ≠ [] → NR.rw_ ds j ≠ [] → A i ≠ A j
theorem Ws.own {T : TypeId} {w : World} {B go N : Nat} {ds : List (List Int)} {A : Nat → Option Addr} {C : Nat → Nat} (h : Ws T w B go N ds A C) (hN : ds.length = N) : NR.Own T w B (.slice (some ⟨go, 0, none⟩) N N) ds A C := by
  refine ⟨?_, h.row, h.far⟩
  have := h.out
  rw [hN, Nat.sub_self, List.replicate_zero, List.append_nil] at this
  rw [hN]; exact this
theorem Ws.only {T : TypeId} {w w' : World} {B go N p : Nat} {ds : List (List Int)} {A : Nat → Option Addr} {C : Nat → Nat} (h : Ws T w B go N ds A C) (ho : MC.Only p w w') (hp : p < B) : Ws T w' B go N ds A C := by
  refine ⟨NR.own_only h.out ho (fun e => by have := (h.out.lt _ e).1; omega), fun j hj => ?_, h.far⟩
  by_cases e : NR.rw_ ds j = []
  · rw [e]; exact .nil _ _ _
  · refine (h.row j hj).only ho (fun ea => ?_)
    have r := h.row j hj
    rw [ea] at r
    have := (r.lt e).1; omega
theorem in_ne {T : TypeId} (hT : T ≠ 3) {w : World} {B go N : Nat} {a : Option Addr} {l : List Int} {vs : List Value} (h : NR.In w B a l) (hl : l ≠ []) (ho : w.ownsRow B T 1 (.slice (some ⟨go, 0, none⟩) N N) N vs) : a ≠ some ⟨go, 0, none⟩ := by
  intro ea
  rcases h.is with e | ⟨g, m, us, ha, hw, _⟩
  · exact hl e
  · rw [ea] at ha
    simp only [Option.some.injEq, Addr.mk.injEq, and_true] at ha
    subst ha
    rcases hw.2 with ⟨h', _⟩ | ⟨g3, cap3, cur3, hv3, _, hg3, _⟩
    · cases h'
    · simp only [Value.slice.injEq, Option.some.injEq, Addr.mk.injEq, and_true] at hv3
      obtain ⟨rfl, _⟩ := hv3
      rcases ho.2 with ⟨h', _⟩ | ⟨g4, cap4, cur4, hv4, _, hg4, _⟩
      · cases h'
      · simp only [Value.slice.injEq, Option.some.injEq, Addr.mk.injEq, and_true] at hv4
        obtain ⟨rfl, _⟩ := hv4
        rw [hg4] at hg3
        simp only [Option.some.injEq, Obj.cells.injEq] at hg3
        exact hT hg3.2.1
theorem Ws.put {T : TypeId} (hT : T ≠ 3) {w : World} {B go N X : Nat} {ds : List (List Int)} {l : List Int} {A : Nat → Option Addr} {C : Nat → Nat} {a : Option Addr} {c : Nat} (h : Ws T w B go N ds A C) (hd : ds.length < N) (hin : NR.In w X a l) (hB : B ≤ X) (hold : ∀ j, j < ds.length → NR.rw_ ds j ≠ [] → ∀ g, A j = some ⟨g, 0, none⟩ → g < X) : Ws T (w.setCell ⟨go, ds.length, none⟩ (.slice a l.length c)) B go N (ds ++ [l]) (NR.setF A ds.length a) (NR.setF C ds.length c) := by
  have st := h.out.stored ds.length (.slice a l.length c)
  have on := (MC.Only.refl go w).setCell ds.length (.slice a l.length c)
  have hin' := hin.mono hB
  refine ⟨?_, fun j hj => ?_, fun i j hij hj hi0 hj0 => ?_⟩
  · have := st.1
    rw [List.set_append_right _ _ (by rw [NR.hd_len]; omega), NR.hd_len, Nat.sub_self, show N - ds.length = (N - (ds.length + 1)) + 1 from by omega, List.replicate_succ, List.set_cons_zero] at this
    rw [NR.hd_snoc, List.append_assoc, List.length_append]
    exact this
  · rw [List.length_append, List.length_singleton] at hj
    by_cases e : j = ds.length
    · subst e
      rw [NR.rw_snoc_eq, NR.setF, if_pos rfl]
      by_cases el : l = []
      · rw [el]; exact .nil _ _ _
      · exact hin'.only on (in_ne hT hin' el h.out)
    · rw [NR.rw_snoc_lt ds l (by omega), NR.setF, if_neg e]
      by_cases el : NR.rw_ ds j = []
      · rw [el]; exact .nil _ _ _
      · exact (h.row j (by omega)).only on (in_ne hT (h.row j (by omega)) el h.out)
  · rw [List.length_append, List.length_singleton] at hj
    have hi : i < ds.length := by omega
    rw [NR.rw_snoc_lt ds l hi] at hi0
    rw [show NR.setF A ds.length a i = A i from by rw [NR.setF, if_neg (by omega)]]
    by_cases e : j = ds.length
    · subst e
      rw [NR.rw_snoc_eq] at hj0
      rw [NR.setF, if_pos rfl]
      intro ea
      obtain ⟨g, hg⟩ := (h.row i hi).some hi0
      have h1 := hold i hi hi0 g hg
      rw [hg] at ea
      rw [← ea] at hin
      have := (hin.lt hj0).1
      omega
    · rw [NR.rw_snoc_lt ds l (by omega)] at hj0
      rw [NR.setF, if_neg e]; exact h.far i j hij (by omega) hi0 hj0
theorem Ws.lt {T : TypeId} {w : World} {B go N : Nat} {ds : List (List Int)} {A : Nat → Option Addr} {C : Nat → Nat} (h : Ws T w B go N ds A C) : ∀ j, j < ds.length → NR.rw_ ds j ≠ [] → ∀ g, A j = some ⟨g, 0, none⟩ → g < w.heap.size := fun j hj h0 g hg => by
  have r := h.row j hj
  rw [hg] at r
  exact (r.lt h0).2
end LK
end Go.Proofs.Ytpabhjnpbnabiaa
