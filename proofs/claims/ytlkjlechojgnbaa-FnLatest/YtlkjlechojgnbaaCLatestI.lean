/- latestFor and LatestFor, the program's. -/
import Derived.Test.YtlkjlechojgnbaaRows
import Derived.Test.YtlkjlechojgnbaaCAgo
import Derived.Test.YtlkjlechojgnbaaCLatestS
import Derived.Test.YtlkjlechojgnbaaC6Journey
import Derived.WalkKit
import Derived.WalkSpells
import Derived.WalkLawsBesides
import Derived.Outline
import Derived.Deep.RegionHeld3
namespace Go.Proofs.Ytlkjlechojgnbaa
open Go.RowKit
namespace PN
open FL
theorem okL_ok {m : Mo} (h : okL m) : m.ok := by
  cases m with
  | fin n => simp only [okL] at h; show _ < _; omega
  | inf => trivial
  | ago => trivial
/-- Two arrays of times: the result's, and the one that is being filled. -/
structure LW (w W : World) (rb jb : Nat) (wf : Nat → Nat) : Prop where
  r : MA.Rg W rb 0 (fl fun _ => 0)
  j : MA.Rg W jb 0 (fl wf)
  ne : rb ≠ jb
  br : w.heap.size ≤ rb
  bj : w.heap.size ≤ jb
  bl : Below w.heap.size w W
theorem LW.kept {w W W' : World} {rb jb : Nat} {wf : Nat → Nat} (h : LW w W rb jb wf) (hb : Below W.heap.size W W') : LW w W' rb jb wf :=
  ⟨h.r.below hb h.r.lt, h.j.below hb h.j.lt, h.ne, h.br, h.bj, h.bl.trans (hb.mono h.bl.size)⟩
theorem LW.set {w W : World} {rb jb : Nat} {wf : Nat → Nat} (h : LW w W rb jb wf) {i : Nat} (hi : i < 8) (b : Nat) : LW w (W.setCell ⟨jb, i, none⟩ (.float .f64 b)) rb jb (put wf i b) := by
  have hp := h.j.put1 (j := i) (by rw [fl_len]; exact hi) (.float .f64 b)
  rw [Nat.zero_add, fl_set] at hp
  exact ⟨h.r.other (k' := jb) (o' := i) (vs := [.float .f64 b]) (.inl h.ne), hp, h.ne, h.br, h.bj, MA.below_cells h.bj [.float .f64 b] i W h.bl⟩
theorem LW.cell {w W : World} {rb jb : Nat} {wf : Nat → Nat} (h : LW w W rb jb wf) {i : Nat} (hi : i < 8) : W.cell? ⟨jb, i, none⟩ = some (.float .f64 (wf i)) ∧ W.frozen? ⟨jb, i, none⟩ = false := by
  have h1 := h.j.cell (fl_get wf hi)
  have h2 := h.j.free (j := i) (by rw [fl_len]; exact hi)
  rw [Nat.zero_add] at h1 h2
  exact ⟨h1, h2⟩
theorem lw_new (w : World) (t : TypeId) : LW w ((w.alloc (.cells (fl fun _ => 0).toArray t)).alloc (.cells (fl fun _ => 0).toArray t)) w.heap.size (w.heap.size + 1) (fun _ => 0) :=
  ⟨(MA.Rg.new w _ t).alloc _, MA.Rg.new' _ _ t _ (by simp), by omega, Nat.le_refl _, by omega, ((Below.refl _ w).alloc (Nat.le_refl _) _).alloc (by simp) _⟩
def mb (s : Nat → Mo) : Nat → Nat := fun i => (s i).b
theorem mb_put (s : Nat → Mo) (i : Nat) (m : Mo) : put (mb s) i m.b = mb (put s i m) := by
  funext p; simp only [mb, put]; split <;> rfl
def upA (k : Nat) : Nat → Nat := fun i => if i < k then Mo.ago.b else 0
theorem upA_put (k : Nat) : put (upA k) k Mo.ago.b = upA (k + 1) := by
  funext p
  simp only [put, upA]
  by_cases e : p = k
  · subst e; simp
  · rw [if_neg e]
    by_cases h : p < k
    · rw [if_pos h, if_pos (by omega)]
    · rw [if_neg h, if_neg (by omega)]
theorem upA_all : fl (upA 8) = fl (mb fun _ => .ago) := by
  unfold fl
  refine List.map_congr_left fun p hp => ?_
  have hp' : p < 8 := by simpa using hp
  have e : upA 8 p = mb (fun _ => Mo.ago) p := by simp only [upA, mb]; exact if_pos hp'
  rw [e]
def wL : Mo → Nat
  | .fin n => (2000 - n).toNat
  | _ => 2001
def nu (f : Nat → Mo) : Nat := wL (f 0) + wL (f 1) + wL (f 2) + wL (f 3) + wL (f 4) + wL (f 5) + wL (f 6) + wL (f 7)
theorem nu_put {f : Nat → Mo} {i : Nat} {m : Mo} (hi : i < 8) (h : wL m < wL (f i)) : nu (put f i m) < nu f := by
  match i, hi with
  | 0, _ => simp [nu, put] at *; omega
  | 1, _ => simp [nu, put] at *; omega
  | 2, _ => simp [nu, put] at *; omega
  | 3, _ => simp [nu, put] at *; omega
  | 4, _ => simp [nu, put] at *; omega
  | 5, _ => simp [nu, put] at *; omega
  | 6, _ => simp [nu, put] at *; omega
  | 7, _ => simp [nu, put] at *; omega
def wG : Option Value → Nat
  | some (.float _ b) => match (FloatKind.f64.decode b).toInt .zero with
    | some n => (2000 - n).toNat
    | none => 2001
  | _ => 0
def ML (q : Nat) (W : World) : Nat := wG (W.cell? ⟨q, 0, none⟩) + wG (W.cell? ⟨q, 1, none⟩) + wG (W.cell? ⟨q, 2, none⟩) + wG (W.cell? ⟨q, 3, none⟩) + wG (W.cell? ⟨q, 4, none⟩) + wG (W.cell? ⟨q, 5, none⟩) + wG (W.cell? ⟨q, 6, none⟩) + wG (W.cell? ⟨q, 7, none⟩)
theorem wG_b {m : Mo} (h : okL m) : wG (some (.float .f64 m.b)) = wL m := by
  cases m with
  | fin n =>
    simp only [okL] at h
    have := toInt_bits n (by omega)
    simp only [wG, Mo.b, wL, this]
  | ago => decide
  | inf => exact absurd h id
theorem LW.nu {w W : World} {rb jb : Nat} {s : Nat → Mo} (h : LW w W rb jb (mb s)) (hs : ∀ v, okL (s v)) : ML jb W = nu s := by
  unfold ML PN.nu
  rw [(h.cell (i := 0) (by omega)).1, (h.cell (i := 1) (by omega)).1, (h.cell (i := 2) (by omega)).1, (h.cell (i := 3) (by omega)).1, (h.cell (i := 4) (by omega)).1, (h.cell (i := 5) (by omega)).1, (h.cell (i := 6) (by omega)).1, (h.cell (i := 7) (by omega)).1]
  simp only [mb]
  rw [wG_b (hs 0), wG_b (hs 1), wG_b (hs 2), wG_b (hs 3), wG_b (hs 4), wG_b (hs 5), wG_b (hs 6), wG_b (hs 7)]
/-- A time that is later counts less. -/
theorem wL_lt {m m' : Mo} (hm : okL m) (hm' : okL m') (h : m.cmp m' = .gt) : wL m < wL m' := by
  cases m with
  | inf => exact absurd hm id
  | ago => cases m' <;> cases h
  | fin a =>
    cases m' with
    | inf => cases h
    | ago => simp only [okL] at hm; simp only [wL]; omega
    | fin b =>
      have : b < a := by
        by_cases e : b < a
        · exact e
        · by_cases e2 : a = b
          · subst e2; rw [cmp_same] at h; cases h
          · rw [cmp_lt (by omega)] at h; cases h
      simp only [okL] at hm hm'; simp only [wL]; omega
theorem gt_fin {m m' : Mo} (hm : okL m) (h : m.cmp m' = .gt) : ∃ l, m = .fin l := by
  cases m with
  | fin l => exact ⟨l, rfl⟩
  | inf => exact absurd hm id
  | ago => cases m' <;> cases h
theorem min_ago (b : Int) : Mo.ago.minM (.fin b) = .ago := rfl
theorem okL_put {s : Nat → Mo} (hs : ∀ v, okL (s v)) {i : Nat} {m : Mo} (hm : okL m) : ∀ v, okL (put s i m v) := by
  intro v; simp only [put]; split
  · exact hm
  · exact hs v
end PN
set_option maxHeartbeats 800000 in
set_option maxRecDepth 100000 in
theorem departure_any (c : I5) (m : FL.Mo) (w : World) (hc : PN.Good c) (hm : PN.okL m) : Calls Try.prog 54 #[c.v, .float .f64 m.b] w fun e w' => e = .returned (.float .f64 (PN.dep c m).b) ∧ Below w.heap.size w w' := by
  have LA : Hid (∀ W : World, Calls Try.prog 53 #[] W fun e w' => e = .returned (.float .f64 FL.Mo.ago.b) ∧ W = w') := fun W => longAgo_any W
  have hB : ∀ o, Below w.heap.size w (w.alloc o) := fun o => (Below.refl _ w).alloc (Nat.le_refl _) o
  obtain ⟨f0, f1, t0, t1, ne, e0, e1, s0, s1, d0, d1⟩ := hc
  have o2 : (FL.Mo.fin c.a2).ok := by show _ < _; omega
  have o3 : (FL.Mo.fin (c.a3 - 1)).ok := by show _ < _; omega
  cases m with
  | inf => exact absurd hm id
  | ago =>
    have SB : ∀ t (W : World), (binOp .sub t (.float .f64 FL.Mo.ago.b) (.float .f64 (floatOfInt .f64 c.a4))).run Try.prog W = .ok (.float .f64 FL.Mo.ago.b) W := fun t W => FL.sub_ago t W _ (by omega)
    have MN : ∀ ts t (W : World), (Builtin.min_ ts t #[.float .f64 FL.Mo.ago.b, .float .f64 (floatOfInt .f64 (c.a3 - 1))]).run Try.prog W = .ok (.float .f64 FL.Mo.ago.b) W := fun ts t W => FL.min_run (P := Try.prog) ts t W .ago (.fin (c.a3 - 1)) trivial o3
    have o1 : FloatKind.f64.format.order FL.Mo.ago.b (floatOfInt .f64 c.a2) = some .lt := FL.order_is .ago (.fin c.a2) trivial o2
    show Calls _ _ _ _ fun e w' => e = .returned (.float .f64 FL.Mo.ago.b) ∧ _
    obtain ⟨x0, x1, x2, x3, x4⟩ := c
    simp only at *
    clear o2 o3 hm
    generalize FL.Mo.ago.b = z at *
    go_enter Try.func54, Try.ntmps54
    go_wp2_with fail
    refine (LA.out _).mono ?_
    rintro e w' ⟨rfl, rfl⟩
    go_wp2
    go_ret
    exact ⟨rfl, hB _⟩
  | fin b =>
    obtain ⟨b0, b1⟩ : 0 ≤ b ∧ b ≤ 2000 := hm
    have SB : ∀ t (W : World), (binOp .sub t (.float .f64 (floatOfInt .f64 b)) (.float .f64 (floatOfInt .f64 c.a4))).run Try.prog W = .ok (.float .f64 (floatOfInt .f64 (b - c.a4))) W := fun t W => FL.sub_run t W _ _ (by omega) (by omega)
    have MN : ∀ ts t (W : World), (Builtin.min_ ts t #[.float .f64 (floatOfInt .f64 (b - c.a4)), .float .f64 (floatOfInt .f64 (c.a3 - 1))]).run Try.prog W = .ok (.float .f64 (floatOfInt .f64 (min (b - c.a4) (c.a3 - 1)))) W := fun ts t W => by
      have := FL.min_run (P := Try.prog) ts t W (.fin (b - c.a4)) (.fin (c.a3 - 1)) (by show _ < _; omega) o3
      rw [FL.min_fin] at this; exact this
    by_cases hl : min (b - c.a4) (c.a3 - 1) < c.a2
    · have ed : PN.dep c (.fin b) = .ago := by simp only [PN.dep]; exact if_pos hl
      rw [ed]
      have o1 : FloatKind.f64.format.order (floatOfInt .f64 (min (b - c.a4) (c.a3 - 1))) (floatOfInt .f64 c.a2) = some .lt := by
        have := FL.order_is (.fin (min (b - c.a4) (c.a3 - 1))) (.fin c.a2) (by show _ < _; omega) o2
        rw [FL.cmp_lt hl] at this; exact this
      show Calls _ _ #[_, .float .f64 (floatOfInt .f64 b)] _ _
      obtain ⟨x0, x1, x2, x3, x4⟩ := c
      simp only at *
      clear o2 o3 ed hl
      generalize min (b - x4) (x3 - 1) = r at *
      generalize FL.Mo.ago.b = z at *
      go_enter Try.func54, Try.ntmps54
      go_wp2_with fail
      refine (LA.out _).mono ?_
      rintro e w' ⟨rfl, rfl⟩
      go_wp2
      go_ret
      exact ⟨rfl, hB _⟩
    · have ed : PN.dep c (.fin b) = .fin (min (b - c.a4) (c.a3 - 1)) := by simp only [PN.dep]; exact if_neg hl
      rw [ed]
      have o1 : FloatKind.f64.format.order (floatOfInt .f64 (min (b - c.a4) (c.a3 - 1))) (floatOfInt .f64 c.a2) = some .gt ∨ FloatKind.f64.format.order (floatOfInt .f64 (min (b - c.a4) (c.a3 - 1))) (floatOfInt .f64 c.a2) = some .eq := by
        have := FL.order_is (.fin (min (b - c.a4) (c.a3 - 1))) (.fin c.a2) (by show _ < _; omega) o2
        rcases PN.fin_ge hl with h | h
        · rw [h] at this; exact .inl this
        · rw [h] at this; exact .inr this
      show Calls _ _ #[_, .float .f64 (floatOfInt .f64 b)] _ fun e w' => e = .returned (.float .f64 (floatOfInt .f64 (min (b - c.a4) (c.a3 - 1)))) ∧ _
      obtain ⟨x0, x1, x2, x3, x4⟩ := c
      simp only at *
      clear o2 o3 ed hl LA
      generalize min (b - x4) (x3 - 1) = r at *
      rcases o1 with o1 | o1
      all_goals
        go_enter Try.func54, Try.ntmps54
        go_wp2
        go_ret
        exact ⟨rfl, hB _⟩
end Go.Proofs.Ytlkjlechojgnbaa
