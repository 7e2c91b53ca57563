import Derived.Test.YtjplabldiheggaaM6W
import Derived.Test.YtjplabldiheggaaMA
import Derived.Test.YtjplabldiheggaaRows
import Derived.Test.YtjplabldiheggaaCFloatN
import Derived.Test.YtjplabldiheggaaCPlan
import Derived.WalkKit
import Derived.WalkSpells
import Derived.WalkLawsBesides
import Derived.Outline
import Derived.Deep.RegionHeld3
/- A journey's cells: plain facts. -/
namespace Go.Proofs.Ytjplabldiheggaa
open Go.RowKit
namespace PN
def fl (wf : Nat → Nat) : List Value := (List.range 8).map fun i => .float .f64 (wf i)
def il (lf : Nat → Int) : List Value := (List.range 8).map fun i => .int .i64 (lf i)
def jc (f : Int) (wf : Nat → Nat) (lf : Nat → Int) : List Value := .int .i64 f :: (fl wf ++ il lf)
theorem fl_len (wf : Nat → Nat) : (fl wf).length = 8 := by simp [fl]
theorem il_len (lf : Nat → Int) : (il lf).length = 8 := by simp [il]
theorem jc_len (f : Int) (wf : Nat → Nat) (lf : Nat → Int) : (jc f wf lf).length = 17 := by simp [jc, fl_len, il_len]
theorem fl_get (wf : Nat → Nat) {i : Nat} (h : i < 8) : (fl wf)[i]? = some (.float .f64 (wf i)) := by simp [fl, h]
theorem il_get (lf : Nat → Int) {i : Nat} (h : i < 8) : (il lf)[i]? = some (.int .i64 (lf i)) := by simp [il, h]
theorem jc_f (f : Int) (wf : Nat → Nat) (lf : Nat → Int) : (jc f wf lf)[0]? = some (.int .i64 f) := rfl
theorem jc_w (f : Int) (wf : Nat → Nat) (lf : Nat → Int) {i : Nat} (h : i < 8) : (jc f wf lf)[1 + i]? = some (.float .f64 (wf i)) := by
  unfold jc
  rw [Nat.add_comm, List.getElem?_cons_succ, List.getElem?_append_left (by rw [fl_len]; exact h), fl_get wf h]
theorem jc_l (f : Int) (wf : Nat → Nat) (lf : Nat → Int) {i : Nat} (h : i < 8) : (jc f wf lf)[9 + i]? = some (.int .i64 (lf i)) := by
  unfold jc
  rw [show 9 + i = (8 + i) + 1 from by omega, List.getElem?_cons_succ, List.getElem?_append_right (by rw [fl_len]; omega), fl_len, show 8 + i - 8 = i from by omega, il_get lf h]
theorem fl_set (wf : Nat → Nat) {i : Nat} (b : Nat) : (fl wf).set i (.float .f64 b) = fl (put wf i b) := by
  unfold fl
  rw [MA.range_set]
  refine List.map_congr_left fun p _ => ?_
  unfold put; split <;> rfl
theorem il_set (lf : Nat → Int) {i : Nat} (b : Int) : (il lf).set i (.int .i64 b) = il (put lf i b) := by
  unfold il
  rw [MA.range_set]
  refine List.map_congr_left fun p _ => ?_
  unfold put; split <;> rfl
theorem jc_setw (f : Int) (wf : Nat → Nat) (lf : Nat → Int) {i : Nat} (h : i < 8) (b : Nat) : (jc f wf lf).set (1 + i) (.float .f64 b) = jc f (put wf i b) lf := by
  unfold jc
  rw [Nat.add_comm, List.set_cons_succ, List.set_append, if_pos (by rw [fl_len]; exact h), fl_set]
theorem jc_setl (f : Int) (wf : Nat → Nat) (lf : Nat → Int) {i : Nat} (b : Int) : (jc f wf lf).set (9 + i) (.int .i64 b) = jc f wf (put lf i b) := by
  unfold jc
  rw [show 9 + i = (8 + i) + 1 from by omega, List.set_cons_succ, List.set_append, if_neg (by rw [fl_len]; omega), fl_len, show 8 + i - 8 = i from by omega, il_set]
theorem fl_one (wf : Nat → Nat) : ∀ v ∈ fl wf, v.oneCell' = true := by
  intro v hv; simp only [fl, List.mem_map] at hv; obtain ⟨i, _, rfl⟩ := hv; rfl
theorem il_one (lf : Nat → Int) : ∀ v ∈ il lf, v.oneCell' = true := by
  intro v hv; simp only [il, List.mem_map] at hv; obtain ⟨i, _, rfl⟩ := hv; rfl
theorem jc_one (f : Int) (wf : Nat → Nat) (lf : Nat → Int) : ∀ v ∈ jc f wf lf, v.oneCell' = true := by
  intro v hv
  simp only [jc, List.mem_cons, List.mem_append] at hv
  rcases hv with rfl | h | h
  · rfl
  · exact fl_one wf v h
  · exact il_one lf v h
theorem jc_ext {f : Int} {wf wf' : Nat → Nat} {lf lf' : Nat → Int} (h1 : ∀ i, i < 8 → wf i = wf' i) (h2 : ∀ i, i < 8 → lf i = lf' i) : jc f wf lf = jc f wf' lf' := by
  unfold jc fl il
  congr 1
  congr 1
  · exact List.map_congr_left fun p hp => by rw [h1 p (by simpa using hp)]
  · exact List.map_congr_left fun p hp => by rw [h2 p (by simpa using hp)]
/-- The bits of the times, the numbers of the contacts. -/
def wb (s : St) : Nat → Nat := fun i => (s.wh i).b
def lb (s : St) : Nat → Int := fun i => kI (s.la i)
theorem wb_put (s : St) (i : Nat) (m : FL.Mo) (la : Nat → Option Nat) : put (wb s) i m.b = wb ⟨put s.wh i m, la⟩ := by
  funext p; simp only [wb, put]; split <;> rfl
theorem lb_put (s : St) (i : Nat) (k : Nat) (wh : Nat → FL.Mo) : put (lb s) i (k : Int) = lb ⟨wh, put s.la i (some k)⟩ := by
  funext p; simp only [lb, put]; split <;> rfl
/-- A journey that lies in memory. -/
abbrev JR (W : World) (q : Nat) (f : Int) (s : St) : Prop := MA.Rg W q 0 (jc f (wb s) (lb s))
theorem rg_w {W : World} {q : Nat} {f : Int} {wf : Nat → Nat} {lf : Nat → Int} (h : MA.Rg W q 0 (jc f wf lf)) {i : Nat} (hi : i < 8) : W.cell? ⟨q, 1 + i, none⟩ = some (.float .f64 (wf i)) ∧ W.frozen? ⟨q, 1 + i, none⟩ = false := by
  have h1 := h.cell (jc_w f wf lf hi)
  have h2 := h.free (j := 1 + i) (by rw [jc_len]; omega)
  rw [Nat.zero_add] at h1 h2
  exact ⟨h1, h2⟩
theorem rg_l {W : World} {q : Nat} {f : Int} {wf : Nat → Nat} {lf : Nat → Int} (h : MA.Rg W q 0 (jc f wf lf)) {i : Nat} (hi : i < 8) : W.cell? ⟨q, 9 + i, none⟩ = some (.int .i64 (lf i)) ∧ W.frozen? ⟨q, 9 + i, none⟩ = false := by
  have h1 := h.cell (jc_l f wf lf hi)
  have h2 := h.free (j := 9 + i) (by rw [jc_len]; omega)
  rw [Nat.zero_add] at h1 h2
  exact ⟨h1, h2⟩
theorem rg_setw {W : World} {q : Nat} {f : Int} {wf : Nat → Nat} {lf : Nat → Int} (h : MA.Rg W q 0 (jc f wf lf)) {i : Nat} (hi : i < 8) (b : Nat) : MA.Rg (W.setCell ⟨q, 1 + i, none⟩ (.float .f64 b)) q 0 (jc f (put wf i b) lf) := by
  have := h.put1 (j := 1 + i) (by rw [jc_len]; omega) (.float .f64 b)
  rw [Nat.zero_add, jc_setw _ _ _ hi] at this; exact this
theorem rg_setl {W : World} {q : Nat} {f : Int} {wf : Nat → Nat} {lf : Nat → Int} (h : MA.Rg W q 0 (jc f wf lf)) {i : Nat} (hi : i < 8) (b : Int) : MA.Rg (W.setCell ⟨q, 9 + i, none⟩ (.int .i64 b)) q 0 (jc f wf (put lf i b)) := by
  have := h.put1 (j := 9 + i) (by rw [jc_len]; omega) (.int .i64 b)
  rw [Nat.zero_add, jc_setl] at this; exact this
/-- The measure of the search, read out of a journey's cells. -/
def wF : Option Value → Nat
  | some (.float _ b) => match (FloatKind.f64.decode b).toInt .zero with
    | some n => n.toNat
    | none => 1048577
  | _ => 0
def MJ (q : Nat) (W : World) : Nat := wF (W.cell? ⟨q, 1 + 0, none⟩) + wF (W.cell? ⟨q, 1 + 1, none⟩) + wF (W.cell? ⟨q, 1 + 2, none⟩) + wF (W.cell? ⟨q, 1 + 3, none⟩) + wF (W.cell? ⟨q, 1 + 4, none⟩) + wF (W.cell? ⟨q, 1 + 5, none⟩) + wF (W.cell? ⟨q, 1 + 6, none⟩) + wF (W.cell? ⟨q, 1 + 7, none⟩)
theorem wF_b {m : FL.Mo} (h : okT m) : wF (some (.float .f64 m.b)) = wt m := by
  cases m with
  | fin n =>
    simp only [okT] at h
    have := FL.toInt_bits n (by omega)
    simp only [wF, FL.Mo.b, wt, this]
  | inf => decide
  | ago => exact absurd h id
theorem JR.mu {W : World} {q : Nat} {f : Int} {s : St} (h : JR W q f s) (hs : okS s.wh) : MJ q W = mu s.wh := by
  unfold MJ PN.mu
  rw [(rg_w h (i := 0) (by omega)).1, (rg_w h (i := 1) (by omega)).1, (rg_w h (i := 2) (by omega)).1, (rg_w h (i := 3) (by omega)).1, (rg_w h (i := 4) (by omega)).1, (rg_w h (i := 5) (by omega)).1, (rg_w h (i := 6) (by omega)).1, (rg_w h (i := 7) (by omega)).1]
  simp only [wb]
  rw [wF_b (hs 0), wF_b (hs 1), wF_b (hs 2), wF_b (hs 3), wF_b (hs 4), wF_b (hs 5), wF_b (hs 6), wF_b (hs 7)]
/-- The best so far, as the program has it. -/
def BJ : Option (Nat × Int) → Int → FL.Mo → Prop
  | none, b, m => b = 0 ∧ m = .inf
  | some (k, u), b, m => b = k ∧ m = .fin u
end PN
end Go.Proofs.Ytjplabldiheggaa

/- (journey).next, the program's. -/
namespace Go.Proofs.Ytjplabldiheggaa
open Go.RowKit
namespace PN
open FL
theorem early_lt {t : Int} {m : Mo} (h : early t m = true) : (Mo.fin t).cmp m = .lt := by
  cases m with
  | fin u => exact cmp_lt (by simpa [early] using h)
  | inf => rfl
  | ago => cases h
theorem late_ge {t : Int} {m : Mo} (hm : okT m) (h : early t m = false) : (Mo.fin t).cmp m = .gt ∨ (Mo.fin t).cmp m = .eq := by
  cases m with
  | fin u =>
    have : u ≤ t := by simpa [early] using h
    by_cases e : t = u
    · subst e; exact .inr (cmp_same t)
    · exact .inl (cmp_gt (by omega))
  | inf => cases h
  | ago => exact absurd hm id
theorem inf_ge {m : Mo} (hm : okT m) : Mo.inf.cmp m = .gt ∨ Mo.inf.cmp m = .eq := by
  cases m with
  | fin u => exact .inl rfl
  | inf => exact .inr rfl
  | ago => exact absurd hm id
theorem fin_ge {t u : Int} (h : ¬ t < u) : (Mo.fin t).cmp (.fin u) = .gt ∨ (Mo.fin t).cmp (.fin u) = .eq := by
  by_cases e : t = u
  · subst e; exact .inr (cmp_same t)
  · exact .inl (cmp_gt (by omega))
/-- What next tells. -/
def nextN : Option (Nat × Int) → Int
  | none => 0
  | some (k, _) => k
end PN
set_option linter.unusedSimpArgs false in
set_option maxHeartbeats 3200000 in
set_option maxRecDepth 100000 in
theorem next6_any (a : Option Addr) (ca : Nat) (xs : List I5) (f : Int) (s : PN.St) (w : World) (hok : PN.okP xs = true) (hO : PN.okS s.wh) (hin : MI5.RowAt w a xs) :
    Calls Try.prog 61 #[.agg (PN.jc f (PN.wb s) (PN.lb s)).toArray, .slice a xs.length ca] w fun e w' => e = .returned (.tuple #[.int .i64 (PN.nextN (PN.best xs s.wh xs.length)), .bool (PN.best xs s.wh xs.length).isSome]) ∧ Below w.heap.size w w' := by
  have NV : Hid (∀ W : World, Calls Try.prog 60 #[] W fun e w' => e = .returned (.float .f64 FL.Mo.inf.b) ∧ W = w') := fun W => never_any W
  have HI : Hid (MI5.RowAt w a xs) := hin
  have hlen : xs.length ≤ 20 := ((PN.okP_iff xs).1 hok).1
  have GC : Hid (∀ k, k < xs.length → PN.Good (MI5.at_ xs k)) := fun k hk => PN.okP_good hok hk
  have HO : Hid _ := hO
  have AT : Hid (∀ k, k < xs.length → PN.okT (PN.arr (MI5.at_ xs k) (s.wh (MI5.at_ xs k).a0.toNat))) := fun k hk => PN.okT_of_arr hok hO hk
  have hJ := MA.Rg.new w (PN.jc f (PN.wb s) (PN.lb s)) 72
  have hB0 : Below w.heap.size w (w.alloc (.cells (PN.jc f (PN.wb s) (PN.lb s)).toArray 72)) := (Below.refl _ w).alloc (Nat.le_refl _) _
  have HJ : Hid _ := hJ
  have HB0 : Hid _ := hB0
  obtain ⟨R, hR⟩ : ∃ R, PN.best xs s.wh xs.length = R := ⟨_, rfl⟩
  rw [hR]
  have HR : Hid _ := hR
  clear hin hok hO hJ hB0 hR
  go_enter Try.func61, Try.ntmps61
  go_wp2_with fail
  refine (NV.out _).mono ?_
  rintro e w' ⟨rfl, rfl⟩
  generalize w.alloc (.cells (PN.jc f (PN.wb s) (PN.lb s)).toArray 72) = W0 at *
  generalize hz : w.heap.size = jb at *
  have HB1 : Hid (Below w.heap.size w W0) := by rw [hz]; exact HB0.out
  clear HB0
  go_wp2
  go_loopw [6, 7, 14] (fun nv ev iv wi => ∃ (k : Nat) (b : Int) (m : FL.Mo) (z : Nat), nv = .int .i64 b ∧ ev = .float .f64 z ∧ iv = .int .i64 k ∧ k ≤ xs.length ∧ Hid (PN.BJ (PN.best xs s.wh k) b m) ∧ Hid (m.b = z) ∧ Below W0.heap.size W0 wi) (fun _ _ iv _ => (xs.length - intOf iv).toNat)
  case atStart => exact ⟨0, 0, .inf, _, rfl, rfl, rfl, by omega, show Hid _ from ⟨rfl, rfl⟩, rfl, Below.refl _ _⟩
  case round =>
    obtain ⟨k, b, m, z, rfl, rfl, rfl, hk, hT, hM, hb⟩ := hrel
    by_cases hlk : k < xs.length
    · obtain ⟨b4, off4, rfl, hlt4, e0, e1, e2, e3, e4⟩ := (HI.out.below (HB1.out.trans (hb.mono HB1.out.size))).at hlk
      have G := GC.out k hlk
      have oa := AT.out k hlk
      obtain ⟨i, hi⟩ := Int.eq_ofNat_of_zero_le G.f0
      obtain ⟨j, hj⟩ := Int.eq_ofNat_of_zero_le G.t0
      have hi8 : i < 8 := by have := G.f1; omega
      have hj8 : j < 8 := by have := G.t1; omega
      have ii0 : (0 : Int) ≤ (i : Int) := by omega
      have ii8 : (i : Int) < 8 := by omega
      have jj0 : (0 : Int) ≤ (j : Int) := by omega
      have jj8 : (j : Int) < 8 := by omega
      have hin : (MI5.at_ xs k).a0.toNat = i := by rw [hi]; rfl
      have hjn : (MI5.at_ xs k).a1.toNat = j := by rw [hj]; rfl
      have B1 : Hid _ := @PN.best_skip xs s.wh k
      have B2 : Hid _ := @PN.best_late xs s.wh k
      have B3 : Hid _ := @PN.best_first xs s.wh k
      have B4 : Hid _ := @PN.best_new xs s.wh k
      have B5 : Hid _ := @PN.best_old xs s.wh k
      rw [hin] at B1 B2 B3 B4 B5 oa
      rw [hjn] at B2 B3 B4 B5
      have oi := HO.out i
      have oj := HO.out j
      have om : PN.okT m := by
        have hT' := hT.out
        cases hbk : PN.best xs s.wh k with
        | none => rw [hbk] at hT'; rw [hT'.2]; trivial
        | some p =>
          obtain ⟨kb, u⟩ := p
          rw [hbk] at hT'
          obtain ⟨h1, h2, _⟩ := PN.best_is hbk
          have := AT.out kb (by omega)
          rw [h2] at this; rw [hT'.2]; exact this
      have hJr := MA.Rg.below HJ.out hb HJ.out.lt
      rw [hi] at e0
      rw [hj] at e1
      have AR : Hid (∀ W : World, Calls Try.prog 62 #[(MI5.at_ xs k).v, .float .f64 (s.wh i).b] W fun e w' => e = .returned (.float .f64 (PN.arr (MI5.at_ xs k) (s.wh i)).b) ∧ Below W.heap.size W w') := fun W => arrival_any _ _ W G oi
      clear GC HI AT HO HR hin hjn G
      generalize hx : MI5.at_ xs k = x at *
      obtain ⟨x0, x1, x2, x3, x4⟩ := x
      simp only at hi hj e0 e1 e2 e3 e4
      subst hi hj
      clear hx
      have hbA : Below W0.heap.size W0 (wr.alloc (.cells #[.int .i64 (i : Int), .int .i64 (j : Int), .int .i64 x2, .int .i64 x3, .int .i64 x4] 91)) := hb.alloc hb.size _
      have HBA : Hid _ := hbA
      have F0 : Hid ((wr.alloc (.cells #[.int .i64 (i : Int), .int .i64 (j : Int), .int .i64 x2, .int .i64 x3, .int .i64 x4] 91)).cell? ⟨wr.heap.size, 0, none⟩ = some (.int .i64 (i : Int))) := by show _ = _; simp
      have F1 : Hid ((wr.alloc (.cells #[.int .i64 (i : Int), .int .i64 (j : Int), .int .i64 x2, .int .i64 x3, .int .i64 x4] 91)).cell? ⟨wr.heap.size, 1, none⟩ = some (.int .i64 (j : Int))) := by show _ = _; simp
      have F2 : Hid ((wr.alloc (.cells #[.int .i64 (i : Int), .int .i64 (j : Int), .int .i64 x2, .int .i64 x3, .int .i64 x4] 91)).cell? ⟨wr.heap.size, 2, none⟩ = some (.int .i64 x2)) := by show _ = _; simp
      have F3 : Hid ((wr.alloc (.cells #[.int .i64 (i : Int), .int .i64 (j : Int), .int .i64 x2, .int .i64 x3, .int .i64 x4] 91)).cell? ⟨wr.heap.size, 3, none⟩ = some (.int .i64 x3)) := by show _ = _; simp
      have F4 : Hid ((wr.alloc (.cells #[.int .i64 (i : Int), .int .i64 (j : Int), .int .i64 x2, .int .i64 x3, .int .i64 x4] 91)).cell? ⟨wr.heap.size, 4, none⟩ = some (.int .i64 x4)) := by show _ = _; simp
      have HQ : Hid (wr.heap.size < (wr.alloc (.cells #[.int .i64 (i : Int), .int .i64 (j : Int), .int .i64 x2, .int .i64 x3, .int .i64 x4] 91)).heap.size) := by show _ < _; simp
      have HJ1 : Hid (MA.Rg (wr.alloc (.cells #[.int .i64 (i : Int), .int .i64 (j : Int), .int .i64 x2, .int .i64 x3, .int .i64 x4] 91)) jb 0 (PN.jc f (PN.wb s) (PN.lb s))) := hJr.alloc _
      clear hbA hJr
      go_wp2_with fail
      clear e0 e1 e2 e3 e4 hlt4
      generalize (wr.alloc (.cells #[.int .i64 (i : Int), .int .i64 (j : Int), .int .i64 x2, .int .i64 x3, .int .i64 x4] 91)) = W1 at *
      generalize wr.heap.size = q at *
      have f0 := F0.out
      have f1 := F1.out
      have f2 := F2.out
      have f3 := F3.out
      have f4 := F4.out
      have hq := HQ.out
      have hci : W1.cell? ⟨jb, 1 + i, none⟩ = some (.float .f64 (s.wh i).b) := (PN.rg_w HJ1.out hi8).1
      have hjb := HJ1.out.lt
      clear F0 F1 F2 F3 F4 HQ
      go_region_held3 (fun w' => w'.cell? ⟨q, 0, none⟩ = some (.int .i64 (i : Int)) ∧ w'.cell? ⟨q, 1, none⟩ = some (.int .i64 (j : Int)) ∧ w'.cell? ⟨q, 2, none⟩ = some (.int .i64 x2) ∧ w'.cell? ⟨q, 3, none⟩ = some (.int .i64 x3) ∧ w'.cell? ⟨q, 4, none⟩ = some (.int .i64 x4) ∧ w'.cell? ⟨jb, 1 + i, none⟩ = some (.float .f64 (s.wh i).b)) (first | assumption | go_keep) (first | (go_at_call 62; refine Calls.mono (AR.out _) ?_; rintro e w3 ⟨rfl, hb3⟩; have k0 : w3.cell? ⟨q, 0, none⟩ = some (.int .i64 (i : Int)) := (hb3.cell (p := ⟨q, 0, none⟩) (by simpa using hq)).trans (by simpa using f0); have k1 : w3.cell? ⟨q, 1, none⟩ = some (.int .i64 (j : Int)) := (hb3.cell (p := ⟨q, 1, none⟩) (by simpa using hq)).trans (by simpa using f1); have k2 : w3.cell? ⟨q, 2, none⟩ = some (.int .i64 x2) := (hb3.cell (p := ⟨q, 2, none⟩) (by simpa using hq)).trans (by simpa using f2); have k3 : w3.cell? ⟨q, 3, none⟩ = some (.int .i64 x3) := (hb3.cell (p := ⟨q, 3, none⟩) (by simpa using hq)).trans (by simpa using f3); have k4 : w3.cell? ⟨q, 4, none⟩ = some (.int .i64 x4) := (hb3.cell (p := ⟨q, 4, none⟩) (by simpa using hq)).trans (by simpa using f4); have ki : w3.cell? ⟨jb, 1 + i, none⟩ = some (.float .f64 (s.wh i).b) := (hb3.cell (p := ⟨jb, 1 + i, none⟩) (by simpa using hjb)).trans (by simpa using hci)))
      have hB3 : Below W0.heap.size W0 w3 := HBA.out.drew.trans (hb3.mono (by have := HBA.out.size; simpa using this))
      have kj : w3.cell? ⟨jb, 1 + j, none⟩ = some (.float .f64 (s.wh j).b) := (hb3.cell (p := ⟨jb, 1 + j, none⟩) (by simpa using hjb)).trans (by have h : W1.cell? ⟨jb, 1 + j, none⟩ = some (.float .f64 (s.wh j).b) := (PN.rg_w HJ1.out hj8).1; simpa using h)
      have hq3 : q < w3.heap.size := Nat.lt_of_lt_of_le (by simpa using hq) hb3.size
      have hj3 : jb < w3.heap.size := Nat.lt_of_lt_of_le (by simpa using hjb) hb3.size
      clear f0 f1 f2 f3 f4 hci hq hjb hb3 HJ1 HBA AR k0 k2 k3 k4 ki hb
      generalize hr : PN.arr _ (s.wh i) = r at *
      generalize hmj : s.wh j = mj at *
      have o1 := FL.order_is r mj (PN.okT_ok oa) (PN.okT_ok oj)
      have o2 := FL.order_is r m (PN.okT_ok oa) (PN.okT_ok om)
      rw [hM.out] at o2
      cases r with
      | ago => exact absurd oa id
      | inf =>
        have hT' : Hid (PN.BJ (PN.best xs s.wh (k + 1)) b m) := by rw [B1.out rfl]; exact hT
        have hge := PN.inf_ge oj
        clear B1 B2 B3 B4 B5 hT o2 hmj hr
        generalize FL.Mo.cmp .inf mj = o at *
        generalize FL.Mo.b mj = zj at *
        rcases hge with rfl | rfl
        all_goals
          go_wp2
          go_roundw
          case rel => exact ⟨k + 1, b, m, z, rfl, rfl, by go_num, by omega, hT', hM, hB3⟩
          case measure => simp [intOf]; omega
      | fin t =>
        cases he : PN.early t mj with
        | false =>
          have hT' : Hid (PN.BJ (PN.best xs s.wh (k + 1)) b m) := by rw [B2.out rfl he]; exact hT
          have hge := PN.late_ge oj he
          clear B1 B2 B3 B4 B5 hT o2 hmj hr he
          generalize FL.Mo.cmp (.fin t) mj = o at *
          generalize FL.Mo.b mj = zj at *
          generalize FL.Mo.b (.fin t) = zr at *
          rcases hge with rfl | rfl
          all_goals
            go_wp2
            go_roundw
            case rel => exact ⟨k + 1, b, m, z, rfl, rfl, by go_num, by omega, hT', hM, hB3⟩
            case measure => simp [intOf]; omega
        | true =>
          rw [PN.early_lt he] at o1
          have hT1 := hT.out
          have pick : ((FL.Mo.fin t).cmp m = .lt ∧ Hid (PN.BJ (PN.best xs s.wh (k + 1)) (k : Int) (.fin t))) ∨ (((FL.Mo.fin t).cmp m = .gt ∨ (FL.Mo.fin t).cmp m = .eq) ∧ Hid (PN.BJ (PN.best xs s.wh (k + 1)) b m)) := by
            cases hbk : PN.best xs s.wh k with
            | none =>
              rw [hbk] at hT1
              exact .inl ⟨by rw [hT1.2]; rfl, by rw [B3.out rfl he hbk]; exact ⟨rfl, rfl⟩⟩
            | some p =>
              obtain ⟨kb, u⟩ := p
              rw [hbk] at hT1
              obtain ⟨h1, h2⟩ := hT1
              by_cases hlt : t < u
              · exact .inl ⟨by rw [h2]; exact FL.cmp_lt hlt, by rw [B4.out rfl he hbk hlt]; exact ⟨rfl, rfl⟩⟩
              · exact .inr ⟨by rw [h2]; exact PN.fin_ge hlt, by rw [B5.out rfl he hbk (by omega)]; exact ⟨h1, h2⟩⟩
          clear B1 B2 B3 B4 B5 hT hT1 hmj hr he
          rcases pick with ⟨pk, hT'⟩ | ⟨pk, hT'⟩
          · rw [pk] at o2
            have hM' : Hid ((FL.Mo.fin t).b = (FL.Mo.fin t).b) := rfl
            clear pk hM
            generalize FL.Mo.b mj = zj at *
            generalize hzr : FL.Mo.b (.fin t) = zr at *
            have hM2 : Hid ((FL.Mo.fin t).b = zr) := hzr
            clear hM' hzr
            go_wp2
            go_roundw
            case rel => exact ⟨k + 1, k, .fin t, zr, rfl, rfl, by go_num, by omega, hT', hM2, hB3⟩
            case measure => simp [intOf]; omega
          · generalize FL.Mo.cmp (.fin t) m = o at *
            generalize FL.Mo.b mj = zj at *
            generalize FL.Mo.b (.fin t) = zr at *
            rcases pk with rfl | rfl
            all_goals
              go_wp2
              go_roundw
              case rel => exact ⟨k + 1, b, m, z, rfl, rfl, by go_num, by omega, hT', hM, hB3⟩
              case measure => simp [intOf]; omega
    · obtain rfl : k = xs.length := by omega
      have hT' := hT.out
      rw [HR.out] at hT'
      cases R with
      | none =>
        obtain ⟨rfl, rfl⟩ := hT'
        have o1 : FloatKind.f64.format.order z FL.Mo.inf.b = some .eq := by rw [← hM.out]; decide
        clear hT hM HR AT GC HO HI HJ
        go_wp2_with fail
        refine (NV.out _).mono ?_
        rintro e w' ⟨rfl, rfl⟩
        generalize FL.Mo.inf.b = zi at *
        go_wp2
        go_ret2
        exact ⟨rfl, HB1.out.trans (hb.mono HB1.out.size)⟩
      | some p =>
        obtain ⟨kb, u⟩ := p
        obtain ⟨rfl, rfl⟩ := hT'
        have ou : PN.okT (.fin u) := by
          obtain ⟨h1, h2, _⟩ := PN.best_is HR.out
          have := AT.out kb h1
          rw [h2] at this; exact this
        have o1 : FloatKind.f64.format.order z FL.Mo.inf.b = some .lt := by rw [← hM.out]; exact FL.order_is (.fin u) .inf (PN.okT_ok ou) trivial
        clear hT hM HR AT GC HO HI HJ ou
        go_wp2_with fail
        refine (NV.out _).mono ?_
        rintro e w' ⟨rfl, rfl⟩
        generalize FL.Mo.inf.b = zi at *
        go_wp2
        go_ret2
        exact ⟨rfl, HB1.out.trans (hb.mono HB1.out.size)⟩
end Go.Proofs.Ytjplabldiheggaa

/- journeyFrom, the program's. -/
namespace Go.Proofs.Ytjplabldiheggaa
open Go.RowKit
namespace PN
/-- The result's box, and the journey that is being made. -/
structure JW (w W : World) (rb jb : Nat) (f : Int) (wf : Nat → Nat) (lf : Nat → Int) : Prop where
  r : MA.Rg W rb 0 (jc 0 (fun _ => 0) (fun _ => 0))
  j : MA.Rg W jb 0 (jc f wf lf)
  ne : rb ≠ jb
  br : w.heap.size ≤ rb
  bj : w.heap.size ≤ jb
  bl : Below w.heap.size w W
theorem JW.kept {w W W' : World} {rb jb : Nat} {f : Int} {wf : Nat → Nat} {lf : Nat → Int} (h : JW w W rb jb f wf lf) (hb : Below W.heap.size W W') : JW w W' rb jb f wf lf :=
  ⟨h.r.below hb h.r.lt, h.j.below hb h.j.lt, h.ne, h.br, h.bj, h.bl.trans (hb.mono h.bl.size)⟩
theorem JW.setw {w W : World} {rb jb : Nat} {f : Int} {wf : Nat → Nat} {lf : Nat → Int} (h : JW w W rb jb f wf lf) {i : Nat} (hi : i < 8) (b : Nat) : JW w (W.setCell ⟨jb, 1 + i, none⟩ (.float .f64 b)) rb jb f (put wf i b) lf :=
  ⟨h.r.other (k' := jb) (o' := 1 + i) (vs := [.float .f64 b]) (.inl h.ne), rg_setw h.j hi b, h.ne, h.br, h.bj, MA.below_cells h.bj [.float .f64 b] (1 + i) W h.bl⟩
theorem JW.setl {w W : World} {rb jb : Nat} {f : Int} {wf : Nat → Nat} {lf : Nat → Int} (h : JW w W rb jb f wf lf) {i : Nat} (hi : i < 8) (b : Int) : JW w (W.setCell ⟨jb, 9 + i, none⟩ (.int .i64 b)) rb jb f wf (put lf i b) :=
  ⟨h.r.other (k' := jb) (o' := 9 + i) (vs := [.int .i64 b]) (.inl h.ne), rg_setl h.j hi b, h.ne, h.br, h.bj, MA.below_cells h.bj [.int .i64 b] (9 + i) W h.bl⟩
theorem jw_new (w : World) (t : TypeId) (f : Int) : JW w (((w.alloc (.cells (jc 0 (fun _ => 0) (fun _ => 0)).toArray t)).alloc (.cells (jc 0 (fun _ => 0) (fun _ => 0)).toArray t)).setCells (w.heap.size + 1) 0 (jc f (fun _ => 0) (fun _ => 0))) w.heap.size (w.heap.size + 1) f (fun _ => 0) (fun _ => 0) := by
  have r1 := (MA.Rg.new w (jc 0 (fun _ => 0) (fun _ => 0)) t).alloc (.cells (jc 0 (fun _ => 0) (fun _ => 0)).toArray t)
  have r2 := MA.Rg.new' (w.alloc (.cells (jc 0 (fun _ => 0) (fun _ => 0)).toArray t)) (jc 0 (fun _ => 0) (fun _ => 0)) t (w.heap.size + 1) (by simp)
  exact ⟨r1.other (.inl (by omega)), r2.put (by rw [jc_len, jc_len]), by omega, Nat.le_refl _, by omega, MA.below_cells (by omega) _ _ _ (((Below.refl _ w).alloc (Nat.le_refl _) _).alloc (by simp) _)⟩
def upB (k : Nat) : Nat → Nat := fun i => if i < k then FL.Mo.inf.b else 0
theorem upB_put (k : Nat) : put (upB k) k FL.Mo.inf.b = upB (k + 1) := by
  funext p
  simp only [put, upB]
  by_cases e : p = k
  · subst e; simp
  · rw [if_neg e]
    by_cases h : p < k
    · rw [if_pos h, if_pos (by omega)]
    · rw [if_neg h, if_neg (by omega)]
theorem upB_all {f : Int} {lf : Nat → Int} : jc f (upB 8) lf = jc f (wb ⟨fun _ => .inf, fun _ => none⟩) lf := jc_ext (fun i hi => by simp [upB, wb, hi]) (fun _ _ => rfl)
end PN
theorem Try.infoJ : (Try.prog.info? 72).map (fun i => (i.zero, i.size)) = some (some (.agg (PN.jc 0 (fun _ => 0) (fun _ => 0)).toArray), 17) := by kernel_rfl
theorem Try.sizeJ : (Try.prog.info? 72).map (·.size) = some 17 := by kernel_rfl
theorem Try.builtJ (f : Int) : Try.prog.built 72 [(0, .int .i64 f)] = some (PN.jc f (fun _ => 0) (fun _ => 0)).toArray := by kernel_rfl
theorem MA.build_pJ {P : Program} {ops : Array Oper} {rest : List Oper} {op : Oper} {a : Act} {w : World} {Q : Exit → Act → World → Prop} (hgd : op.guard = none) (ty : TypeId) {parts : Array (Nat × Operand)} (ho : op.op = .build ty parts)
    (ps : List (Nat × Value)) (hps : (parts.map fun (i, x) => (i, a.eval x)).toList = ps) {cs : List Value} (hb : P.built ty ps = some cs.toArray)
    (h : wpList P ops Q rest (a.put op.dst (.agg cs.toArray)) w) : wpList P ops Q (op :: rest) a w := MA.build_m hgd ty ho (by rw [hps]; exact hb) h
set_option linter.unusedSimpArgs false in
set_option maxHeartbeats 3200000 in
set_option maxRecDepth 100000 in
theorem journeyFrom_any (a : Option Addr) (ca : Nat) (xs : List I5) (f n : Int) (w : World) (hok : PN.okP xs = true) (hf0 : 0 ≤ f) (hf1 : f ≤ 7) (hn0 : 0 ≤ n) (hn1 : n ≤ 1000) (hin : MI5.RowAt w a xs) :
    Calls Try.prog 36 #[.slice a xs.length ca, .int .i64 f, .int .i64 n] w fun e w' => e = .returned (.agg (PN.jc f (PN.wb (PN.fin xs (PN.st0 f n))) (PN.lb (PN.fin xs (PN.st0 f n)))).toArray) ∧ Below w.heap.size w w' := by
  have NV : Hid (∀ W : World, Calls Try.prog 60 #[] W fun e w' => e = .returned (.float .f64 FL.Mo.inf.b) ∧ W = w') := fun W => never_any W
  have SF : ∀ (W : World) (ad : Addr) (b : Nat) (m : Mode), (store ad (.float .f64 b) m).run Try.prog W = stored Try.prog W ad (.float .f64 b) m := fun W ad b m => run_store _ W ad _ m rfl
  have HI : Hid (MI5.RowAt w a xs) := hin
  have hlen : xs.length ≤ 20 := ((PN.okP_iff xs).1 hok).1
  have GC : Hid (∀ k, k < xs.length → PN.Good (MI5.at_ xs k)) := fun k hk => PN.okP_good hok hk
  have HOK : Hid _ := hok
  have NX : Hid (∀ (s : PN.St) (W : World), PN.okS s.wh → MI5.RowAt W a xs → Calls Try.prog 61 #[.agg (PN.jc f (PN.wb s) (PN.lb s)).toArray, .slice a xs.length ca] W fun e w' => e = .returned (.tuple #[.int .i64 (PN.nextN (PN.best xs s.wh xs.length)), .bool (PN.best xs s.wh xs.length).isSome]) ∧ Below W.heap.size W w') := fun s W hs hr => next6_any a ca xs f s W hok hs hr
  obtain ⟨fn, rfl⟩ := Int.eq_ofNat_of_zero_le hf0
  have hfn : fn < 8 := by omega
  have ff1 : (fn : Int) < 8 := by omega
  have HN : Hid _ := PN.jw_new w 72 (fn : Int)
  have RZ : Hid (MA.Rg ((w.alloc (.cells (PN.jc 0 (fun _ => 0) (fun _ => 0)).toArray 72)).alloc (.cells (PN.jc 0 (fun _ => 0) (fun _ => 0)).toArray 72)) (w.heap.size + 1) 0 (PN.jc 0 (fun _ => 0) (fun _ => 0))) := MA.Rg.new' _ _ _ _ (by simp)
  clear hin hok
  go_enter Try.func36, Try.ntmps36
  go_wp2_with (first
    | (refine MA.alloc_z rfl 72 rfl _ _ Try.infoJ ?_; simp only [MA.sz_alloc])
    | (refine MA.build_pJ rfl 72 rfl [(0, .int .i64 (fn : Int))] (by simp [Act.eval]) (Try.builtJ _) ?_)
    | (refine MA.store_m rfl 72 _ _ rfl rfl rfl (vs := PN.jc (fn : Int) (fun _ => 0) (fun _ => 0)) (cs := PN.jc 0 (fun _ => 0) (fun _ => 0)) ?_ Try.sizeJ (PN.jc_len _ _ _) (PN.jc_len _ _ _) (PN.jc_one _ _ _) ?_; exact RZ.out; clear RZ; generalize World.setCells _ _ _ _ = W3 at *))
  generalize w.heap.size + 1 = jb at *
  go_loopw [14] (fun iv wr => ∃ k : Nat, iv = .int .i64 k ∧ k ≤ 8 ∧ PN.JW w wr w.heap.size jb (fn : Int) (PN.upB k) (fun _ => 0)) (fun iv _ => (8 - intOf iv).toNat)
  case atStart => exact ⟨0, rfl, by omega, HN.out⟩
  case round =>
    clear HN
    obtain ⟨k, rfl, hk, hJ⟩ := hrel
    by_cases hl : k < 8
    · obtain ⟨q1, z1⟩ := PN.rg_w hJ.j hl
      have hl1 := hJ.j.lt
      have hJ2 := hJ.setw hl FL.Mo.inf.b
      rw [PN.upB_put] at hJ2
      have HJ2 : Hid _ := hJ2
      have kk : (k : Int) < 8 := by omega
      clear hJ hJ2
      go_wp2_with fail
      refine (NV.out _).mono ?_
      rintro e w' ⟨rfl, rfl⟩
      go_wp2
      go_roundw
      case rel => exact ⟨k + 1, by go_num, by omega, HJ2.out⟩
      case measure => simp [intOf]; omega
    · obtain rfl : k = 8 := by omega
      have hJ0 : PN.JW w wr w.heap.size jb (fn : Int) (PN.wb ⟨fun _ => .inf, fun _ => none⟩) (PN.lb ⟨fun _ => .inf, fun _ => none⟩) := by
        have h := hJ.j
        rw [PN.upB_all] at h
        exact ⟨hJ.r, h, hJ.ne, hJ.br, hJ.bj, hJ.bl⟩
      obtain ⟨q1, z1⟩ := PN.rg_w hJ0.j hfn
      have hl1 := hJ0.j.lt
      have hJ1 := hJ0.setw hfn (FL.Mo.fin n).b
      rw [PN.wb_put _ _ _ (fun _ => none)] at hJ1
      have HS0 : Hid (PN.JW w (wr.setCell ⟨jb, 1 + fn, none⟩ (.float .f64 (floatOfInt .f64 n))) w.heap.size jb (fn : Int) (PN.wb (PN.st0 (fn : Int) n)) (PN.lb (PN.st0 (fn : Int) n))) := hJ1
      have HOS : Hid (PN.okS (PN.st0 (fn : Int) n).wh) := PN.st0_ok hn0 hn1
      clear hJ hJ0 hJ1
      generalize hst : PN.st0 (fn : Int) n = s0 at *
      have HR0 : Hid (MA.Rg (wr.setCell ⟨jb, 1 + fn, none⟩ (.float .f64 (floatOfInt .f64 n))) jb 0 (PN.jc (fn : Int) (PN.wb s0) (PN.lb s0))) := HS0.out.j
      go_wp2_with (refine MA.load_m rfl 72 _ rfl rfl (cs := PN.jc (fn : Int) (PN.wb s0) (PN.lb s0)) ?_ Try.underlying72 rfl Try.sizeJ (PN.jc_len _ _ _) ?_; exact HR0.out; clear HR0)
      generalize wr.setCell ⟨jb, 1 + fn, none⟩ (.float .f64 (floatOfInt .f64 n)) = W4 at *
      clear q1 z1 hl1
      refine (NX.out s0 _ HOS.out (HI.out.below HS0.out.bl)).mono ?_
      rintro e w5 ⟨rfl, hb5⟩
      have HS5 : Hid _ := HS0.out.kept hb5
      clear HS0 hb5
      generalize hbest : PN.best xs s0.wh xs.length = R0 at *
      have HBT : Hid _ := hbest
      clear hbest
      go_wp2
      go_loopw [9, 10] (fun kv ov wr => ∃ s : PN.St, kv = .int .i64 (PN.nextN (PN.best xs s.wh xs.length)) ∧ ov = .bool (PN.best xs s.wh xs.length).isSome ∧ PN.JW w wr w.heap.size jb (fn : Int) (PN.wb s) (PN.lb s) ∧ Hid (PN.okS s.wh) ∧ Hid (PN.fin xs s = PN.fin xs s0)) (fun _ _ wr => PN.MJ jb wr)
      case atStart => exact ⟨s0, by rw [HBT.out], by rw [HBT.out], HS5.out, HOS, rfl⟩
      case round =>
        clear HS5 HOS HBT
        obtain ⟨s, rfl, rfl, hJ, hO, hF⟩ := hrel
        have HM : Hid (PN.MJ jb wr = PN.mu s.wh) := PN.JR.mu hJ.j hO.out
        cases hb : PN.best xs s.wh xs.length with
        | none =>
          have hE : Hid (s = PN.fin xs s0) := by show s = _; rw [← hF.out, PN.fin_none hb]
          have HRJ : Hid (MA.Rg wr jb 0 (PN.jc (fn : Int) (PN.wb s) (PN.lb s))) := hJ.j
          have HRR : Hid (MA.Rg wr w.heap.size 0 (PN.jc 0 (fun _ => 0) (fun _ => 0))) := hJ.r
          have HRP : Hid (MA.Rg (wr.setCells w.heap.size 0 (PN.jc (fn : Int) (PN.wb s) (PN.lb s))) w.heap.size 0 (PN.jc (fn : Int) (PN.wb s) (PN.lb s))) := hJ.r.put (by rw [PN.jc_len, PN.jc_len])
          have HBP : Hid (Below w.heap.size w (wr.setCells w.heap.size 0 (PN.jc (fn : Int) (PN.wb s) (PN.lb s)))) := MA.below_cells (Nat.le_refl _) _ _ _ hJ.bl
          clear hb hF hO hJ HM HOK GC HI NX NV SF
          go_wp2_with (first
            | (refine MA.load_m rfl 72 _ rfl rfl (cs := PN.jc (fn : Int) (PN.wb s) (PN.lb s)) ?_ Try.underlying72 rfl Try.sizeJ (PN.jc_len _ _ _) ?_; exact HRJ.out; clear HRJ)
            | (refine MA.store_m rfl 72 _ _ rfl rfl rfl (vs := PN.jc (fn : Int) (PN.wb s) (PN.lb s)) (cs := PN.jc 0 (fun _ => 0) (fun _ => 0)) ?_ Try.sizeJ (PN.jc_len _ _ _) (PN.jc_len _ _ _) (PN.jc_one _ _ _) ?_; exact HRR.out; clear HRR))
          exact bodyPost_ret (MA.ret_cell rfl rfl (MA.load_rg HRP.out Try.underlying72 rfl Try.sizeJ (PN.jc_len _ _ _))) rfl ⟨by rw [hst, ← hE.out], HBP.out⟩
        | some p =>
          obtain ⟨kb, t⟩ := p
          obtain ⟨hkb, hA, hE⟩ := PN.best_is hb
          obtain ⟨hO2, hmu⟩ := PN.step_ok HOK.out hO.out hb
          have hF2 : Hid (PN.fin xs (PN.take1 xs s kb t) = PN.fin xs s0) := by show _ = _; rw [← hF.out, PN.fin_some HOK.out hO.out hb]
          have G := GC.out kb hkb
          obtain ⟨b4, off4, hab, hlt4, e0, e1, e2, e3, e4⟩ := (HI.out.below hJ.bl).at hkb
          obtain ⟨i, hi⟩ := Int.eq_ofNat_of_zero_le G.f0
          obtain ⟨j, hj⟩ := Int.eq_ofNat_of_zero_le G.t0
          have hi8 : i < 8 := by have := G.f1; omega
          have hj8 : j < 8 := by have := G.t1; omega
          have hij : i ≠ j := by have := G.ne; omega
          have ii0 : (0 : Int) ≤ (i : Int) := by omega
          have ii8 : (i : Int) < 8 := by omega
          have jj0 : (0 : Int) ≤ (j : Int) := by omega
          have jj8 : (j : Int) < 8 := by omega
          have kk0 : (0 : Int) ≤ (kb : Int) := by omega
          have kk1 : (kb : Int) < (xs.length : Int) := by omega
          have hin : (MI5.at_ xs kb).a0.toNat = i := by rw [hi]; rfl
          have hjn : (MI5.at_ xs kb).a1.toNat = j := by rw [hj]; rfl
          rw [hin] at hA
          have AR : Hid (∀ W : World, Calls Try.prog 62 #[(MI5.at_ xs kb).v, .float .f64 (s.wh i).b] W fun e w' => e = .returned (.float .f64 (FL.Mo.fin t).b) ∧ Below W.heap.size W w') := fun W => by
            have := arrival_any (MI5.at_ xs kb) (s.wh i) W G (hO.out i)
            rw [hA] at this; exact this
          have hST : (⟨PN.put s.wh j (.fin t), PN.put s.la j (some kb)⟩ : PN.St) = PN.take1 xs s kb t := by unfold PN.take1; rw [hjn]
          have HST : Hid _ := hST
          have HO2 : Hid _ := hO2
          have HMU : Hid (PN.mu (PN.take1 xs s kb t).wh < PN.mu s.wh) := hmu
          rw [hi] at e0
          rw [hj] at e1
          have HJA : Hid (PN.JW w (wr.alloc (.cells #[.int .i64 (i : Int), .int .i64 (j : Int), .int .i64 (MI5.at_ xs kb).a2, .int .i64 (MI5.at_ xs kb).a3, .int .i64 (MI5.at_ xs kb).a4] 91)) w.heap.size jb (fn : Int) (PN.wb s) (PN.lb s)) := hJ.kept ((Below.refl _ wr).alloc (Nat.le_refl _) _)
          have hjq : jb < wr.heap.size := hJ.j.lt
          clear hb hF hO GC G hjn hin hA hE hST hO2 hmu hJ
          generalize hx : MI5.at_ xs kb = x at *
          obtain ⟨x0, x1, x2, x3, x4⟩ := x
          simp only at hi hj e0 e1 e2 e3 e4
          subst hi hj
          clear hx
          subst hab
          have F0 : Hid ((wr.alloc (.cells #[.int .i64 (i : Int), .int .i64 (j : Int), .int .i64 x2, .int .i64 x3, .int .i64 x4] 91)).cell? ⟨wr.heap.size, 0, none⟩ = some (.int .i64 (i : Int))) := by show _ = _; simp
          have F1 : Hid ((wr.alloc (.cells #[.int .i64 (i : Int), .int .i64 (j : Int), .int .i64 x2, .int .i64 x3, .int .i64 x4] 91)).cell? ⟨wr.heap.size, 1, none⟩ = some (.int .i64 (j : Int))) := by show _ = _; simp
          have F2 : Hid ((wr.alloc (.cells #[.int .i64 (i : Int), .int .i64 (j : Int), .int .i64 x2, .int .i64 x3, .int .i64 x4] 91)).cell? ⟨wr.heap.size, 2, none⟩ = some (.int .i64 x2)) := by show _ = _; simp
          have F3 : Hid ((wr.alloc (.cells #[.int .i64 (i : Int), .int .i64 (j : Int), .int .i64 x2, .int .i64 x3, .int .i64 x4] 91)).cell? ⟨wr.heap.size, 3, none⟩ = some (.int .i64 x3)) := by show _ = _; simp
          have F4 : Hid ((wr.alloc (.cells #[.int .i64 (i : Int), .int .i64 (j : Int), .int .i64 x2, .int .i64 x3, .int .i64 x4] 91)).cell? ⟨wr.heap.size, 4, none⟩ = some (.int .i64 x4)) := by show _ = _; simp
          have HQ : Hid (wr.heap.size < (wr.alloc (.cells #[.int .i64 (i : Int), .int .i64 (j : Int), .int .i64 x2, .int .i64 x3, .int .i64 x4] 91)).heap.size) := by show _ < _; simp
          rw [show PN.nextN (some (kb, t)) = (kb : Int) from rfl, show (some (kb, t)).isSome = true from rfl]
          go_wp2_with fail
          clear e0 e1 e2 e3 e4 hlt4
          generalize (wr.alloc (.cells #[.int .i64 (i : Int), .int .i64 (j : Int), .int .i64 x2, .int .i64 x3, .int .i64 x4] 91)) = W1 at *
          generalize wr.heap.size = q at *
          have f0 := F0.out
          have f1 := F1.out
          have f2 := F2.out
          have f3 := F3.out
          have f4 := F4.out
          have hq := HQ.out
          have hci : W1.cell? ⟨jb, 1 + i, none⟩ = some (.float .f64 (s.wh i).b) := (PN.rg_w HJA.out.j hi8).1
          have hjb := HJA.out.j.lt
          have hqj : q ≠ jb := by omega
          have hqj' : jb ≠ q := by omega
          clear F0 F1 F2 F3 F4 HQ
          go_region_held3 (fun w' => w'.cell? ⟨q, 0, none⟩ = some (.int .i64 (i : Int)) ∧ w'.cell? ⟨q, 1, none⟩ = some (.int .i64 (j : Int)) ∧ w'.cell? ⟨q, 2, none⟩ = some (.int .i64 x2) ∧ w'.cell? ⟨q, 3, none⟩ = some (.int .i64 x3) ∧ w'.cell? ⟨q, 4, none⟩ = some (.int .i64 x4) ∧ w'.cell? ⟨jb, 1 + i, none⟩ = some (.float .f64 (s.wh i).b)) (first | assumption | go_keep) (first | (go_at_call 62; refine Calls.mono (AR.out _) ?_; rintro e w3 ⟨rfl, hb3⟩; have k0 : w3.cell? ⟨q, 0, none⟩ = some (.int .i64 (i : Int)) := (hb3.cell (p := ⟨q, 0, none⟩) (by simpa using hq)).trans (by simpa using f0); have k1 : w3.cell? ⟨q, 1, none⟩ = some (.int .i64 (j : Int)) := (hb3.cell (p := ⟨q, 1, none⟩) (by simpa using hq)).trans (by simpa using f1); have k2 : w3.cell? ⟨q, 2, none⟩ = some (.int .i64 x2) := (hb3.cell (p := ⟨q, 2, none⟩) (by simpa using hq)).trans (by simpa using f2); have k3 : w3.cell? ⟨q, 3, none⟩ = some (.int .i64 x3) := (hb3.cell (p := ⟨q, 3, none⟩) (by simpa using hq)).trans (by simpa using f3); have k4 : w3.cell? ⟨q, 4, none⟩ = some (.int .i64 x4) := (hb3.cell (p := ⟨q, 4, none⟩) (by simpa using hq)).trans (by simpa using f4); have ki : w3.cell? ⟨jb, 1 + i, none⟩ = some (.float .f64 (s.wh i).b) := (hb3.cell (p := ⟨jb, 1 + i, none⟩) (by simpa using hjb)).trans (by simpa using hci); have HJ3 := HJA.out.kept (((Below.refl _ W1).drew).trans hb3); obtain ⟨kj, zj⟩ := PN.rg_w HJ3.j hj8; have HJ4 := HJ3.setw hj8 (FL.Mo.fin t).b; obtain ⟨kl, zl⟩ := PN.rg_l HJ4.j hj8; have HJ5 := HJ4.setl hj8 (kb : Int); have ki4 : (w3.setCell ⟨jb, 1 + j, none⟩ (.float .f64 (FL.Mo.fin t).b)).cell? ⟨jb, 1 + i, none⟩ = some (.float .f64 (s.wh i).b) := (PN.rg_w HJ4.j hi8).1.trans (by rw [PN.put_ne _ _ hij]; rfl); have ki5 : ((w3.setCell ⟨jb, 1 + j, none⟩ (.float .f64 (FL.Mo.fin t).b)).setCell ⟨jb, 9 + j, none⟩ (.int .i64 (kb : Int))).cell? ⟨jb, 1 + i, none⟩ = some (.float .f64 (s.wh i).b) := (PN.rg_w HJ5.j hi8).1.trans (by rw [PN.put_ne _ _ hij]; rfl)))
          rw [PN.wb_put s j (.fin t) (PN.put s.la j (some kb)), PN.lb_put s j kb (PN.put s.wh j (.fin t)), HST.out] at HJ5
          clear k0 k1 k2 k3 k4 ki kj zj kl zl ki4 ki5 HJ3 HJ4 hb3 f0 f1 f2 f3 f4 hq hci hjb HJA AR HST hqj hqj' hjq
          have HJ6 : Hid _ := HJ5
          have HR6 : Hid (MA.Rg ((w3.setCell ⟨jb, 1 + j, none⟩ (.float .f64 (FL.Mo.fin t).b)).setCell ⟨jb, 9 + j, none⟩ (.int .i64 (kb : Int))) jb 0 (PN.jc (fn : Int) (PN.wb (PN.take1 xs s kb t)) (PN.lb (PN.take1 xs s kb t)))) := HJ5.j
          clear HJ5
          generalize (w3.setCell ⟨jb, 1 + j, none⟩ (.float .f64 (FL.Mo.fin t).b)).setCell ⟨jb, 9 + j, none⟩ (.int .i64 (kb : Int)) = W5 at *
          generalize PN.take1 xs s kb t = s' at *
          go_wp2_with (refine MA.load_m rfl 72 _ rfl rfl (cs := PN.jc (fn : Int) (PN.wb s') (PN.lb s')) ?_ Try.underlying72 rfl Try.sizeJ (PN.jc_len _ _ _) ?_; exact HR6.out; clear HR6)
          refine (NX.out s' _ HO2.out (HI.out.below HJ6.out.bl)).mono ?_
          rintro e w6 ⟨rfl, hb6⟩
          have HJ7 : Hid _ := HJ6.out.kept hb6
          have HM7 : Hid (PN.MJ jb w6 = PN.mu s'.wh) := PN.JR.mu HJ7.out.j HO2.out
          clear hb6 HJ6
          go_wp2
          go_roundw
          case rel => exact ⟨s', rfl, rfl, HJ7.out, HO2, hF2⟩
          case measure => rw [HM.out, HM7.out]; exact HMU.out
end Go.Proofs.Ytjplabldiheggaa
