import Derived.Test.YtickoajkppgdaaaM6W
import Derived.Test.YtickoajkppgdaaaMA
import Derived.Test.YtickoajkppgdaaaRows
import Derived.Test.YtickoajkppgdaaaCFloatN
import Derived.Test.YtickoajkppgdaaaCPlan
import Derived.WalkKit
import Derived.WalkSpells
import Derived.WalkLawsBesides
import Derived.Outline
import Derived.Deep.RegionHeld3
import Derived.Test.YtickoajkppgdaaaMRou
import Derived.Test.YtickoajkppgdaaaMInfo
import Derived.Test.YtickoajkppgdaaaCReverse
import Derived.Test.YtickoajkppgdaaaCArrS
import Derived.Test.YtickoajkppgdaaaCFloat
/- A journey's cells: plain facts. -/
namespace Go.Proofs.Ytickoajkppgdaaa
open Go.RowKit
namespace PN
def fl (wf : Nat → Nat) : List Value := (List.range 8).map fun i => .float .f64 (wf i)
def il (lf : Nat → Int) : List Value := (List.range 8).map fun i => .int .i64 (lf i)
def jc (f : Int) (wf : Nat → Nat) (lf : Nat → Int) : List Value := .int .i64 f :: (fl wf ++ il lf)
theorem fl_len (wf : Nat → Nat) : (fl wf).length = 8 := by simp [fl]
theorem il_len (lf : Nat → Int) : (il lf).length = 8 := by simp [il]
theorem jc_len (f : Int) (wf : Nat → Nat) (lf : Nat → Int) : (jc f wf lf).length = 17 := by simp [jc, fl_len, il_len]
theorem fl_get (wf : Nat → Nat) {i : Nat} (h : i < 8) : (fl wf)[i]? = some (.float .f64 (wf i)) := by simp [fl, h]
theorem il_get (lf : Nat → Int) {i : Nat} (h : i < 8) : (il lf)[i]? = some (.int .i64 (lf i)) := by simp [il, h]
theorem jc_f (f : Int) (wf : Nat → Nat) (lf : Nat → Int) : (jc f wf lf)[0]? = some (.int .i64 f) := rfl
theorem jc_w (f : Int) (wf : Nat → Nat) (lf : Nat → Int) {i : Nat} (h : i < 8) : (jc f wf lf)[1 + i]? = some (.float .f64 (wf i)) := by
  unfold jc
  rw [Nat.add_comm, List.getElem?_cons_succ, List.getElem?_append_left (by rw [fl_len]; exact h), fl_get wf h]
theorem jc_l (f : Int) (wf : Nat → Nat) (lf : Nat → Int) {i : Nat} (h : i < 8) : (jc f wf lf)[9 + i]? = some (.int .i64 (lf i)) := by
  unfold jc
  rw [show 9 + i = (8 + i) + 1 from by omega, List.getElem?_cons_succ, List.getElem?_append_right (by rw [fl_len]; omega), fl_len, show 8 + i - 8 = i from by omega, il_get lf h]
theorem fl_set (wf : Nat → Nat) {i : Nat} (b : Nat) : (fl wf).set i (.float .f64 b) = fl (put wf i b) := by
  unfold fl
  rw [MA.range_set]
  refine List.map_congr_left fun p _ => ?_
  unfold put; split <;> rfl
theorem il_set (lf : Nat → Int) {i : Nat} (b : Int) : (il lf).set i (.int .i64 b) = il (put lf i b) := by
  unfold il
  rw [MA.range_set]
  refine List.map_congr_left fun p _ => ?_
  unfold put; split <;> rfl
theorem jc_setw (f : Int) (wf : Nat → Nat) (lf : Nat → Int) {i : Nat} (h : i < 8) (b : Nat) : (jc f wf lf).set (1 + i) (.float .f64 b) = jc f (put wf i b) lf := by
  unfold jc
  rw [Nat.add_comm, List.set_cons_succ, List.set_append, if_pos (by rw [fl_len]; exact h), fl_set]
theorem jc_setl (f : Int) (wf : Nat → Nat) (lf : Nat → Int) {i : Nat} (b : Int) : (jc f wf lf).set (9 + i) (.int .i64 b) = jc f wf (put lf i b) := by
  unfold jc
  rw [show 9 + i = (8 + i) + 1 from by omega, List.set_cons_succ, List.set_append, if_neg (by rw [fl_len]; omega), fl_len, show 8 + i - 8 = i from by omega, il_set]
theorem fl_one (wf : Nat → Nat) : ∀ v ∈ fl wf, v.oneCell' = true := by
  intro v hv; simp only [fl, List.mem_map] at hv; obtain ⟨i, _, rfl⟩ := hv; rfl
theorem il_one (lf : Nat → Int) : ∀ v ∈ il lf, v.oneCell' = true := by
  intro v hv; simp only [il, List.mem_map] at hv; obtain ⟨i, _, rfl⟩ := hv; rfl
theorem jc_one (f : Int) (wf : Nat → Nat) (lf : Nat → Int) : ∀ v ∈ jc f wf lf, v.oneCell' = true := by
  intro v hv
  simp only [jc, List.mem_cons, List.mem_append] at hv
  rcases hv with rfl | h | h
  · rfl
  · exact fl_one wf v h
  · exact il_one lf v h
theorem jc_ext {f : Int} {wf wf' : Nat → Nat} {lf lf' : Nat → Int} (h1 : ∀ i, i < 8 → wf i = wf' i) (h2 : ∀ i, i < 8 → lf i = lf' i) : jc f wf lf = jc f wf' lf' := by
  unfold jc fl il
  congr 1
  congr 1
  · exact List.map_congr_left fun p hp => by rw [h1 p (by simpa using hp)]
  · exact List.map_congr_left fun p hp => by rw [h2 p (by simpa using hp)]
/-- The bits of the times, the numbers of the contacts. -/
def wb (s : St) : Nat → Nat := fun i => (s.wh i).b
def lb (s : St) : Nat → Int := fun i => kI (s.la i)
theorem wb_put (s : St) (i : Nat) (m : FL.Mo) (la : Nat → Option Nat) : put (wb s) i m.b = wb ⟨put s.wh i m, la⟩ := by
  funext p; simp only [wb, put]; split <;> rfl
theorem lb_put (s : St) (i : Nat) (k : Nat) (wh : Nat → FL.Mo) : put (lb s) i (k : Int) = lb ⟨wh, put s.la i (some k)⟩ := by
  funext p; simp only [lb, put]; split <;> rfl
/-- A journey that lies in memory. -/
abbrev JR (W : World) (q : Nat) (f : Int) (s : St) : Prop := MA.Rg W q 0 (jc f (wb s) (lb s))
theorem rg_w {W : World} {q : Nat} {f : Int} {wf : Nat → Nat} {lf : Nat → Int} (h : MA.Rg W q 0 (jc f wf lf)) {i : Nat} (hi : i < 8) : W.cell? ⟨q, 1 + i, none⟩ = some (.float .f64 (wf i)) ∧ W.frozen? ⟨q, 1 + i, none⟩ = false := by
  have h1 := h.cell (jc_w f wf lf hi)
  have h2 := h.free (j := 1 + i) (by rw [jc_len]; omega)
  rw [Nat.zero_add] at h1 h2
  exact ⟨h1, h2⟩
theorem rg_l {W : World} {q : Nat} {f : Int} {wf : Nat → Nat} {lf : Nat → Int} (h : MA.Rg W q 0 (jc f wf lf)) {i : Nat} (hi : i < 8) : W.cell? ⟨q, 9 + i, none⟩ = some (.int .i64 (lf i)) ∧ W.frozen? ⟨q, 9 + i, none⟩ = false := by
  have h1 := h.cell (jc_l f wf lf hi)
  have h2 := h.free (j := 9 + i) (by rw [jc_len]; omega)
  rw [Nat.zero_add] at h1 h2
  exact ⟨h1, h2⟩
theorem rg_setw {W : World} {q : Nat} {f : Int} {wf : Nat → Nat} {lf : Nat → Int} (h : MA.Rg W q 0 (jc f wf lf)) {i : Nat} (hi : i < 8) (b : Nat) : MA.Rg (W.setCell ⟨q, 1 + i, none⟩ (.float .f64 b)) q 0 (jc f (put wf i b) lf) := by
  have := h.put1 (j := 1 + i) (by rw [jc_len]; omega) (.float .f64 b)
  rw [Nat.zero_add, jc_setw _ _ _ hi] at this; exact this
theorem rg_setl {W : World} {q : Nat} {f : Int} {wf : Nat → Nat} {lf : Nat → Int} (h : MA.Rg W q 0 (jc f wf lf)) {i : Nat} (hi : i < 8) (b : Int) : MA.Rg (W.setCell ⟨q, 9 + i, none⟩ (.int .i64 b)) q 0 (jc f wf (put lf i b)) := by
  have := h.put1 (j := 9 + i) (by rw [jc_len]; omega) (.int .i64 b)
  rw [Nat.zero_add, jc_setl] at this; exact this
/-- The measure of the search, read out of a journey's cells. -/
def wF : Option Value → Nat
  | some (.float _ b) => match (FloatKind.f64.decode b).toInt .zero with
    | some n => n.toNat
    | none => 1048577
  | _ => 0
def MJ (q : Nat) (W : World) : Nat := wF (W.cell? ⟨q, 1 + 0, none⟩) + wF (W.cell? ⟨q, 1 + 1, none⟩) + wF (W.cell? ⟨q, 1 + 2, none⟩) + wF (W.cell? ⟨q, 1 + 3, none⟩) + wF (W.cell? ⟨q, 1 + 4, none⟩) + wF (W.cell? ⟨q, 1 + 5, none⟩) + wF (W.cell? ⟨q, 1 + 6, none⟩) + wF (W.cell? ⟨q, 1 + 7, none⟩)
theorem wF_b {m : FL.Mo} (h : okT m) : wF (some (.float .f64 m.b)) = wt m := by
  cases m with
  | fin n =>
    simp only [okT] at h
    have := FL.toInt_bits n (by omega)
    simp only [wF, FL.Mo.b, wt, this]
  | inf => decide
  | ago => exact absurd h id
theorem JR.mu {W : World} {q : Nat} {f : Int} {s : St} (h : JR W q f s) (hs : okS s.wh) : MJ q W = mu s.wh := by
  unfold MJ PN.mu
  rw [(rg_w h (i := 0) (by omega)).1, (rg_w h (i := 1) (by omega)).1, (rg_w h (i := 2) (by omega)).1, (rg_w h (i := 3) (by omega)).1, (rg_w h (i := 4) (by omega)).1, (rg_w h (i := 5) (by omega)).1, (rg_w h (i := 6) (by omega)).1, (rg_w h (i := 7) (by omega)).1]
  simp only [wb]
  rw [wF_b (hs 0), wF_b (hs 1), wF_b (hs 2), wF_b (hs 3), wF_b (hs 4), wF_b (hs 5), wF_b (hs 6), wF_b (hs 7)]
/-- The best so far, as the program has it. -/
def BJ : Option (Nat × Int) → Int → FL.Mo → Prop
  | none, b, m => b = 0 ∧ m = .inf
  | some (k, u), b, m => b = k ∧ m = .fin u
end PN
end Go.Proofs.Ytickoajkppgdaaa

/- (journey).next, the program's. -/
namespace Go.Proofs.Ytickoajkppgdaaa
open Go.RowKit
namespace PN
open FL
theorem early_lt {t : Int} {m : Mo} (h : early t m = true) : (Mo.fin t).cmp m = .lt := by
  cases m with
  | fin u => exact cmp_lt (by simpa [early] using h)
  | inf => rfl
  | ago => cases h
theorem late_ge {t : Int} {m : Mo} (hm : okT m) (h : early t m = false) : (Mo.fin t).cmp m = .gt ∨ (Mo.fin t).cmp m = .eq := by
  cases m with
  | fin u =>
    have : u ≤ t := by simpa [early] using h
    by_cases e : t = u
    · subst e; exact .inr (cmp_same t)
    · exact .inl (cmp_gt (by omega))
  | inf => cases h
  | ago => exact absurd hm id
theorem inf_ge {m : Mo} (hm : okT m) : Mo.inf.cmp m = .gt ∨ Mo.inf.cmp m = .eq := by
  cases m with
  | fin u => exact .inl rfl
  | inf => exact .inr rfl
  | ago => exact absurd hm id
theorem fin_ge {t u : Int} (h : ¬ t < u) : (Mo.fin t).cmp (.fin u) = .gt ∨ (Mo.fin t).cmp (.fin u) = .eq := by
  by_cases e : t = u
  · subst e; exact .inr (cmp_same t)
  · exact .inl (cmp_gt (by omega))
/-- What next tells. -/
def nextN : Option (Nat × Int) → Int
  | none => 0
  | some (k, _) => k
end PN
set_option linter.unusedSimpArgs false in
set_option maxHeartbeats 3200000 in
set_option maxRecDepth 100000 in
theorem next6_any (a : Option Addr) (ca : Nat) (xs : List I5) (f : Int) (s : PN.St) (w : World) (hok : PN.okP xs = true) (hO : PN.okS s.wh) (hin : MI5.RowAt w a xs) :
    Calls Try.prog 42 #[.agg (PN.jc f (PN.wb s) (PN.lb s)).toArray, .slice a xs.length ca] w fun e w' => e = .returned (.tuple #[.int .i64 (PN.nextN (PN.best xs s.wh xs.length)), .bool (PN.best xs s.wh xs.length).isSome]) ∧ Below w.heap.size w w' := by
  have NV : Hid (∀ W : World, Calls Try.prog 41 #[] W fun e w' => e = .returned (.float .f64 FL.Mo.inf.b) ∧ W = w') := fun W => never_any W
  have HI : Hid (MI5.RowAt w a xs) := hin
  have hlen : xs.length ≤ 20 := ((PN.okP_iff xs).1 hok).1
  have GC : Hid (∀ k, k < xs.length → PN.Good (MI5.at_ xs k)) := fun k hk => PN.okP_good hok hk
  have HO : Hid _ := hO
  have AT : Hid (∀ k, k < xs.length → PN.okT (PN.arr (MI5.at_ xs k) (s.wh (MI5.at_ xs k).a0.toNat))) := fun k hk => PN.okT_of_arr hok hO hk
  have hJ := MA.Rg.new w (PN.jc f (PN.wb s) (PN.lb s)) 57
  have hB0 : Below w.heap.size w (w.alloc (.cells (PN.jc f (PN.wb s) (PN.lb s)).toArray 57)) := (Below.refl _ w).alloc (Nat.le_refl _) _
  have HJ : Hid _ := hJ
  have HB0 : Hid _ := hB0
  obtain ⟨R, hR⟩ : ∃ R, PN.best xs s.wh xs.length = R := ⟨_, rfl⟩
  rw [hR]
  have HR : Hid _ := hR
  clear hin hok hO hJ hB0 hR
  go_enter Try.func42, Try.ntmps42
  go_wp2_with fail
  refine (NV.out _).mono ?_
  rintro e w' ⟨rfl, rfl⟩
  generalize w.alloc (.cells (PN.jc f (PN.wb s) (PN.lb s)).toArray 57) = W0 at *
  generalize hz : w.heap.size = jb at *
  have HB1 : Hid (Below w.heap.size w W0) := by rw [hz]; exact HB0.out
  clear HB0
  go_wp2
  go_loopw [6, 7, 14] (fun nv ev iv wi => ∃ (k : Nat) (b : Int) (m : FL.Mo) (z : Nat), nv = .int .i64 b ∧ ev = .float .f64 z ∧ iv = .int .i64 k ∧ k ≤ xs.length ∧ Hid (PN.BJ (PN.best xs s.wh k) b m) ∧ Hid (m.b = z) ∧ Below W0.heap.size W0 wi) (fun _ _ iv _ => (xs.length - intOf iv).toNat)
  case atStart => exact ⟨0, 0, .inf, _, rfl, rfl, rfl, by omega, show Hid _ from ⟨rfl, rfl⟩, rfl, Below.refl _ _⟩
  case round =>
    obtain ⟨k, b, m, z, rfl, rfl, rfl, hk, hT, hM, hb⟩ := hrel
    by_cases hlk : k < xs.length
    · obtain ⟨b4, off4, rfl, hlt4, e0, e1, e2, e3, e4⟩ := (HI.out.below (HB1.out.trans (hb.mono HB1.out.size))).at hlk
      have G := GC.out k hlk
      have oa := AT.out k hlk
      obtain ⟨i, hi⟩ := Int.eq_ofNat_of_zero_le G.f0
      obtain ⟨j, hj⟩ := Int.eq_ofNat_of_zero_le G.t0
      have hi8 : i < 8 := by have := G.f1; omega
      have hj8 : j < 8 := by have := G.t1; omega
      have ii0 : (0 : Int) ≤ (i : Int) := by omega
      have ii8 : (i : Int) < 8 := by omega
      have jj0 : (0 : Int) ≤ (j : Int) := by omega
      have jj8 : (j : Int) < 8 := by omega
      have hin : (MI5.at_ xs k).a0.toNat = i := by rw [hi]; rfl
      have hjn : (MI5.at_ xs k).a1.toNat = j := by rw [hj]; rfl
      have B1 : Hid _ := @PN.best_skip xs s.wh k
      have B2 : Hid _ := @PN.best_late xs s.wh k
      have B3 : Hid _ := @PN.best_first xs s.wh k
      have B4 : Hid _ := @PN.best_new xs s.wh k
      have B5 : Hid _ := @PN.best_old xs s.wh k
      rw [hin] at B1 B2 B3 B4 B5 oa
      rw [hjn] at B2 B3 B4 B5
      have oi := HO.out i
      have oj := HO.out j
      have om : PN.okT m := by
        have hT' := hT.out
        cases hbk : PN.best xs s.wh k with
        | none => rw [hbk] at hT'; rw [hT'.2]; trivial
        | some p =>
          obtain ⟨kb, u⟩ := p
          rw [hbk] at hT'
          obtain ⟨h1, h2, _⟩ := PN.best_is hbk
          have := AT.out kb (by omega)
          rw [h2] at this; rw [hT'.2]; exact this
      have hJr := MA.Rg.below HJ.out hb HJ.out.lt
      rw [hi] at e0
      rw [hj] at e1
      have AR : Hid (∀ W : World, Calls Try.prog 24 #[(MI5.at_ xs k).v, .float .f64 (s.wh i).b] W fun e w' => e = .returned (.float .f64 (PN.arr (MI5.at_ xs k) (s.wh i)).b) ∧ Below W.heap.size W w') := fun W => arrival_any _ _ W G oi
      clear GC HI AT HO HR hin hjn G
      generalize hx : MI5.at_ xs k = x at *
      obtain ⟨x0, x1, x2, x3, x4⟩ := x
      simp only at hi hj e0 e1 e2 e3 e4
      subst hi hj
      clear hx
      have hbA : Below W0.heap.size W0 (wr.alloc (.cells #[.int .i64 (i : Int), .int .i64 (j : Int), .int .i64 x2, .int .i64 x3, .int .i64 x4] 40)) := hb.alloc hb.size _
      have HBA : Hid _ := hbA
      have F0 : Hid ((wr.alloc (.cells #[.int .i64 (i : Int), .int .i64 (j : Int), .int .i64 x2, .int .i64 x3, .int .i64 x4] 40)).cell? ⟨wr.heap.size, 0, none⟩ = some (.int .i64 (i : Int))) := by show _ = _; simp
      have F1 : Hid ((wr.alloc (.cells #[.int .i64 (i : Int), .int .i64 (j : Int), .int .i64 x2, .int .i64 x3, .int .i64 x4] 40)).cell? ⟨wr.heap.size, 1, none⟩ = some (.int .i64 (j : Int))) := by show _ = _; simp
      have F2 : Hid ((wr.alloc (.cells #[.int .i64 (i : Int), .int .i64 (j : Int), .int .i64 x2, .int .i64 x3, .int .i64 x4] 40)).cell? ⟨wr.heap.size, 2, none⟩ = some (.int .i64 x2)) := by show _ = _; simp
      have F3 : Hid ((wr.alloc (.cells #[.int .i64 (i : Int), .int .i64 (j : Int), .int .i64 x2, .int .i64 x3, .int .i64 x4] 40)).cell? ⟨wr.heap.size, 3, none⟩ = some (.int .i64 x3)) := by show _ = _; simp
      have F4 : Hid ((wr.alloc (.cells #[.int .i64 (i : Int), .int .i64 (j : Int), .int .i64 x2, .int .i64 x3, .int .i64 x4] 40)).cell? ⟨wr.heap.size, 4, none⟩ = some (.int .i64 x4)) := by show _ = _; simp
      have HQ : Hid (wr.heap.size < (wr.alloc (.cells #[.int .i64 (i : Int), .int .i64 (j : Int), .int .i64 x2, .int .i64 x3, .int .i64 x4] 40)).heap.size) := by show _ < _; simp
      have HJ1 : Hid (MA.Rg (wr.alloc (.cells #[.int .i64 (i : Int), .int .i64 (j : Int), .int .i64 x2, .int .i64 x3, .int .i64 x4] 40)) jb 0 (PN.jc f (PN.wb s) (PN.lb s))) := hJr.alloc _
      clear hbA hJr
      go_wp2_with fail
      clear e0 e1 e2 e3 e4 hlt4
      generalize (wr.alloc (.cells #[.int .i64 (i : Int), .int .i64 (j : Int), .int .i64 x2, .int .i64 x3, .int .i64 x4] 40)) = W1 at *
      generalize wr.heap.size = q at *
      have f0 := F0.out
      have f1 := F1.out
      have f2 := F2.out
      have f3 := F3.out
      have f4 := F4.out
      have hq := HQ.out
      have hci : W1.cell? ⟨jb, 1 + i, none⟩ = some (.float .f64 (s.wh i).b) := (PN.rg_w HJ1.out hi8).1
      have hjb := HJ1.out.lt
      clear F0 F1 F2 F3 F4 HQ
      go_region_held3 (fun w' => w'.cell? ⟨q, 0, none⟩ = some (.int .i64 (i : Int)) ∧ w'.cell? ⟨q, 1, none⟩ = some (.int .i64 (j : Int)) ∧ w'.cell? ⟨q, 2, none⟩ = some (.int .i64 x2) ∧ w'.cell? ⟨q, 3, none⟩ = some (.int .i64 x3) ∧ w'.cell? ⟨q, 4, none⟩ = some (.int .i64 x4) ∧ w'.cell? ⟨jb, 1 + i, none⟩ = some (.float .f64 (s.wh i).b)) (first | assumption | go_keep) (first | (go_at_call 24; refine Calls.mono (AR.out _) ?_; rintro e w3 ⟨rfl, hb3⟩; have k0 : w3.cell? ⟨q, 0, none⟩ = some (.int .i64 (i : Int)) := (hb3.cell (p := ⟨q, 0, none⟩) (by simpa using hq)).trans (by simpa using f0); have k1 : w3.cell? ⟨q, 1, none⟩ = some (.int .i64 (j : Int)) := (hb3.cell (p := ⟨q, 1, none⟩) (by simpa using hq)).trans (by simpa using f1); have k2 : w3.cell? ⟨q, 2, none⟩ = some (.int .i64 x2) := (hb3.cell (p := ⟨q, 2, none⟩) (by simpa using hq)).trans (by simpa using f2); have k3 : w3.cell? ⟨q, 3, none⟩ = some (.int .i64 x3) := (hb3.cell (p := ⟨q, 3, none⟩) (by simpa using hq)).trans (by simpa using f3); have k4 : w3.cell? ⟨q, 4, none⟩ = some (.int .i64 x4) := (hb3.cell (p := ⟨q, 4, none⟩) (by simpa using hq)).trans (by simpa using f4); have ki : w3.cell? ⟨jb, 1 + i, none⟩ = some (.float .f64 (s.wh i).b) := (hb3.cell (p := ⟨jb, 1 + i, none⟩) (by simpa using hjb)).trans (by simpa using hci)))
      have hB3 : Below W0.heap.size W0 w3 := HBA.out.drew.trans (hb3.mono (by have := HBA.out.size; simpa using this))
      have kj : w3.cell? ⟨jb, 1 + j, none⟩ = some (.float .f64 (s.wh j).b) := (hb3.cell (p := ⟨jb, 1 + j, none⟩) (by simpa using hjb)).trans (by have h : W1.cell? ⟨jb, 1 + j, none⟩ = some (.float .f64 (s.wh j).b) := (PN.rg_w HJ1.out hj8).1; simpa using h)
      have hq3 : q < w3.heap.size := Nat.lt_of_lt_of_le (by simpa using hq) hb3.size
      have hj3 : jb < w3.heap.size := Nat.lt_of_lt_of_le (by simpa using hjb) hb3.size
      clear f0 f1 f2 f3 f4 hci hq hjb hb3 HJ1 HBA AR k0 k2 k3 k4 ki hb
      generalize hr : PN.arr _ (s.wh i) = r at *
      generalize hmj : s.wh j = mj at *
      have o1 := FL.order_is r mj (PN.okT_ok oa) (PN.okT_ok oj)
      have o2 := FL.order_is r m (PN.okT_ok oa) (PN.okT_ok om)
      rw [hM.out] at o2
      cases r with
      | ago => exact absurd oa id
      | inf =>
        have hT' : Hid (PN.BJ (PN.best xs s.wh (k + 1)) b m) := by rw [B1.out rfl]; exact hT
        have hge := PN.inf_ge oj
        clear B1 B2 B3 B4 B5 hT o2 hmj hr
        generalize FL.Mo.cmp .inf mj = o at *
        generalize FL.Mo.b mj = zj at *
        rcases hge with rfl | rfl
        all_goals
          go_wp2
          go_roundw
          case rel => exact ⟨k + 1, b, m, z, rfl, rfl, by go_num, by omega, hT', hM, hB3⟩
          case measure => simp [intOf]; omega
      | fin t =>
        cases he : PN.early t mj with
        | false =>
          have hT' : Hid (PN.BJ (PN.best xs s.wh (k + 1)) b m) := by rw [B2.out rfl he]; exact hT
          have hge := PN.late_ge oj he
          clear B1 B2 B3 B4 B5 hT o2 hmj hr he
          generalize FL.Mo.cmp (.fin t) mj = o at *
          generalize FL.Mo.b mj = zj at *
          generalize FL.Mo.b (.fin t) = zr at *
          rcases hge with rfl | rfl
          all_goals
            go_wp2
            go_roundw
            case rel => exact ⟨k + 1, b, m, z, rfl, rfl, by go_num, by omega, hT', hM, hB3⟩
            case measure => simp [intOf]; omega
        | true =>
          rw [PN.early_lt he] at o1
          have hT1 := hT.out
          have pick : ((FL.Mo.fin t).cmp m = .lt ∧ Hid (PN.BJ (PN.best xs s.wh (k + 1)) (k : Int) (.fin t))) ∨ (((FL.Mo.fin t).cmp m = .gt ∨ (FL.Mo.fin t).cmp m = .eq) ∧ Hid (PN.BJ (PN.best xs s.wh (k + 1)) b m)) := by
            cases hbk : PN.best xs s.wh k with
            | none =>
              rw [hbk] at hT1
              exact .inl ⟨by rw [hT1.2]; rfl, by rw [B3.out rfl he hbk]; exact ⟨rfl, rfl⟩⟩
            | some p =>
              obtain ⟨kb, u⟩ := p
              rw [hbk] at hT1
              obtain ⟨h1, h2⟩ := hT1
              by_cases hlt : t < u
              · exact .inl ⟨by rw [h2]; exact FL.cmp_lt hlt, by rw [B4.out rfl he hbk hlt]; exact ⟨rfl, rfl⟩⟩
              · exact .inr ⟨by rw [h2]; exact PN.fin_ge hlt, by rw [B5.out rfl he hbk (by omega)]; exact ⟨h1, h2⟩⟩
          clear B1 B2 B3 B4 B5 hT hT1 hmj hr he
          rcases pick with ⟨pk, hT'⟩ | ⟨pk, hT'⟩
          · rw [pk] at o2
            have hM' : Hid ((FL.Mo.fin t).b = (FL.Mo.fin t).b) := rfl
            clear pk hM
            generalize FL.Mo.b mj = zj at *
            generalize hzr : FL.Mo.b (.fin t) = zr at *
            have hM2 : Hid ((FL.Mo.fin t).b = zr) := hzr
            clear hM' hzr
            go_wp2
            go_roundw
            case rel => exact ⟨k + 1, k, .fin t, zr, rfl, rfl, by go_num, by omega, hT', hM2, hB3⟩
            case measure => simp [intOf]; omega
          · generalize FL.Mo.cmp (.fin t) m = o at *
            generalize FL.Mo.b mj = zj at *
            generalize FL.Mo.b (.fin t) = zr at *
            rcases pk with rfl | rfl
            all_goals
              go_wp2
              go_roundw
              case rel => exact ⟨k + 1, b, m, z, rfl, rfl, by go_num, by omega, hT', hM, hB3⟩
              case measure => simp [intOf]; omega
    · obtain rfl : k = xs.length := by omega
      have hT' := hT.out
      rw [HR.out] at hT'
      cases R with
      | none =>
        obtain ⟨rfl, rfl⟩ := hT'
        have o1 : FloatKind.f64.format.order z FL.Mo.inf.b = some .eq := by rw [← hM.out]; decide
        clear hT hM HR AT GC HO HI HJ
        go_wp2_with fail
        refine (NV.out _).mono ?_
        rintro e w' ⟨rfl, rfl⟩
        generalize FL.Mo.inf.b = zi at *
        go_wp2
        go_ret2
        exact ⟨rfl, HB1.out.trans (hb.mono HB1.out.size)⟩
      | some p =>
        obtain ⟨kb, u⟩ := p
        obtain ⟨rfl, rfl⟩ := hT'
        have ou : PN.okT (.fin u) := by
          obtain ⟨h1, h2, _⟩ := PN.best_is HR.out
          have := AT.out kb h1
          rw [h2] at this; exact this
        have o1 : FloatKind.f64.format.order z FL.Mo.inf.b = some .lt := by rw [← hM.out]; exact FL.order_is (.fin u) .inf (PN.okT_ok ou) trivial
        clear hT hM HR AT GC HO HI HJ ou
        go_wp2_with fail
        refine (NV.out _).mono ?_
        rintro e w' ⟨rfl, rfl⟩
        generalize FL.Mo.inf.b = zi at *
        go_wp2
        go_ret2
        exact ⟨rfl, HB1.out.trans (hb.mono HB1.out.size)⟩
end Go.Proofs.Ytickoajkppgdaaa

/- journeyFrom, the program's. -/
namespace Go.Proofs.Ytickoajkppgdaaa
open Go.RowKit
namespace PN
/-- The result's box, and the journey that is being made. -/
structure JW (w W : World) (rb jb : Nat) (f : Int) (wf : Nat → Nat) (lf : Nat → Int) : Prop where
  r : MA.Rg W rb 0 (jc 0 (fun _ => 0) (fun _ => 0))
  j : MA.Rg W jb 0 (jc f wf lf)
  ne : rb ≠ jb
  br : w.heap.size ≤ rb
  bj : w.heap.size ≤ jb
  bl : Below w.heap.size w W
theorem JW.kept {w W W' : World} {rb jb : Nat} {f : Int} {wf : Nat → Nat} {lf : Nat → Int} (h : JW w W rb jb f wf lf) (hb : Below W.heap.size W W') : JW w W' rb jb f wf lf :=
  ⟨h.r.below hb h.r.lt, h.j.below hb h.j.lt, h.ne, h.br, h.bj, h.bl.trans (hb.mono h.bl.size)⟩
theorem JW.setw {w W : World} {rb jb : Nat} {f : Int} {wf : Nat → Nat} {lf : Nat → Int} (h : JW w W rb jb f wf lf) {i : Nat} (hi : i < 8) (b : Nat) : JW w (W.setCell ⟨jb, 1 + i, none⟩ (.float .f64 b)) rb jb f (put wf i b) lf :=
  ⟨h.r.other (k' := jb) (o' := 1 + i) (vs := [.float .f64 b]) (.inl h.ne), rg_setw h.j hi b, h.ne, h.br, h.bj, MA.below_cells h.bj [.float .f64 b] (1 + i) W h.bl⟩
theorem JW.setl {w W : World} {rb jb : Nat} {f : Int} {wf : Nat → Nat} {lf : Nat → Int} (h : JW w W rb jb f wf lf) {i : Nat} (hi : i < 8) (b : Int) : JW w (W.setCell ⟨jb, 9 + i, none⟩ (.int .i64 b)) rb jb f wf (put lf i b) :=
  ⟨h.r.other (k' := jb) (o' := 9 + i) (vs := [.int .i64 b]) (.inl h.ne), rg_setl h.j hi b, h.ne, h.br, h.bj, MA.below_cells h.bj [.int .i64 b] (9 + i) W h.bl⟩
theorem jw_new (w : World) (t : TypeId) (f : Int) : JW w (((w.alloc (.cells (jc 0 (fun _ => 0) (fun _ => 0)).toArray t)).alloc (.cells (jc 0 (fun _ => 0) (fun _ => 0)).toArray t)).setCells (w.heap.size + 1) 0 (jc f (fun _ => 0) (fun _ => 0))) w.heap.size (w.heap.size + 1) f (fun _ => 0) (fun _ => 0) := by
  have r1 := (MA.Rg.new w (jc 0 (fun _ => 0) (fun _ => 0)) t).alloc (.cells (jc 0 (fun _ => 0) (fun _ => 0)).toArray t)
  have r2 := MA.Rg.new' (w.alloc (.cells (jc 0 (fun _ => 0) (fun _ => 0)).toArray t)) (jc 0 (fun _ => 0) (fun _ => 0)) t (w.heap.size + 1) (by simp)
  exact ⟨r1.other (.inl (by omega)), r2.put (by rw [jc_len, jc_len]), by omega, Nat.le_refl _, by omega, MA.below_cells (by omega) _ _ _ (((Below.refl _ w).alloc (Nat.le_refl _) _).alloc (by simp) _)⟩
def upB (k : Nat) : Nat → Nat := fun i => if i < k then FL.Mo.inf.b else 0
theorem upB_put (k : Nat) : put (upB k) k FL.Mo.inf.b = upB (k + 1) := by
  funext p
  simp only [put, upB]
  by_cases e : p = k
  · subst e; simp
  · rw [if_neg e]
    by_cases h : p < k
    · rw [if_pos h, if_pos (by omega)]
    · rw [if_neg h, if_neg (by omega)]
theorem upB_all {f : Int} {lf : Nat → Int} : jc f (upB 8) lf = jc f (wb ⟨fun _ => .inf, fun _ => none⟩) lf := jc_ext (fun i hi => by simp [upB, wb, hi]) (fun _ _ => rfl)
end PN
theorem Try.infoJ : (Try.prog.info? 57).map (fun i => (i.zero, i.size)) = some (some (.agg (PN.jc 0 (fun _ => 0) (fun _ => 0)).toArray), 17) := by kernel_rfl
theorem Try.sizeJ : (Try.prog.info? 57).map (·.size) = some 17 := by kernel_rfl
theorem Try.builtJ (f : Int) : Try.prog.built 57 [(0, .int .i64 f)] = some (PN.jc f (fun _ => 0) (fun _ => 0)).toArray := by kernel_rfl
theorem MA.build_pJ {P : Program} {ops : Array Oper} {rest : List Oper} {op : Oper} {a : Act} {w : World} {Q : Exit → Act → World → Prop} (hgd : op.guard = none) (ty : TypeId) {parts : Array (Nat × Operand)} (ho : op.op = .build ty parts)
    (ps : List (Nat × Value)) (hps : (parts.map fun (i, x) => (i, a.eval x)).toList = ps) {cs : List Value} (hb : P.built ty ps = some cs.toArray)
    (h : wpList P ops Q rest (a.put op.dst (.agg cs.toArray)) w) : wpList P ops Q (op :: rest) a w := MA.build_m hgd ty ho (by rw [hps]; exact hb) h
set_option linter.unusedSimpArgs false in
set_option maxHeartbeats 3200000 in
set_option maxRecDepth 100000 in
theorem journeyFrom_any (a : Option Addr) (ca : Nat) (xs : List I5) (f n : Int) (w : World) (hok : PN.okP xs = true) (hf0 : 0 ≤ f) (hf1 : f ≤ 7) (hn0 : 0 ≤ n) (hn1 : n ≤ 1000) (hin : MI5.RowAt w a xs) :
    Calls Try.prog 20 #[.slice a xs.length ca, .int .i64 f, .int .i64 n] w fun e w' => e = .returned (.agg (PN.jc f (PN.wb (PN.fin xs (PN.st0 f n))) (PN.lb (PN.fin xs (PN.st0 f n)))).toArray) ∧ Below w.heap.size w w' := by
  have NV : Hid (∀ W : World, Calls Try.prog 41 #[] W fun e w' => e = .returned (.float .f64 FL.Mo.inf.b) ∧ W = w') := fun W => never_any W
  have SF : ∀ (W : World) (ad : Addr) (b : Nat) (m : Mode), (store ad (.float .f64 b) m).run Try.prog W = stored Try.prog W ad (.float .f64 b) m := fun W ad b m => run_store _ W ad _ m rfl
  have HI : Hid (MI5.RowAt w a xs) := hin
  have hlen : xs.length ≤ 20 := ((PN.okP_iff xs).1 hok).1
  have GC : Hid (∀ k, k < xs.length → PN.Good (MI5.at_ xs k)) := fun k hk => PN.okP_good hok hk
  have HOK : Hid _ := hok
  have NX : Hid (∀ (s : PN.St) (W : World), PN.okS s.wh → MI5.RowAt W a xs → Calls Try.prog 42 #[.agg (PN.jc f (PN.wb s) (PN.lb s)).toArray, .slice a xs.length ca] W fun e w' => e = .returned (.tuple #[.int .i64 (PN.nextN (PN.best xs s.wh xs.length)), .bool (PN.best xs s.wh xs.length).isSome]) ∧ Below W.heap.size W w') := fun s W hs hr => next6_any a ca xs f s W hok hs hr
  obtain ⟨fn, rfl⟩ := Int.eq_ofNat_of_zero_le hf0
  have hfn : fn < 8 := by omega
  have ff1 : (fn : Int) < 8 := by omega
  have HN : Hid _ := PN.jw_new w 57 (fn : Int)
  have RZ : Hid (MA.Rg ((w.alloc (.cells (PN.jc 0 (fun _ => 0) (fun _ => 0)).toArray 57)).alloc (.cells (PN.jc 0 (fun _ => 0) (fun _ => 0)).toArray 57)) (w.heap.size + 1) 0 (PN.jc 0 (fun _ => 0) (fun _ => 0))) := MA.Rg.new' _ _ _ _ (by simp)
  clear hin hok
  go_enter Try.func20, Try.ntmps20
  go_wp2_with (first
    | (refine MA.alloc_z rfl 57 rfl _ _ Try.infoJ ?_; simp only [MA.sz_alloc])
    | (refine MA.build_pJ rfl 57 rfl [(0, .int .i64 (fn : Int))] (by simp [Act.eval]) (Try.builtJ _) ?_)
    | (refine MA.store_m rfl 57 _ _ rfl rfl rfl (vs := PN.jc (fn : Int) (fun _ => 0) (fun _ => 0)) (cs := PN.jc 0 (fun _ => 0) (fun _ => 0)) ?_ Try.sizeJ (PN.jc_len _ _ _) (PN.jc_len _ _ _) (PN.jc_one _ _ _) ?_; exact RZ.out; clear RZ; generalize World.setCells _ _ _ _ = W3 at *))
  generalize w.heap.size + 1 = jb at *
  go_loopw [14] (fun iv wr => ∃ k : Nat, iv = .int .i64 k ∧ k ≤ 8 ∧ PN.JW w wr w.heap.size jb (fn : Int) (PN.upB k) (fun _ => 0)) (fun iv _ => (8 - intOf iv).toNat)
  case atStart => exact ⟨0, rfl, by omega, HN.out⟩
  case round =>
    clear HN
    obtain ⟨k, rfl, hk, hJ⟩ := hrel
    by_cases hl : k < 8
    · obtain ⟨q1, z1⟩ := PN.rg_w hJ.j hl
      have hl1 := hJ.j.lt
      have hJ2 := hJ.setw hl FL.Mo.inf.b
      rw [PN.upB_put] at hJ2
      have HJ2 : Hid _ := hJ2
      have kk : (k : Int) < 8 := by omega
      clear hJ hJ2
      go_wp2_with fail
      refine (NV.out _).mono ?_
      rintro e w' ⟨rfl, rfl⟩
      go_wp2
      go_roundw
      case rel => exact ⟨k + 1, by go_num, by omega, HJ2.out⟩
      case measure => simp [intOf]; omega
    · obtain rfl : k = 8 := by omega
      have hJ0 : PN.JW w wr w.heap.size jb (fn : Int) (PN.wb ⟨fun _ => .inf, fun _ => none⟩) (PN.lb ⟨fun _ => .inf, fun _ => none⟩) := by
        have h := hJ.j
        rw [PN.upB_all] at h
        exact ⟨hJ.r, h, hJ.ne, hJ.br, hJ.bj, hJ.bl⟩
      obtain ⟨q1, z1⟩ := PN.rg_w hJ0.j hfn
      have hl1 := hJ0.j.lt
      have hJ1 := hJ0.setw hfn (FL.Mo.fin n).b
      rw [PN.wb_put _ _ _ (fun _ => none)] at hJ1
      have HS0 : Hid (PN.JW w (wr.setCell ⟨jb, 1 + fn, none⟩ (.float .f64 (floatOfInt .f64 n))) w.heap.size jb (fn : Int) (PN.wb (PN.st0 (fn : Int) n)) (PN.lb (PN.st0 (fn : Int) n))) := hJ1
      have HOS : Hid (PN.okS (PN.st0 (fn : Int) n).wh) := PN.st0_ok hn0 hn1
      clear hJ hJ0 hJ1
      generalize hst : PN.st0 (fn : Int) n = s0 at *
      have HR0 : Hid (MA.Rg (wr.setCell ⟨jb, 1 + fn, none⟩ (.float .f64 (floatOfInt .f64 n))) jb 0 (PN.jc (fn : Int) (PN.wb s0) (PN.lb s0))) := HS0.out.j
      go_wp2_with (refine MA.load_m rfl 57 _ rfl rfl (cs := PN.jc (fn : Int) (PN.wb s0) (PN.lb s0)) ?_ Try.underlying57 rfl Try.sizeJ (PN.jc_len _ _ _) ?_; exact HR0.out; clear HR0)
      generalize wr.setCell ⟨jb, 1 + fn, none⟩ (.float .f64 (floatOfInt .f64 n)) = W4 at *
      clear q1 z1 hl1
      refine (NX.out s0 _ HOS.out (HI.out.below HS0.out.bl)).mono ?_
      rintro e w5 ⟨rfl, hb5⟩
      have HS5 : Hid _ := HS0.out.kept hb5
      clear HS0 hb5
      generalize hbest : PN.best xs s0.wh xs.length = R0 at *
      have HBT : Hid _ := hbest
      clear hbest
      go_wp2
      go_loopw [9, 10] (fun kv ov wr => ∃ s : PN.St, kv = .int .i64 (PN.nextN (PN.best xs s.wh xs.length)) ∧ ov = .bool (PN.best xs s.wh xs.length).isSome ∧ PN.JW w wr w.heap.size jb (fn : Int) (PN.wb s) (PN.lb s) ∧ Hid (PN.okS s.wh) ∧ Hid (PN.fin xs s = PN.fin xs s0)) (fun _ _ wr => PN.MJ jb wr)
      case atStart => exact ⟨s0, by rw [HBT.out], by rw [HBT.out], HS5.out, HOS, rfl⟩
      case round =>
        clear HS5 HOS HBT
        obtain ⟨s, rfl, rfl, hJ, hO, hF⟩ := hrel
        have HM : Hid (PN.MJ jb wr = PN.mu s.wh) := PN.JR.mu hJ.j hO.out
        cases hb : PN.best xs s.wh xs.length with
        | none =>
          have hE : Hid (s = PN.fin xs s0) := by show s = _; rw [← hF.out, PN.fin_none hb]
          have HRJ : Hid (MA.Rg wr jb 0 (PN.jc (fn : Int) (PN.wb s) (PN.lb s))) := hJ.j
          have HRR : Hid (MA.Rg wr w.heap.size 0 (PN.jc 0 (fun _ => 0) (fun _ => 0))) := hJ.r
          have HRP : Hid (MA.Rg (wr.setCells w.heap.size 0 (PN.jc (fn : Int) (PN.wb s) (PN.lb s))) w.heap.size 0 (PN.jc (fn : Int) (PN.wb s) (PN.lb s))) := hJ.r.put (by rw [PN.jc_len, PN.jc_len])
          have HBP : Hid (Below w.heap.size w (wr.setCells w.heap.size 0 (PN.jc (fn : Int) (PN.wb s) (PN.lb s)))) := MA.below_cells (Nat.le_refl _) _ _ _ hJ.bl
          clear hb hF hO hJ HM HOK GC HI NX NV SF
          go_wp2_with (first
            | (refine MA.load_m rfl 57 _ rfl rfl (cs := PN.jc (fn : Int) (PN.wb s) (PN.lb s)) ?_ Try.underlying57 rfl Try.sizeJ (PN.jc_len _ _ _) ?_; exact HRJ.out; clear HRJ)
            | (refine MA.store_m rfl 57 _ _ rfl rfl rfl (vs := PN.jc (fn : Int) (PN.wb s) (PN.lb s)) (cs := PN.jc 0 (fun _ => 0) (fun _ => 0)) ?_ Try.sizeJ (PN.jc_len _ _ _) (PN.jc_len _ _ _) (PN.jc_one _ _ _) ?_; exact HRR.out; clear HRR))
          exact bodyPost_ret (MA.ret_cell rfl rfl (MA.load_rg HRP.out Try.underlying57 rfl Try.sizeJ (PN.jc_len _ _ _))) rfl ⟨by rw [hst, ← hE.out], HBP.out⟩
        | some p =>
          obtain ⟨kb, t⟩ := p
          obtain ⟨hkb, hA, hE⟩ := PN.best_is hb
          obtain ⟨hO2, hmu⟩ := PN.step_ok HOK.out hO.out hb
          have hF2 : Hid (PN.fin xs (PN.take1 xs s kb t) = PN.fin xs s0) := by show _ = _; rw [← hF.out, PN.fin_some HOK.out hO.out hb]
          have G := GC.out kb hkb
          obtain ⟨b4, off4, hab, hlt4, e0, e1, e2, e3, e4⟩ := (HI.out.below hJ.bl).at hkb
          obtain ⟨i, hi⟩ := Int.eq_ofNat_of_zero_le G.f0
          obtain ⟨j, hj⟩ := Int.eq_ofNat_of_zero_le G.t0
          have hi8 : i < 8 := by have := G.f1; omega
          have hj8 : j < 8 := by have := G.t1; omega
          have hij : i ≠ j := by have := G.ne; omega
          have ii0 : (0 : Int) ≤ (i : Int) := by omega
          have ii8 : (i : Int) < 8 := by omega
          have jj0 : (0 : Int) ≤ (j : Int) := by omega
          have jj8 : (j : Int) < 8 := by omega
          have kk0 : (0 : Int) ≤ (kb : Int) := by omega
          have kk1 : (kb : Int) < (xs.length : Int) := by omega
          have hin : (MI5.at_ xs kb).a0.toNat = i := by rw [hi]; rfl
          have hjn : (MI5.at_ xs kb).a1.toNat = j := by rw [hj]; rfl
          rw [hin] at hA
          have AR : Hid (∀ W : World, Calls Try.prog 24 #[(MI5.at_ xs kb).v, .float .f64 (s.wh i).b] W fun e w' => e = .returned (.float .f64 (FL.Mo.fin t).b) ∧ Below W.heap.size W w') := fun W => by
            have := arrival_any (MI5.at_ xs kb) (s.wh i) W G (hO.out i)
            rw [hA] at this; exact this
          have hST : (⟨PN.put s.wh j (.fin t), PN.put s.la j (some kb)⟩ : PN.St) = PN.take1 xs s kb t := by unfold PN.take1; rw [hjn]
          have HST : Hid _ := hST
          have HO2 : Hid _ := hO2
          have HMU : Hid (PN.mu (PN.take1 xs s kb t).wh < PN.mu s.wh) := hmu
          rw [hi] at e0
          rw [hj] at e1
          have HJA : Hid (PN.JW w (wr.alloc (.cells #[.int .i64 (i : Int), .int .i64 (j : Int), .int .i64 (MI5.at_ xs kb).a2, .int .i64 (MI5.at_ xs kb).a3, .int .i64 (MI5.at_ xs kb).a4] 40)) w.heap.size jb (fn : Int) (PN.wb s) (PN.lb s)) := hJ.kept ((Below.refl _ wr).alloc (Nat.le_refl _) _)
          have hjq : jb < wr.heap.size := hJ.j.lt
          clear hb hF hO GC G hjn hin hA hE hST hO2 hmu hJ
          generalize hx : MI5.at_ xs kb = x at *
          obtain ⟨x0, x1, x2, x3, x4⟩ := x
          simp only at hi hj e0 e1 e2 e3 e4
          subst hi hj
          clear hx
          subst hab
          have F0 : Hid ((wr.alloc (.cells #[.int .i64 (i : Int), .int .i64 (j : Int), .int .i64 x2, .int .i64 x3, .int .i64 x4] 40)).cell? ⟨wr.heap.size, 0, none⟩ = some (.int .i64 (i : Int))) := by show _ = _; simp
          have F1 : Hid ((wr.alloc (.cells #[.int .i64 (i : Int), .int .i64 (j : Int), .int .i64 x2, .int .i64 x3, .int .i64 x4] 40)).cell? ⟨wr.heap.size, 1, none⟩ = some (.int .i64 (j : Int))) := by show _ = _; simp
          have F2 : Hid ((wr.alloc (.cells #[.int .i64 (i : Int), .int .i64 (j : Int), .int .i64 x2, .int .i64 x3, .int .i64 x4] 40)).cell? ⟨wr.heap.size, 2, none⟩ = some (.int .i64 x2)) := by show _ = _; simp
          have F3 : Hid ((wr.alloc (.cells #[.int .i64 (i : Int), .int .i64 (j : Int), .int .i64 x2, .int .i64 x3, .int .i64 x4] 40)).cell? ⟨wr.heap.size, 3, none⟩ = some (.int .i64 x3)) := by show _ = _; simp
          have F4 : Hid ((wr.alloc (.cells #[.int .i64 (i : Int), .int .i64 (j : Int), .int .i64 x2, .int .i64 x3, .int .i64 x4] 40)).cell? ⟨wr.heap.size, 4, none⟩ = some (.int .i64 x4)) := by show _ = _; simp
          have HQ : Hid (wr.heap.size < (wr.alloc (.cells #[.int .i64 (i : Int), .int .i64 (j : Int), .int .i64 x2, .int .i64 x3, .int .i64 x4] 40)).heap.size) := by show _ < _; simp
          rw [show PN.nextN (some (kb, t)) = (kb : Int) from rfl, show (some (kb, t)).isSome = true from rfl]
          go_wp2_with fail
          clear e0 e1 e2 e3 e4 hlt4
          generalize (wr.alloc (.cells #[.int .i64 (i : Int), .int .i64 (j : Int), .int .i64 x2, .int .i64 x3, .int .i64 x4] 40)) = W1 at *
          generalize wr.heap.size = q at *
          have f0 := F0.out
          have f1 := F1.out
          have f2 := F2.out
          have f3 := F3.out
          have f4 := F4.out
          have hq := HQ.out
          have hci : W1.cell? ⟨jb, 1 + i, none⟩ = some (.float .f64 (s.wh i).b) := (PN.rg_w HJA.out.j hi8).1
          have hjb := HJA.out.j.lt
          have hqj : q ≠ jb := by omega
          have hqj' : jb ≠ q := by omega
          clear F0 F1 F2 F3 F4 HQ
          go_region_held3 (fun w' => w'.cell? ⟨q, 0, none⟩ = some (.int .i64 (i : Int)) ∧ w'.cell? ⟨q, 1, none⟩ = some (.int .i64 (j : Int)) ∧ w'.cell? ⟨q, 2, none⟩ = some (.int .i64 x2) ∧ w'.cell? ⟨q, 3, none⟩ = some (.int .i64 x3) ∧ w'.cell? ⟨q, 4, none⟩ = some (.int .i64 x4) ∧ w'.cell? ⟨jb, 1 + i, none⟩ = some (.float .f64 (s.wh i).b)) (first | assumption | go_keep) (first | (go_at_call 24; refine Calls.mono (AR.out _) ?_; rintro e w3 ⟨rfl, hb3⟩; have k0 : w3.cell? ⟨q, 0, none⟩ = some (.int .i64 (i : Int)) := (hb3.cell (p := ⟨q, 0, none⟩) (by simpa using hq)).trans (by simpa using f0); have k1 : w3.cell? ⟨q, 1, none⟩ = some (.int .i64 (j : Int)) := (hb3.cell (p := ⟨q, 1, none⟩) (by simpa using hq)).trans (by simpa using f1); have k2 : w3.cell? ⟨q, 2, none⟩ = some (.int .i64 x2) := (hb3.cell (p := ⟨q, 2, none⟩) (by simpa using hq)).trans (by simpa using f2); have k3 : w3.cell? ⟨q, 3, none⟩ = some (.int .i64 x3) := (hb3.cell (p := ⟨q, 3, none⟩) (by simpa using hq)).trans (by simpa using f3); have k4 : w3.cell? ⟨q, 4, none⟩ = some (.int .i64 x4) := (hb3.cell (p := ⟨q, 4, none⟩) (by simpa using hq)).trans (by simpa using f4); have ki : w3.cell? ⟨jb, 1 + i, none⟩ = some (.float .f64 (s.wh i).b) := (hb3.cell (p := ⟨jb, 1 + i, none⟩) (by simpa using hjb)).trans (by simpa using hci); have HJ3 := HJA.out.kept (((Below.refl _ W1).drew).trans hb3); obtain ⟨kj, zj⟩ := PN.rg_w HJ3.j hj8; have HJ4 := HJ3.setw hj8 (FL.Mo.fin t).b; obtain ⟨kl, zl⟩ := PN.rg_l HJ4.j hj8; have HJ5 := HJ4.setl hj8 (kb : Int); have ki4 : (w3.setCell ⟨jb, 1 + j, none⟩ (.float .f64 (FL.Mo.fin t).b)).cell? ⟨jb, 1 + i, none⟩ = some (.float .f64 (s.wh i).b) := (PN.rg_w HJ4.j hi8).1.trans (by rw [PN.put_ne _ _ hij]; rfl); have ki5 : ((w3.setCell ⟨jb, 1 + j, none⟩ (.float .f64 (FL.Mo.fin t).b)).setCell ⟨jb, 9 + j, none⟩ (.int .i64 (kb : Int))).cell? ⟨jb, 1 + i, none⟩ = some (.float .f64 (s.wh i).b) := (PN.rg_w HJ5.j hi8).1.trans (by rw [PN.put_ne _ _ hij]; rfl)))
          rw [PN.wb_put s j (.fin t) (PN.put s.la j (some kb)), PN.lb_put s j kb (PN.put s.wh j (.fin t)), HST.out] at HJ5
          clear k0 k1 k2 k3 k4 ki kj zj kl zl ki4 ki5 HJ3 HJ4 hb3 f0 f1 f2 f3 f4 hq hci hjb HJA AR HST hqj hqj' hjq
          have HJ6 : Hid _ := HJ5
          have HR6 : Hid (MA.Rg ((w3.setCell ⟨jb, 1 + j, none⟩ (.float .f64 (FL.Mo.fin t).b)).setCell ⟨jb, 9 + j, none⟩ (.int .i64 (kb : Int))) jb 0 (PN.jc (fn : Int) (PN.wb (PN.take1 xs s kb t)) (PN.lb (PN.take1 xs s kb t)))) := HJ5.j
          clear HJ5
          generalize (w3.setCell ⟨jb, 1 + j, none⟩ (.float .f64 (FL.Mo.fin t).b)).setCell ⟨jb, 9 + j, none⟩ (.int .i64 (kb : Int)) = W5 at *
          generalize PN.take1 xs s kb t = s' at *
          go_wp2_with (refine MA.load_m rfl 57 _ rfl rfl (cs := PN.jc (fn : Int) (PN.wb s') (PN.lb s')) ?_ Try.underlying57 rfl Try.sizeJ (PN.jc_len _ _ _) ?_; exact HR6.out; clear HR6)
          refine (NX.out s' _ HO2.out (HI.out.below HJ6.out.bl)).mono ?_
          rintro e w6 ⟨rfl, hb6⟩
          have HJ7 : Hid _ := HJ6.out.kept hb6
          have HM7 : Hid (PN.MJ jb w6 = PN.mu s'.wh) := PN.JR.mu HJ7.out.j HO2.out
          clear hb6 HJ6
          go_wp2
          go_roundw
          case rel => exact ⟨s', rfl, rfl, HJ7.out, HO2, hF2⟩
          case measure => rw [HM.out, HM7.out]; exact HMU.out
end Go.Proofs.Ytickoajkppgdaaa

/- RouteTo, the program's. -/
namespace Go.Proofs.Ytickoajkppgdaaa
open Go.RowKit
set_option linter.unusedSimpArgs false in
set_option maxHeartbeats 3200000 in
set_option maxRecDepth 100000 in
theorem rowTo_any (a : Option Addr) (ca : Nat) (xs : List I5) (fn tn : Nat) (s : PN.St) (L : List Int) (w : World) (hok : PN.okP xs = true) (hf8 : fn < 8) (hBk : PN.Back xs fn s L tn []) (hin : MI5.RowAt w a xs) :
    Calls Try.prog 22 #[.agg (PN.jc (fn : Int) (PN.wb s) (PN.lb s)).toArray, .slice a xs.length ca, .int .i64 (tn : Int)] w fun e w' => ∃ a1 c1, e = .returned (.slice a1 L.length c1) ∧ w'.ownsRow w.heap.size 3 1 (.slice a1 L.length c1) L.length (M4.iv L) ∧ Below w.heap.size w w' := by
  obtain ⟨i0, hi, hz0, hz1, hz2⟩ := info_parts Try.info3
  have HI : Hid (MI5.RowAt w a xs) := hin
  have HOK : Hid _ := hok
  have GC : Hid (∀ k, k < xs.length → PN.Good (MI5.at_ xs k)) := fun k hk => PN.okP_good hok hk
  have HJ : Hid _ := MA.Rg.new w (PN.jc (fn : Int) (PN.wb s) (PN.lb s)) 57
  have HB0 : Hid (Below w.heap.size w (w.alloc (.cells (PN.jc (fn : Int) (PN.wb s) (PN.lb s)).toArray 57))) := (Below.refl _ w).alloc (Nat.le_refl _) _
  have HBK : Hid _ := hBk
  have RV : Hid (∀ (base g cap : Nat) (zs : List Int) (W : World), zs.length ≤ 1048576 → base ≤ W.heap.size → W.ownsRow base 3 1 (.slice (some ⟨g, 0, none⟩) zs.length cap) zs.length (M4.iv zs) → Calls Try.prog 44 #[.slice (some ⟨g, 0, none⟩) zs.length cap] W fun e w' => e = .returned (.tuple #[]) ∧ w'.ownsRow base 3 1 (.slice (some ⟨g, 0, none⟩) zs.length cap) zs.length (M4.iv zs.reverse) ∧ Below base W w') := fun base g cap zs W h1 h2 h3 => reverse_any base g cap zs W h1 h2 h3
  clear hin hok hBk
  go_enter Try.func22, Try.ntmps22
  generalize hW0 : w.alloc (.cells (PN.jc (fn : Int) (PN.wb s) (PN.lb s)).toArray 57) = W0 at HJ HB0
  have HSZ : Hid (W0.heap.size = w.heap.size + 1) := by show _ = _; rw [← hW0]; simp
  have HB1 : Hid (Below W0.heap.size W0 (W0.alloc (.cells #[] 3))) := (Below.refl _ W0).alloc (Nat.le_refl _) _
  go_wp2
  generalize hW1 : W0.alloc (.cells #[] 3) = W1 at *
  go_loopw [7, 8] (fun rv nv wr => ∃ (v : Nat) (acc : List Int) (g cap : Nat), nv = .int .i64 v ∧ rv = .slice (some ⟨g, 0, none⟩) acc.length cap ∧ Hid (PN.Back xs fn s L v acc) ∧ wr.ownsRow W0.heap.size 3 1 (.slice (some ⟨g, 0, none⟩) acc.length cap) acc.length (M4.iv acc.reverse) ∧ Below W0.heap.size W0 wr) (fun rv _ _ => 8 - PN.lenV rv)
  case atStart => exact ⟨tn, [], W0.heap.size, 0, rfl, rfl, HBK, by have h := PN.own_lit0 W0 W0.heap.size (Nat.le_refl _); rw [hW1] at h; exact h, HB1.out⟩
  case round =>
    clear HBK HB1 hW1
    obtain ⟨v, acc, g, cap, rfl, rfl, hB, hown, hb⟩ := hrel
    have hJr := MA.Rg.below HJ.out hb HJ.out.lt
    have cf : wr.cell? ⟨w.heap.size, 0, none⟩ = some (.int .i64 (fn : Int)) := by have := hJr.cell (PN.jc_f _ _ _); rwa [Nat.zero_add] at this
    have hjb := hJr.lt
    by_cases hv : v = fn
    · subst hv
      have hLe := PN.Back.end_ hB.out
      have hlen : acc.length ≤ 8 := by obtain ⟨_, m, _, _, h, _⟩ := hB.out.go; omega
      have HLE : Hid _ := hLe
      have HO : Hid (wr.ownsRow W0.heap.size 3 1 (.slice (some ⟨g, 0, none⟩) acc.length cap) acc.length (M4.iv acc.reverse)) := hown
      clear hB hown HOK GC hLe hi hz0 hz1 hz2 hJr
      have hrl : acc.reverse.length = acc.length := by simp
      have RV1 : Hid (Calls Try.prog 44 #[.slice (some ⟨g, 0, none⟩) acc.length cap] wr fun e w' => e = .returned (.tuple #[]) ∧ w'.ownsRow W0.heap.size 3 1 (.slice (some ⟨g, 0, none⟩) acc.length cap) acc.length (M4.iv acc) ∧ Below W0.heap.size wr w') := by
        have h := RV.out W0.heap.size g cap acc.reverse wr (by rw [hrl]; omega) hb.size (by rw [hrl]; exact HO.out)
        rw [hrl, List.reverse_reverse] at h
        exact h
      clear RV hrl HO
      go_wp2_with fail
      refine Calls.mono RV1.out ?_
      rintro e w3 ⟨rfl, hown3, hb3⟩
      have HO3 : Hid (w3.ownsRow W0.heap.size 3 1 (.slice (some ⟨g, 0, none⟩) acc.length cap) acc.length (M4.iv acc)) := hown3
      have HBB : Hid (Below w.heap.size w w3) := HB0.out.trans ((hb.trans hb3).mono HB0.out.size)
      clear hown3 hb3 RV1 cf
      go_wp2
      go_ret
      exact ⟨some ⟨g, 0, none⟩, cap, by rw [HLE.out]; rfl, by rw [HLE.out]; exact CS6.own_base HO3.out HB0.out.size, HBB.out⟩
    · obtain ⟨k, hk1, hk2, hk3, hk4⟩ := PN.Back.next HOK.out hB.out hv
      have hv8 := hB.out.lt
      have vv8 : (v : Int) < 8 := by omega
      have kk0 : (0 : Int) ≤ (k : Int) := by omega
      have kk1 : (k : Int) < (xs.length : Int) := by omega
      have hvf : ((v : Int) != (fn : Int)) = true := by simp; omega
      have cl : wr.cell? ⟨w.heap.size, 9 + v, none⟩ = some (.int .i64 (k : Int)) := by have := (PN.rg_l hJr hv8).1; simp only [PN.lb, hk1, PN.kI] at this; exact this
      have G := GC.out k hk2
      obtain ⟨i, hii⟩ := Int.eq_ofNat_of_zero_le G.f0
      have hin : (MI5.at_ xs k).a0.toNat = i := by rw [hii]; rfl
      rw [hin] at hk4
      obtain ⟨b4, off4, hab, hlt4, e0, -⟩ := (HI.out.below HB0.out).at hk2
      rw [hii] at e0
      have HB2 : Hid _ := hk4
      have LK : Hid (s.la v = some k) := hk1
      have HOA : Hid (World.ownsRow (wr.alloc (.cells #[.int .i64 (k : Int)] 3)) W0.heap.size 3 1 (.slice (some ⟨g, 0, none⟩) acc.length cap) acc.length (M4.iv acc.reverse)) := World.ownsRow.alloc hown (.cells #[.int .i64 (k : Int)] 3)
      have HO : Hid (World.ownsRow wr W0.heap.size 3 1 (.slice (some ⟨g, 0, none⟩) acc.length cap) acc.length (M4.iv acc.reverse)) := hown
      have hbs := hb.size
      clear hB G hin hk4 hk1 hown hJr
      go_wp2_with (at_builtin; refine wpList_append_own _ rfl _ _ 28 rfl W0.heap.size 3 i0 (.int .i64 0) 1 8 Try.underlying28 hi hz0 hz1 hz2 rfl (by decide) _ _ _ rfl HOA.out ⟨wr.heap.size, 0, none⟩ 1 1 [.int .i64 (k : Int)] rfl rfl ?c1 ?c2 ?c3 ?c4 ?c5 ?_)
      case c1 => exact M2.new1 _ _ _
      case c2 => exact M2.one1 _ _
      case c3 => unfold maxLen; omega
      case c4 => omega
      case c5 => simp; omega
      intro v' w3 hown1 hgrow hnn
      have hb3 : Below W0.heap.size W0 w3 := (hb.alloc hbs _).grown hgrow (by simp; omega) (fun j hj => (World.ownsRow.lt HO.out j hj).1)
      have hJ3 := MA.Rg.below HJ.out hb3 HJ.out.lt
      have cl3 : w3.cell? ⟨w.heap.size, 9 + v, none⟩ = some (.int .i64 (k : Int)) := by have := (PN.rg_l hJ3 hv8).1; simp only [PN.lb, LK.out, PN.kI] at this; exact this
      have hjb3 := hJ3.lt
      have c0 := (hb3.cell (p := ⟨b4, off4 + k * 5, none⟩) hlt4).trans e0
      have hb4 : b4 < w3.heap.size := Nat.lt_of_lt_of_le hlt4 hb3.size
      obtain ⟨g', cap', rfl⟩ : ∃ g' cap', v' = .slice (some ⟨g', 0, none⟩) (acc.length + 1) cap' := by
        rcases hown1.2 with ⟨h1, h2⟩ | ⟨g', cap', cur, h1, _⟩
        · omega
        · exact ⟨g', cap', h1⟩
      have R1 : Hid (w3.ownsRow W0.heap.size 3 1 (.slice (some ⟨g', 0, none⟩) ((k : Int) :: acc).length cap') ((k : Int) :: acc).length (M4.iv ((k : Int) :: acc).reverse)) := by
        show w3.ownsRow _ _ _ _ _ _
        rw [List.reverse_cons, List.length_cons]
        have e : M4.iv (acc.reverse ++ [(k : Int)]) = M4.iv acc.reverse ++ [.int .i64 (k : Int)] := by simp [M4.iv]
        rw [e]; exact hown1
      clear hown1 hgrow hnn HO HOA cl cf e0 hJ3 hb LK
      subst hab
      go_wp2
      go_roundw
      case rel => exact ⟨i, (k : Int) :: acc, g', cap', rfl, rfl, HB2, R1.out, hb3⟩
      case measure => simp [PN.lenV]; omega
set_option linter.unusedSimpArgs false in
set_option maxHeartbeats 3200000 in
set_option maxRecDepth 100000 in
theorem implRoute_any (a : Option Addr) (ca : Nat) (xs : List I5) (f n t : Int) (w : World) (hn : xs.length ≤ 1048576) (hin : MI5.RowAt w a xs) :
    Calls Try.prog 8 #[.slice a xs.length ca, .int .i64 f, .int .i64 n, .int .i64 t] w fun e w' => ∃ a1 c1, e = .returned (.tuple #[.slice a1 (PN.routeL xs f n t).length c1, .int .i64 (PN.tellN (PN.routeM xs f n t)), .bool (PN.tellB (PN.routeM xs f n t))]) ∧ w'.ownsRow w.heap.size 3 1 (.slice a1 (PN.routeL xs f n t).length c1) (PN.routeL xs f n t).length (M4.iv (PN.routeL xs f n t)) ∧ Below w.heap.size w w' := by
  have ST : Hid (∀ W : World, MI5.RowAt W a xs → Calls Try.prog 18 #[.slice a xs.length ca, .int .i64 f, .int .i64 n] W fun e w' => e = .returned (.bool (PN.startOk xs f n)) ∧ Below W.heap.size W w') := fun W h => isStart_any a ca xs f n W hn h
  have NT : Hid (∀ W : World, Calls Try.prog 19 #[.int .i64 t] W fun e w' => e = .returned (.bool (decide (0 ≤ t ∧ t ≤ 7))) ∧ W = w') := fun W => nodeI_any t W
  have HI : Hid (MI5.RowAt w a xs) := hin
  clear hin
  obtain ⟨N, hN⟩ : ∃ N, PN.tellN (PN.routeM xs f n t) = N := ⟨_, rfl⟩
  obtain ⟨T, hT⟩ : ∃ T, PN.tellB (PN.routeM xs f n t) = T := ⟨_, rfl⟩
  obtain ⟨L, hL⟩ : ∃ L, PN.routeL xs f n t = L := ⟨_, rfl⟩
  have NO : Hid (PN.askOk xs f n t = false → N = 0 ∧ T = false ∧ L = []) := fun h => by
    have hT' : PN.tellB (PN.routeM xs f n t) = false := by rw [PN.route_no h]; rfl
    rw [← hN, ← hT, ← hL, PN.routeL_no hT', PN.route_no h]; exact ⟨rfl, rfl, rfl⟩
  have YES : Hid (PN.askOk xs f n t = true → N = PN.tellN ((PN.fin xs (PN.st0 f n)).wh t.toNat) ∧ T = PN.tellB ((PN.fin xs (PN.st0 f n)).wh t.toNat) ∧ (T = false → L = []) ∧ (T = true → L = PN.way xs (PN.fin xs (PN.st0 f n)).la f.toNat 8 t.toNat)) := fun h => by
    rw [← hN, ← hT, ← hL, ← PN.route_yes h]; exact ⟨rfl, rfl, PN.routeL_no, PN.routeL_yes⟩
  rw [hN, hT, hL]
  clear hN hT hL
  obtain ⟨q3, h3⟩ : ∃ q, decide (0 ≤ t ∧ t ≤ 7) = q := ⟨_, rfl⟩
  obtain ⟨q0, h0⟩ : ∃ q, PN.startOk xs f n = q := ⟨_, rfl⟩
  have hS : PN.askOk xs f n t = (q0 && q3) := by rw [← h0, ← h3]; rfl
  rw [h0] at ST
  rw [h3] at NT
  have HS : Hid _ := hS
  clear h0 h3 hS
  go_enter Try.func8, Try.ntmps8
  go_wp2_with fail
  refine (ST.out _ HI.out).mono ?_
  rintro e w1 ⟨rfl, hb1⟩
  have HI1 : Hid (MI5.RowAt w1 a xs) := HI.out.below hb1
  clear ST HI
  cases q0 with
  | false =>
    obtain ⟨rfl, rfl, rfl⟩ := NO.out HS.out
    clear NO YES NT HS HI1
    go_wp2
    go_ret3
    exact ⟨none, 0, rfl, World.ownsRow_nil _ _ _ _, hb1⟩
  | true =>
    go_wp2_with fail
    refine (NT.out _).mono ?_
    rintro e w' ⟨rfl, rfl⟩
    clear NT
    cases q3 with
    | false =>
      obtain ⟨rfl, rfl, rfl⟩ := NO.out HS.out
      clear NO YES HS HI1
      go_wp2
      go_ret3
      exact ⟨none, 0, rfl, World.ownsRow_nil _ _ _ _, hb1⟩
    | true =>
      have hask : PN.askOk xs f n t = true := HS.out
      obtain ⟨hst, ht0, ht1⟩ := PN.ask_is hask
      obtain ⟨hok, hf0, hf1, hn0, hn1⟩ := PN.start_is hst
      have HY : Hid _ := YES.out hask
      have JF : Hid (∀ W : World, MI5.RowAt W a xs → Calls Try.prog 20 #[.slice a xs.length ca, .int .i64 f, .int .i64 n] W fun e w' => e = .returned (.agg (PN.jc f (PN.wb (PN.fin xs (PN.st0 f n))) (PN.lb (PN.fin xs (PN.st0 f n)))).toArray) ∧ Below W.heap.size W w') := fun W hr => journeyFrom_any a ca xs f n W hok hf0 hf1 hn0 hn1 hr
      have HVI : Hid (∃ rk, PN.Via xs f.toNat (PN.fin xs (PN.st0 f n)) rk) := PN.via_fin hok (PN.st0_ok hn0 hn1) (PN.ord_st0 hok) (PN.via_st0 xs hf0 hf1)
      have HOS : Hid (PN.okS (PN.fin xs (PN.st0 f n)).wh) := PN.fin_okS hok (PN.st0_ok hn0 hn1)
      have HOK : Hid _ := hok
      clear NO YES HS hask hst hok
      obtain ⟨tn, rfl⟩ := Int.eq_ofNat_of_zero_le ht0
      obtain ⟨fn, rfl⟩ := Int.eq_ofNat_of_zero_le hf0
      have ht8 : tn < 8 := by omega
      have hf8 : fn < 8 := by omega
      have tt8 : (tn : Int) < 8 := by omega
      generalize PN.fin xs (PN.st0 (fn : Int) n) = s at *
      rw [show ((tn : Int)).toNat = tn from rfl, show ((fn : Int)).toNat = fn from rfl] at HY
      rw [show ((fn : Int)).toNat = fn from rfl] at HVI
      go_wp2_with fail
      refine (JF.out _ HI1.out).mono ?_
      rintro e w2 ⟨rfl, hb2⟩
      have HRN : Hid (MA.Rg (w2.alloc (.cells (PN.jc 0 (fun _ => 0) (fun _ => 0)).toArray 57)) w2.heap.size 0 (PN.jc 0 (fun _ => 0) (fun _ => 0))) := MA.Rg.new _ _ _
      have HRP : Hid (MA.Rg ((w2.alloc (.cells (PN.jc 0 (fun _ => 0) (fun _ => 0)).toArray 57)).setCells w2.heap.size 0 (PN.jc (fn : Int) (PN.wb s) (PN.lb s))) w2.heap.size 0 (PN.jc (fn : Int) (PN.wb s) (PN.lb s))) := HRN.out.put (by rw [PN.jc_len, PN.jc_len])
      have HBP : Hid (Below w2.heap.size w2 ((w2.alloc (.cells (PN.jc 0 (fun _ => 0) (fun _ => 0)).toArray 57)).setCells w2.heap.size 0 (PN.jc (fn : Int) (PN.wb s) (PN.lb s)))) := MA.below_cells (Nat.le_refl _) _ _ _ ((Below.refl _ w2).alloc (Nat.le_refl _) _)
      have HB2 : Hid (Below w.heap.size w w2) := hb1.trans (hb2.mono hb1.size)
      have HI2 : Hid (MI5.RowAt w2 a xs) := HI1.out.below hb2
      clear JF HI1 hb1 hb2
      have TL : Hid (∀ W : World, Calls Try.prog 21 #[.float .f64 (s.wh tn).b] W fun e w' => e = .returned (.tuple #[.int .i64 (PN.tellN (s.wh tn)), .bool (PN.tellB (s.wh tn))]) ∧ W = w') := fun W => tell_any _ W (.inr (HOS.out tn))
      go_wp2_with (first
        | (refine MA.alloc_z rfl 57 rfl _ _ Try.infoJ ?_)
        | (refine MA.store_m rfl 57 _ _ rfl rfl rfl (vs := PN.jc (fn : Int) (PN.wb s) (PN.lb s)) (cs := PN.jc 0 (fun _ => 0) (fun _ => 0)) ?_ Try.sizeJ (PN.jc_len _ _ _) (PN.jc_len _ _ _) (PN.jc_one _ _ _) ?_; exact HRN.out; clear HRN; generalize World.setCells _ _ _ _ = W3 at *; have ct : W3.cell? ⟨w2.heap.size, 1 + tn, none⟩ = some (.float .f64 (s.wh tn).b) := (PN.rg_w HRP.out ht8).1; have hl3 := HRP.out.lt))
      refine (TL.out _).mono ?_
      rintro e w' ⟨rfl, rfl⟩
      have HB3 : Hid (Below w.heap.size w W3) := HB2.out.trans (HBP.out.mono HB2.out.size)
      have HI3 : Hid (MI5.RowAt W3 a xs) := HI2.out.below HBP.out
      clear TL ct HBP HI2 HB2
      generalize w2.heap.size = jb at *
      have okt := HOS.out tn
      cases hm : s.wh tn with
      | ago => rw [hm] at okt; exact absurd okt id
      | inf =>
        rw [hm] at HY
        obtain ⟨rfl, rfl, hLL, -⟩ := HY.out
        obtain rfl := hLL rfl
        clear HY HOK HVI HOS HRP HI3 hm okt
        go_wp2
        go_ret3
        exact ⟨none, 0, rfl, World.ownsRow_nil _ _ _ _, HB3.out⟩
      | fin p =>
        rw [hm] at HY
        obtain ⟨hNp, hTp, -, hLL⟩ := HY.out
        have hTp' : T = true := hTp
        have hLw := hLL hTp'
        obtain ⟨rk, hV⟩ := HVI.out
        have HB : PN.Back xs fn s L tn [] := by rw [hLw]; exact PN.Back.start hV ht8 hm
        have RT : Hid (∀ W : World, MI5.RowAt W a xs → Calls Try.prog 22 #[.agg (PN.jc (fn : Int) (PN.wb s) (PN.lb s)).toArray, .slice a xs.length ca, .int .i64 (tn : Int)] W fun e w' => ∃ a1 c1, e = .returned (.slice a1 L.length c1) ∧ w'.ownsRow W.heap.size 3 1 (.slice a1 L.length c1) L.length (M4.iv L) ∧ Below W.heap.size W w') := fun W hr => rowTo_any a ca xs fn tn s L W HOK.out hf8 HB hr
        have HN : Hid (PN.tellN (.fin p) = N) := hNp.symm
        have HT : Hid (T = true) := hTp'
        clear HY hLL hV HVI HOS hm hLw HB hNp hTp hTp' HOK okt
        rw [show PN.tellB (.fin p) = true from rfl, HN.out]
        go_wp2_with (refine MA.load_m rfl 57 _ rfl rfl (cs := PN.jc (fn : Int) (PN.wb s) (PN.lb s)) ?_ Try.underlying57 rfl Try.sizeJ (PN.jc_len _ _ _) ?_; exact HRP.out; clear HRP)
        refine (RT.out _ HI3.out).mono ?_
        rintro e w4 ⟨a1, c1, rfl, hown4, hb4⟩
        have HO4 : Hid _ := hown4
        have HB4 : Hid (Below w.heap.size w w4) := HB3.out.trans (hb4.mono HB3.out.size)
        clear RT hown4 hb4
        go_wp2
        go_ret3
        exact ⟨a1, c1, by rw [HT.out]; rfl, CS6.own_base HO4.out HB3.out.size, HB4.out⟩
end Go.Proofs.Ytickoajkppgdaaa
