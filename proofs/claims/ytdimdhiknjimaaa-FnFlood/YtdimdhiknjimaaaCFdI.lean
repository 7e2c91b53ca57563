/- (impl.journey).thereBy: who is there by then, asked one by one. -/
import Derived.Test.YtdimdhiknjimaaaRows
import Derived.Test.YtdimdhiknjimaaaMFe
import Derived.Test.YtdimdhiknjimaaaMJ
import Derived.Test.YtdimdhiknjimaaaMSpr
import Derived.Test.YtdimdhiknjimaaaC6Journey
import Derived.RangeFuncNested
import Derived.RangeFuncBound
import Derived.RangeFuncCalls
import Derived.RangeFuncLeaves
import Derived.Shelf.Abstract
import Derived.Shelf.RegionOpen
import Derived.WalkKit
import Derived.WalkSpells
import Derived.WalkLawsBesides
import Derived.Outline
import Derived.OwnWalkIn
import Derived.TacticsInMore
import Derived.LoopNIn
import Derived.LoopIn
import Derived.Deep.QuietTactic
import Derived.BigQuiet
namespace Go.Proofs.Ytdimdhiknjimaaa
open Go.RowKit Go.Shelf
set_option maxHeartbeats 1600000 in
set_option maxRecDepth 100000 in
theorem thereBy1_any (bj bu k : Nat) (m : FL.Mo) (u : Int) (w : World) (hk : k < 8) (hm : PN.okT m) (u0 : 0 ≤ u) (u1 : u ≤ 1000) (hc : w.cell? ⟨bj, 1 + k, none⟩ = some (.float .f64 m.b)) (hu : w.cell? ⟨bu, 0, none⟩ = some (.int .i64 u)) :
    Calls Try.prog 33 #[.int .i64 k, .pointer (some ⟨bj, 0, none⟩), .pointer (some ⟨bu, 0, none⟩)] w fun e w' => e = .returned (.bool (PN.inB u m)) ∧ ∃ nq, w' = w.drewN nq := by
  have ou : (FL.Mo.fin u).ok := by show _ < _; omega
  have o1 : FloatKind.f64.format.order m.b (floatOfInt .f64 u) = some (m.cmp (.fin u)) := FL.order_is m (.fin u) (PN.okT_ok hm) ou
  have hk0 : (0 : Int) ≤ (k : Int) := by omega
  have hk8 : (k : Int) < 8 := by omega
  have hR : ∀ c : Ordering, m.cmp (.fin u) = c → PN.inB u m = decide (c ≠ .gt) := by
    rintro c rfl
    cases m with
    | fin e =>
      show decide (e ≤ u) = decide (compare e u ≠ .gt)
      rcases Int.lt_trichotomy e u with h | h | h
      · rw [show compare e u = .lt from Int.compare_eq_lt.2 h, decide_eq_true (by omega)]; rfl
      · subst h; rw [show compare e e = .eq from Int.compare_eq_eq.2 rfl, decide_eq_true (by omega)]; rfl
      · rw [show compare e u = .gt from Int.compare_eq_gt.2 h, decide_eq_false (by omega)]; rfl
    | inf => rfl
    | ago => exact absurd hm id
  obtain ⟨c, hcm⟩ : ∃ c, m.cmp (.fin u) = c := ⟨_, rfl⟩
  rw [hR c hcm]
  rw [hcm] at o1
  clear hR hcm hm
  generalize m.b = B at *
  cases c
  all_goals
    go_enter Try.func33, Try.ntmps33
    go_wp2
    go_quiet (fail)
    go_wp2
    go_ret
    exact ⟨rfl, _, rfl⟩
attribute [local go_sem] Oper.semAt_some
set_option maxHeartbeats 1600000 in
set_option maxRecDepth 100000 in
theorem nodes1J_in (n : Nat) (hn : 1 ≤ n) (l bm bi bj bu m : Nat) (f : Nat → Bool) (Kp : World → World → Prop) (G : World → Prop) (J Jx : List (Fin m) → World → Prop)
    (hY : ∀ pre (x : Fin m) W, J pre W → pre.length < m → YieldAt Fence.wide (n - 1) Try.prog l #[.int .i64 (x.val : Int)] W fun e W' =>
      (e = .returned (.bool true) ∧ J (pre ++ [x]) W' ∧ Kp W W') ∨ (e = .returned (.bool false) ∧ Jx (pre ++ [x]) W'))
    (hm : m ≤ 1048576) (hD : ∀ W nq, G W → G (W.drewN nq)) (hJD : ∀ pre W nq, J pre W → J pre (W.drewN nq)) (hG : ∀ A B, G A → Kp A B → G B) (cm : ∀ W, G W → W.cell? ⟨bm, 0, none⟩ = some (.int .i64 m))
    (ci : ∀ W, G W → W.cell? ⟨bi, 0, none⟩ = some (.func (.func 33) #[] #[.pointer (some ⟨bj, 0, none⟩), .pointer (some ⟨bu, 0, none⟩)]))
    (IS : ∀ (k : Nat) (W : World), k < m → G W → Calls Try.prog 33 #[.int .i64 k, .pointer (some ⟨bj, 0, none⟩), .pointer (some ⟨bu, 0, none⟩)] W fun e w' => e = .returned (.bool (f k)) ∧ ∃ nq, w' = W.drewN nq)
    (W : World) (hW : G W) (h0 : J [] W) :
    CallsIn Fence.wide n Try.prog 38 #[.func (.yield l) #[] #[], .pointer (some ⟨bm, 0, none⟩), .pointer (some ⟨bi, 0, none⟩)] W fun e W' => (∃ v, e = .returned v) ∧
      ((∃ ys, ys = SP.up m f m ∧ J ys W') ∨ (∃ pre, pre <+: SP.up m f m ∧ Jx pre W')) := by
  have IS' : Hid (∀ (k : Nat) (W : World), k < m → G W → Calls Try.prog 33 #[.int .i64 k, .pointer (some ⟨bj, 0, none⟩), .pointer (some ⟨bu, 0, none⟩)] W fun e w' => e = .returned (.bool (f k)) ∧ ∃ nq, w' = W.drewN nq) := IS
  clear IS
  have hcm := cm W hW
  refine callsIn_of_wp Try.func38 rfl trivial ?_ rfl
  simp only [Try.ntmps38, List.size_toArray, List.length_cons, List.length_nil, Nat.reduceAdd, Nat.reduceSub, Array.replicate_succ, Array.replicate_zero, List.push_toArray, List.append_toArray, List.nil_append, List.cons_append]
  gi_wp2
  clear hcm
  gi_loopw [6] (fun p wr => ∃ k : Nat, p = .int .i64 k ∧ k ≤ m ∧ G wr ∧ J (SP.up m f k) wr)
    (fun p _ => m - (intOf p).toNat)
  case atStart => exact ⟨0, rfl, by omega, hW, h0⟩
  case round =>
    obtain ⟨k, rfl, hk, hg, hJ⟩ := hrel
    by_cases hkm : k < m
    · have hci := ci wr hg
      have hul := SP.up_le m f k
      have ISk := IS'.out k wr hkm hg
      cases hf : f k
      · rw [hf] at ISk
        gi_wp2_with fail
        refine ⟨trivial, (callsIn_wide.2 ISk).mono ?_⟩
        rintro e w1 ⟨rfl, nq, rfl⟩
        have hg1 := hD _ nq hg
        have hJ1 := hJD _ _ nq hJ
        generalize wr.drewN nq = w1 at *
        clear hY
        gi_wp2
        refine ⟨fun _ h => (by cases h), ?_⟩
        gi_wp2
        go_roundw
        case rel => exact ⟨k + 1, by go_num, by omega, hg1, by rw [SP.up_no hf]; exact hJ1⟩
        case measure => simp [intOf]; omega
      · rw [hf] at ISk
        gi_wp2_with fail
        refine ⟨trivial, (callsIn_wide.2 ISk).mono ?_⟩
        rintro e w1 ⟨rfl, nq, rfl⟩
        have hg1 := hD _ nq hg
        obtain ⟨fn, tmps, assign, body, hy, hR⟩ := hY (SP.up m f k) ⟨k, hkm⟩ (wr.drewN nq) (hJD _ _ nq hJ) (by omega)
        dsimp only at hy
        generalize wr.drewN nq = w1 at *
        gi_wp2
        refine hR.mono ?_
        rintro e W3 (⟨rfl, hJ3, hk3⟩ | ⟨rfl, hJx3⟩)
        · have hg3 := hG _ _ hg1 hk3
          clear hR hy
          gi_wp2
          go_roundw
          case rel => exact ⟨k + 1, by go_num, by omega, hg3, by rw [SP.up_yes hkm hf]; exact hJ3⟩
          case measure => simp [intOf]; omega
        · clear hR hy
          gi_wp2
          refine bodyPost_ret (results_none rfl _ _ _) rfl ?_
          exact ⟨⟨_, rfl⟩, .inr ⟨_, (by rw [← SP.up_yes hkm hf]; exact SP.up_pre' (by omega)), hJx3⟩⟩
    · obtain rfl : k = m := by omega
      gi_wp2
      go_end0
      exact ⟨⟨_, rfl⟩, .inl ⟨_, rfl, hJ⟩⟩
set_option maxHeartbeats 800000 in
set_option maxRecDepth 100000 in
theorem nodesThatJ_any (m : Int) (bj bu : Nat) (w : World) :
    Calls Try.prog 32 #[.int .i64 m, .func (.func 33) #[] #[.pointer (some ⟨bj, 0, none⟩), .pointer (some ⟨bu, 0, none⟩)]] w fun e w' => e = .returned (.func (.func 38) #[] #[.pointer (some ⟨w.heap.size, 0, none⟩), .pointer (some ⟨w.heap.size + 1, 0, none⟩)]) ∧ w' = (w.alloc (.cells #[.int .i64 m] 3)).alloc (.cells #[.func (.func 33) #[] #[.pointer (some ⟨bj, 0, none⟩), .pointer (some ⟨bu, 0, none⟩)]] 41) := by
  go_enter Try.func32, Try.ntmps32
  go_wp2
  go_ret
  exact ⟨rfl, rfl⟩
/-- What lies behind a call of thereBy. -/
def PN.jW (w : World) (jv : Array Value) (u : Int) : World := (((w.alloc (.cells jv 50)).alloc (.cells #[.int .i64 u] 3)).alloc (.cells #[.int .i64 8] 3)).alloc (.cells #[.func (.func 33) #[] #[.pointer (some ⟨w.heap.size, 0, none⟩), .pointer (some ⟨w.heap.size + 1, 0, none⟩)]] 41)
set_option maxHeartbeats 1600000 in
set_option maxRecDepth 100000 in
theorem thereBy_any (jv : Array Value) (u : Int) (w : World) :
    Calls Try.prog 17 #[.agg jv, .int .i64 u] w fun e w' => e = .returned (.func (.func 38) #[] #[.pointer (some ⟨w.heap.size + 1 + 1, 0, none⟩), .pointer (some ⟨w.heap.size + 1 + 1 + 1, 0, none⟩)]) ∧ w' = PN.jW w jv u := by
  go_enter Try.func17, Try.ntmps17
  go_wp2_with fail
  refine (nodesThatJ_any _ _ _ _).mono ?_
  rintro e w1 ⟨rfl, rfl⟩
  go_wp2
  go_ret
  exact ⟨by simp, rfl⟩
/-- Who is there by then, in a world in which the four boxes lie at B. -/
theorem thereBy_stops (n : Nat) (hn : 1 ≤ n) (B : Nat) (f : Int) (s : PN.St) (u : Int) (u0 : 0 ≤ u) (u1 : u ≤ 1000) (hok : PN.okS s.wh) (x y : Nat) (w0 w : World) (hw0 : w0.heap.size = B) (hw : w = PN.jW w0 (PN.jc f (PN.wb s) (PN.lb s)).toArray u) (hx : x < B ∨ B + 4 ≤ x) (hy : y < B ∨ B + 4 ≤ y) :
    SeqStopsK Fence.wide n Try.prog 38 #[.pointer (some ⟨B + 1 + 1, 0, none⟩), .pointer (some ⟨B + 1 + 1 + 1, 0, none⟩)] (fun i : Fin 8 => #[Value.int .i64 (i.val : Int)]) (SP.KP x y (B + 4)) (fun ys => ys = SP.up 8 (fun k => PN.inB u (s.wh k)) 8) (fun pre => pre <+: SP.up 8 (fun k => PN.inB u (s.wh k)) 8) 8 w := by
  intro l J Jx W hW hJA _ hY h0
  have hsz : w.heap.size = B + 4 := by rw [hw, PN.jW, ← hw0]; simp
  have cj : ∀ k : Nat, k < 8 → w.cell? ⟨B, 1 + k, none⟩ = some (.float .f64 (s.wh k).b) := fun k hk => by
    subst hw0
    rw [hw, PN.jW, SP.cell_old (by simp; try omega), SP.cell_old (by simp; try omega), SP.cell_old (by simp)]
    rw [World.cell?_alloc_at _ _ _ _ (by rfl)]
    rw [List.getElem?_toArray]
    exact PN.jc_w f _ _ hk
  have cu : w.cell? ⟨B + 1, 0, none⟩ = some (.int .i64 u) := by subst hw0; rw [hw, PN.jW, SP.cell_old (by simp; try omega), SP.cell_old (by simp)]; exact SP.cell_at (by simp) rfl
  have c1 : w.cell? ⟨B + 1 + 1, 0, none⟩ = some (.int .i64 (8 : Nat)) := by subst hw0; rw [hw, PN.jW, SP.cell_old (by simp)]; exact SP.cell_at (by simp) rfl
  have c2 : w.cell? ⟨B + 1 + 1 + 1, 0, none⟩ = some (.func (.func 33) #[] #[.pointer (some ⟨B, 0, none⟩), .pointer (some ⟨B + 1, 0, none⟩)]) := by subst hw0; rw [hw, PN.jW]; exact SP.cell_at (by simp) rfl
  refine nodes1J_in n hn l (B + 1 + 1) (B + 1 + 1 + 1) B (B + 1) 8 (fun k => PN.inB u (s.wh k)) (SP.KP x y (B + 4)) (fun V => SP.KP x y (B + 4) w V) J Jx hY (by omega) (fun V nq h => h.trans (fun k _ _ _ => rfl)) (fun pre V nq h => hJA pre V (V.drewN nq) none h ⟨rfl, rfl, rfl, Nat.le_refl _, fun _ _ _ => rfl⟩ (fun r e => by cases e)) (fun _ _ h k => h.trans k) (fun V h => (h.cell (p := ⟨B + 1 + 1, 0, none⟩) (by simp; try omega) (by simp; try omega) (by simp; try omega)).trans c1) (fun V h => (h.cell (p := ⟨B + 1 + 1 + 1, 0, none⟩) (by simp) (by simp; try omega) (by simp; try omega)).trans c2)
    (fun k V hk h => thereBy1_any B (B + 1) k (s.wh k) u V hk (hok k) u0 u1 ((h.cell (p := ⟨B, 1 + k, none⟩) (by simp) (by simp; try omega) (by simp; try omega)).trans (cj k hk)) ((h.cell (p := ⟨B + 1, 0, none⟩) (by simp) (by simp; try omega) (by simp; try omega)).trans cu)) W (SP.KP.of_below hW (by omega)) h0
end Go.Proofs.Ytdimdhiknjimaaa
