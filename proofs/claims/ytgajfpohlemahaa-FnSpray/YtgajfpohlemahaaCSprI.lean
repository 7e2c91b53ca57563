/- The iterator over the nodes that a question is answered true for, asked of a spray's tokens. -/
import Derived.Test.YtgajfpohlemahaaRows
import Derived.Test.YtgajfpohlemahaaMSpr
import Derived.RangeFuncNested
import Derived.RangeFuncBound
import Derived.RangeFuncCalls
import Derived.RangeFuncLeaves
import Derived.Shelf.Abstract
import Derived.Shelf.RegionOpen
import Derived.WalkKit
import Derived.WalkSpells
import Derived.WalkLawsBesides
import Derived.Outline
import Derived.OwnWalkIn
import Derived.TacticsInMore
import Derived.LoopNIn
import Derived.LoopIn
namespace Go.Proofs.Ytgajfpohlemahaa
open Go.RowKit Go.Shelf
def SP.has (zs : List Int) (k : Nat) : Bool := decide (zs.getD k 0 ≠ 0)
set_option maxHeartbeats 800000 in
set_option maxRecDepth 100000 in
theorem hasTok_any (bs : Nat) (a : Option Addr) (cap k : Nat) (zs : List Int) (w : World) (hc : w.cell? ⟨bs, 0, none⟩ = some (.slice a zs.length cap)) (hz : M4.IntsAt w a zs) (hk : k < zs.length) :
    Calls Try.prog 35 #[.int .i64 k, .pointer (some ⟨bs, 0, none⟩)] w fun e w' => e = .returned (.bool (SP.has zs k)) ∧ w = w' := by
  obtain ⟨b, off, rfl, hb, hcell⟩ := hz.at hk
  unfold SP.has
  generalize zs.getD k 0 = z at *
  generalize zs.length = m at *
  clear hz
  go_enter Try.func35, Try.ntmps35
  go_wp2
  go_ret
  exact ⟨M4.ret_bool (by by_cases h : z = 0 <;> simp [h]), rfl⟩

attribute [local go_sem] Oper.semAt_some
set_option maxHeartbeats 1600000 in
set_option maxRecDepth 100000 in
theorem nodes1_in (n : Nat) (hn : 1 ≤ n) (l bm bi bs m : Nat) (f : Nat → Bool) (Kp : World → World → Prop) (G : World → Prop) (J Jx : List (Fin m) → World → Prop)
    (hY : ∀ pre (x : Fin m) W, J pre W → pre.length < m → YieldAt Fence.wide (n - 1) Try.prog l #[.int .i64 (x.val : Int)] W fun e W' =>
      (e = .returned (.bool true) ∧ J (pre ++ [x]) W' ∧ Kp W W') ∨ (e = .returned (.bool false) ∧ Jx (pre ++ [x]) W'))
    (hm : m ≤ 1048576) (hG : ∀ A B, G A → Kp A B → G B) (cm : ∀ W, G W → W.cell? ⟨bm, 0, none⟩ = some (.int .i64 m))
    (ci : ∀ W, G W → W.cell? ⟨bi, 0, none⟩ = some (.func (.func 35) #[] #[.pointer (some ⟨bs, 0, none⟩)]))
    (IS : ∀ (k : Nat) (W : World), k < m → G W → Calls Try.prog 35 #[.int .i64 k, .pointer (some ⟨bs, 0, none⟩)] W fun e w' => e = .returned (.bool (f k)) ∧ W = w')
    (W : World) (hW : G W) (h0 : J [] W) :
    CallsIn Fence.wide n Try.prog 38 #[.func (.yield l) #[] #[], .pointer (some ⟨bm, 0, none⟩), .pointer (some ⟨bi, 0, none⟩)] W fun e W' => (∃ v, e = .returned v) ∧
      ((∃ ys, ys = SP.up m f m ∧ J ys W') ∨ (∃ pre, pre <+: SP.up m f m ∧ Jx pre W')) := by
  have IS' : Hid (∀ (k : Nat) (W : World), k < m → G W → Calls Try.prog 35 #[.int .i64 k, .pointer (some ⟨bs, 0, none⟩)] W fun e w' => e = .returned (.bool (f k)) ∧ W = w') := IS
  clear IS
  have hcm := cm W hW
  refine callsIn_of_wp Try.func38 rfl trivial ?_ rfl
  simp only [Try.ntmps38, List.size_toArray, List.length_cons, List.length_nil, Nat.reduceAdd, Nat.reduceSub, Array.replicate_succ, Array.replicate_zero, List.push_toArray, List.append_toArray, List.nil_append, List.cons_append]
  gi_wp2
  clear hcm
  gi_loopw [6] (fun p wr => ∃ k : Nat, p = .int .i64 k ∧ k ≤ m ∧ G wr ∧ J (SP.up m f k) wr)
    (fun p _ => m - (intOf p).toNat)
  case atStart => exact ⟨0, rfl, by omega, hW, h0⟩
  case round =>
    obtain ⟨k, rfl, hk, hg, hJ⟩ := hrel
    by_cases hkm : k < m
    · have hci := ci wr hg
      have hul := SP.up_le m f k
      obtain ⟨fn, tmps, assign, body, hy, hR⟩ := hY (SP.up m f k) ⟨k, hkm⟩ wr hJ (by omega)
      have ISk := IS'.out k wr hkm hg
      cases hf : f k
      · rw [hf] at ISk
        gi_wp2_with fail
        refine ⟨trivial, (callsIn_wide.2 ISk).mono ?_⟩
        rintro e w1 ⟨rfl, rfl⟩
        clear hR hy
        gi_wp2
        refine ⟨fun _ h => (by cases h), ?_⟩
        gi_wp2
        go_roundw
        case rel => exact ⟨k + 1, by go_num, by omega, hg, by rw [SP.up_no hf]; exact hJ⟩
        case measure => simp [intOf]; omega
      · rw [hf] at ISk
        dsimp only at hy
        gi_wp2_with fail
        refine ⟨trivial, (callsIn_wide.2 ISk).mono ?_⟩
        rintro e w1 ⟨rfl, rfl⟩
        gi_wp2
        refine hR.mono ?_
        rintro e W3 (⟨rfl, hJ3, hk3⟩ | ⟨rfl, hJx3⟩)
        · have hg3 := hG _ _ hg hk3
          clear hR hy
          gi_wp2
          go_roundw
          case rel => exact ⟨k + 1, by go_num, by omega, hg3, by rw [SP.up_yes hkm hf]; exact hJ3⟩
          case measure => simp [intOf]; omega
        · clear hR hy
          gi_wp2
          refine bodyPost_ret (results_none rfl _ _ _) rfl ?_
          exact ⟨⟨_, rfl⟩, .inr ⟨_, (by rw [← SP.up_yes hkm hf]; exact SP.up_pre' (by omega)), hJx3⟩⟩
    · obtain rfl : k = m := by omega
      gi_wp2
      go_end0
      exact ⟨⟨_, rfl⟩, .inl ⟨_, rfl, hJ⟩⟩
set_option maxHeartbeats 800000 in
set_option maxRecDepth 100000 in
theorem nodesThat_any (m : Int) (bs : Nat) (w : World) :
    Calls Try.prog 34 #[.int .i64 m, .func (.func 35) #[] #[.pointer (some ⟨bs, 0, none⟩)]] w fun e w' => e = .returned (.func (.func 38) #[] #[.pointer (some ⟨w.heap.size, 0, none⟩), .pointer (some ⟨w.heap.size + 1, 0, none⟩)]) ∧ w' = (w.alloc (.cells #[.int .i64 m] 3)).alloc (.cells #[.func (.func 35) #[] #[.pointer (some ⟨bs, 0, none⟩)]] 63) := by
  go_enter Try.func34, Try.ntmps34
  go_wp2
  go_ret
  exact ⟨rfl, rfl⟩
/-- What lies behind a call of carriers. -/
def SP.carW (w : World) (v : Value) (m : Nat) (t : Int) (th : Bool) : World := ((w.alloc (.cells #[v, .int .i64 t, .bool th] 28)).alloc (.cells #[.int .i64 m] 3)).alloc (.cells #[.func (.func 35) #[] #[.pointer (some ⟨w.heap.size, 0, none⟩)]] 63)
set_option maxHeartbeats 800000 in
set_option maxRecDepth 100000 in
theorem carriers_any (a : Option Addr) (m cap : Nat) (t : Int) (th : Bool) (w : World) :
    Calls Try.prog 22 #[.agg #[.slice a m cap, .int .i64 t, .bool th]] w fun e w' => e = .returned (.func (.func 38) #[] #[.pointer (some ⟨w.heap.size + 1, 0, none⟩), .pointer (some ⟨w.heap.size + 1 + 1, 0, none⟩)]) ∧ w' = SP.carW w (.slice a m cap) m t th := by
  go_enter Try.func22, Try.ntmps22
  go_wp2_with fail
  refine (nodesThat_any _ _ _).mono ?_
  rintro e w1 ⟨rfl, rfl⟩
  go_wp2
  go_ret
  exact ⟨by simp, rfl⟩
/-- The spray's nodes with tokens, in a world in which the three boxes lie at B. -/
theorem carriers_stops (n : Nat) (hn : 1 ≤ n) (B : Nat) (a : Option Addr) (cap : Nat) (t : Int) (th : Bool) (zs : List Int) (x y : Nat) (w0 w : World) (hw0 : w0.heap.size = B) (hw : w = SP.carW w0 (.slice a zs.length cap) zs.length t th) (hl : zs.length ≤ 1048576) (hz : M4.IntsAt w0 a zs)
    (hx : x < B) (hy : y < B) (ha : ∀ g off, a = some ⟨g, off, none⟩ → g ≠ x ∧ g ≠ y) :
    SeqStopsK Fence.wide n Try.prog 38 #[.pointer (some ⟨B + 1, 0, none⟩), .pointer (some ⟨B + 1 + 1, 0, none⟩)] (fun i : Fin zs.length => #[Value.int .i64 (i.val : Int)]) (SP.KP x y (B + 3)) (fun ys => ys = SP.up zs.length (SP.has zs) zs.length) (fun pre => pre <+: SP.up zs.length (SP.has zs) zs.length) zs.length w := by
  intro l J Jx W hW _ _ hY h0
  have hB0 : Below B w0 w := by subst hw0; rw [hw, SP.carW]; exact (((Below.refl _ _).alloc (Nat.le_refl _) _).alloc (by simp) _).alloc (by simp; omega) _
  have hsz : w.heap.size = B + 3 := by rw [hw, SP.carW, ← hw0]; simp
  have hz1 : M4.IntsAt w a zs := hz.below (by rw [hw0]; exact hB0)
  have c0 : w.cell? ⟨B, 0, none⟩ = some (.slice a zs.length cap) := by subst hw0; rw [hw, SP.carW, SP.cell_old (by simp; omega), SP.cell_old (by simp)]; simp
  have c1 : w.cell? ⟨B + 1, 0, none⟩ = some (.int .i64 zs.length) := by subst hw0; rw [hw, SP.carW, SP.cell_old (by simp)]; exact SP.cell_at (by simp) rfl
  have c2 : w.cell? ⟨B + 1 + 1, 0, none⟩ = some (.func (.func 35) #[] #[.pointer (some ⟨B, 0, none⟩)]) := by subst hw0; rw [hw, SP.carW]; exact SP.cell_at (by simp) rfl
  have hlt : ∀ g off, a = some ⟨g, off, none⟩ → zs ≠ [] → g < B := fun g off e hne => by
    rcases hz with h | ⟨g', off', e', hg', -⟩
    · exact absurd h hne
    · rw [e] at e'; cases e'; rw [hw0] at hg'; exact hg'
  refine nodes1_in n hn l (B + 1) (B + 1 + 1) B zs.length (SP.has zs) (SP.KP x y (B + 3)) (fun V => SP.KP x y (B + 3) w V) J Jx hY hl (fun _ _ h k => h.trans k) (fun V h => (h.cell (p := ⟨B + 1, 0, none⟩) (by simp) (by simp; omega) (by simp; omega)).trans c1) (fun V h => (h.cell (p := ⟨B + 1 + 1, 0, none⟩) (by simp) (by simp; omega) (by simp; omega)).trans c2)
    (fun k V hk h => hasTok_any B a cap k zs V ((h.cell (p := ⟨B, 0, none⟩) (by simp) (by simp; omega) (by simp; omega)).trans c0) ?_ hk) W (SP.KP.of_below hW (by omega)) h0
  have hne : zs ≠ [] := by rintro rfl; simp at hk
  rcases hz1 with e | ⟨g, off, rfl, hg, hc⟩
  · exact absurd e hne
  · have hgB := hlt g off rfl hne
    have hxy := ha g off rfl
    refine .inr ⟨g, off, rfl, ?_, fun j hj => (h.cell (p := ⟨g, off + j, none⟩) (by simp; omega) hxy.1 hxy.2).trans (hc j hj)⟩
    have e1 := h g (by omega) hxy.1 hxy.2
    rw [Array.getElem?_eq_getElem hg] at e1
    exact (Array.getElem?_eq_some_iff.1 e1).1
end Go.Proofs.Ytgajfpohlemahaa
