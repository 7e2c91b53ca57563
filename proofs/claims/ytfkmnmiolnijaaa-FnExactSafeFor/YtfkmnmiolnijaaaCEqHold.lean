/- The laws' eqHoldS tells whether two slices hold the same. -/
import Derived.Test.YtfkmnmiolnijaaaRows
import Derived.Test.YtfkmnmiolnijaaaMI2
import Derived.WalkKit
import Derived.WalkSpells
import Derived.WalkLawsBesides
import Derived.Outline
import Derived.Deep.RegionWith
namespace Go.Proofs.Ytfkmnmiolnijaaa
open Go.RowKit
set_option maxHeartbeats 1600000 in
set_option maxRecDepth 100000 in
theorem eqHold_any (x y : I2) (w : World) : Calls Try.prog 73 #[x.v, y.v] w fun e w' => e = .returned (.bool (decide (x = y))) ∧ Below w.heap.size w w' := by
  obtain ⟨x0, x1⟩ := x
  obtain ⟨y0, y1⟩ := y
  have hB : ∀ o1 o2, Below w.heap.size w ((w.alloc o1).alloc o2) := fun o1 o2 => ((Below.refl _ w).alloc (Nat.le_refl _) o1).alloc (by simp) o2
  by_cases h0 : x0 = y0
  · subst h0
    by_cases h1 : x1 = y1
    · subst h1
      go_enter Try.func73, Try.ntmps73
      go_wp2
      go_ret
      exact ⟨by simp, hB _ _⟩
    · have hF : Hid (decide ((⟨x0, x1⟩ : I2) = ⟨x0, y1⟩) = false) := by show _ = _; simp [h1]
      have hne : (x1 != y1) = true := by simp [h1]
      go_enter Try.func73, Try.ntmps73
      go_wp2
      go_ret
      exact ⟨M4.ret_bool hF.out.symm, hB _ _⟩
  · have hF : Hid (decide ((⟨x0, x1⟩ : I2) = ⟨y0, y1⟩) = false) := by show _ = _; simp [h0]
    have hne : (x0 != y0) = true := by simp [h0]
    go_enter Try.func73, Try.ntmps73
    go_wp2
    go_ret
    exact ⟨M4.ret_bool hF.out.symm, hB _ _⟩
set_option maxHeartbeats 1600000 in
set_option maxRecDepth 100000 in
theorem eqHoldS_any (a b : Option Addr) (ca cb : Nat) (xs ys : List I2) (w : World) (hx : xs.length ≤ 1048576) (hy : ys.length ≤ 1048576) (hax : MI2.RowAt w a xs) (hay : MI2.RowAt w b ys) :
    Calls Try.prog 64 #[.slice a xs.length ca, .slice b ys.length cb] w fun e w' => e = .returned (.bool (decide (xs = ys))) ∧ Below w.heap.size w w' := by
  by_cases hl : xs.length = ys.length
  · have hne : ((xs.length : Int) != (ys.length : Int)) = false := by simp [hl]
    have l1 : xs.length ≤ ys.length := by omega
    have HL : Hid (xs.length = ys.length) := hl
    clear hl
    go_enter Try.func64, Try.ntmps64
    go_wp2
    go_loopw [5] (fun iv wr => ∃ k : Nat, iv = .int .i64 k ∧ k ≤ xs.length ∧ Hid (xs.take k = ys.take k) ∧ Below w.heap.size w wr) (fun iv _ => (xs.length - intOf iv).toNat)
    case atStart => exact ⟨0, rfl, by omega, rfl, Below.refl _ _⟩
    case round =>
      obtain ⟨k, rfl, hk, hT, hb⟩ := hrel
      by_cases hl : k < xs.length
      · have hly : k < ys.length := by omega
        obtain ⟨b1, off1, rfl, hlt1, c0, c1⟩ := (hax.below hb).at hl
        obtain ⟨b2, off2, rfl, hlt2, d0, d1⟩ := (hay.below hb).at hly
        clear hax hay
        have hT' : Hid _ := fun e => MI2.take_eq hl hly hT.out e
        have hF : Hid _ := fun e => MI2.take_ne (xs := xs) (ys := ys) (k := k) e
        generalize MI2.at_ xs k = x at *
        generalize MI2.at_ ys k = y at *
        obtain ⟨x0, x1⟩ := x
        obtain ⟨y0, y1⟩ := y
        have EQ : Hid (∀ W : World, Calls Try.prog 73 #[.agg #[.int .i64 x0, .int .i64 x1], .agg #[.int .i64 y0, .int .i64 y1]] W fun e w' => e = .returned (.bool (decide ((⟨x0, x1⟩ : I2) = ⟨y0, y1⟩))) ∧ Below W.heap.size W w') := fun W => eqHold_any ⟨x0, x1⟩ ⟨y0, y1⟩ W
        obtain ⟨bq, hbq⟩ : ∃ bq, decide ((⟨x0, x1⟩ : I2) = ⟨y0, y1⟩) = bq := ⟨_, rfl⟩
        rw [hbq] at EQ
        have HBQ : Hid _ := hbq
        clear hbq
        go_wp2
        go_region_with (go_at_call 73; refine (EQ.out _).mono ?_; rintro e w1 ⟨rfl, hb1⟩)
        all_goals (
          have hB1 : Below w.heap.size w w1 := hb.drew.trans (hb1.mono (by have := hb.size; simpa using this))
          clear hb1 hb EQ c0 c1 d0 d1
          cases bq
          · have hE : Hid (decide (xs = ys) = false) := by
              show _ = _
              simp only [decide_eq_false_iff_not]
              exact hF.out (of_decide_eq_false HBQ.out)
            clear hT hT' hF HBQ
            go_wp2
            go_ret
            exact ⟨M4.ret_bool hE.out.symm, hB1⟩
          · have hE : Hid _ := hT'.out (of_decide_eq_true HBQ.out)
            clear hT hT' hF HBQ
            go_wp2
            go_roundw
            case rel => exact ⟨k + 1, by go_num, by omega, hE, hB1⟩
            case measure => simp [intOf]; omega)
      · obtain rfl : k = xs.length := by omega
        have hF : Hid (decide (xs = ys) = true) := by
          show _ = _
          simp only [decide_eq_true_eq]
          have := hT.out
          rw [List.take_length, HL.out, List.take_length] at this
          exact this
        go_wp2
        go_ret
        exact ⟨M4.ret_bool hF.out.symm, hb⟩
  · have hne : ((xs.length : Int) != (ys.length : Int)) = true := by simp; omega
    have hF : Hid (decide (xs = ys) = false) := by
      show _ = _
      simp only [decide_eq_false_iff_not]
      exact fun e => hl (by rw [e])
    clear hl
    go_enter Try.func64, Try.ntmps64
    go_wp2
    go_ret
    exact ⟨M4.ret_bool hF.out.symm, Below.refl _ _⟩
end Go.Proofs.Ytfkmnmiolnijaaa
