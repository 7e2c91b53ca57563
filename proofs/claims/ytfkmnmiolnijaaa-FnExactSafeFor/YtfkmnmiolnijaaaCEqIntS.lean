/- The laws' eqIntS tells whether two slices hold the same numbers. -/
import Derived.Test.YtfkmnmiolnijaaaRows
import Derived.Test.YtfkmnmiolnijaaaM4
import Derived.WalkKit
import Derived.WalkSpells
import Derived.WalkLawsBesides
import Derived.Outline
import Derived.Deep.QuietTactic
import Derived.BigQuiet
namespace Go.Proofs.Ytfkmnmiolnijaaa
open Go.RowKit
set_option maxHeartbeats 800000 in
set_option maxRecDepth 100000 in
theorem eqIntS_any (a b : Option Addr) (ca cb : Nat) (xs ys : List Int) (w : World) (hx : xs.length ≤ 140737488355328) (hy : ys.length ≤ 140737488355328) (hax : M4.IntsAt w a xs) (hay : M4.IntsAt w b ys) :
    Calls Try.prog 26 #[.slice a xs.length ca, .slice b ys.length cb] w fun e w' => e = .returned (.bool (decide (xs = ys))) ∧ Below w.heap.size w w' := by
  by_cases hl : xs.length = ys.length
  · have hne : ((xs.length : Int) != (ys.length : Int)) = false := by simp [hl]
    have l1 : xs.length ≤ ys.length := by omega
    have HL : Hid (xs.length = ys.length) := hl
    clear hl
    go_enter Try.func26, Try.ntmps26
    go_wp2
    go_loopw [5] (fun iv wr => ∃ k : Nat, iv = .int .i64 k ∧ k ≤ xs.length ∧ Hid (xs.take k = ys.take k) ∧ Below w.heap.size w wr) (fun iv _ => (xs.length - intOf iv).toNat)
    case atStart => exact ⟨0, rfl, by omega, rfl, Below.refl _ _⟩
    case round =>
      obtain ⟨k, rfl, hk, hT, hb⟩ := hrel
      by_cases hl : k < xs.length
      · have hly : k < ys.length := by omega
        obtain ⟨b1, off1, rfl, hlt1, hc1⟩ := (hax.below hb).at hl
        obtain ⟨b2, off2, rfl, hlt2, hc2⟩ := (hay.below hb).at hly
        clear hax hay
        obtain ⟨x, hx'⟩ : ∃ x, x = xs.getD k 0 := ⟨_, rfl⟩
        obtain ⟨y, hy'⟩ : ∃ y, y = ys.getD k 0 := ⟨_, rfl⟩
        rw [← hx'] at hc1
        rw [← hy'] at hc2
        have HX : Hid (x = xs.getD k 0) := hx'
        have HY : Hid (y = ys.getD k 0) := hy'
        clear hx' hy'
        by_cases hxy : x = y
        · have hT' : Hid (xs.take (k + 1) = ys.take (k + 1)) := by
            show _ = _
            rw [M4.take_snoc xs k hl, M4.take_snoc ys k hly, hT.out, ← HX.out, ← HY.out, hxy]
          subst hxy
          go_wp2
          go_quiet (fail)
          go_wp2
          go_roundw
          case rel => exact ⟨k + 1, by go_num, by omega, hT', below_drewN hb _⟩
          case measure => simp [intOf]; omega
        · have hbe : (x != y) = true := by simp [hxy]
          have hF : Hid (decide (xs = ys) = false) := by
            show _ = _
            simp only [decide_eq_false_iff_not]
            exact M4.take_ne xs ys k (by rw [← HX.out, ← HY.out]; exact hxy)
          clear hxy
          go_wp2
          go_quiet (fail)
          go_wp2
          go_ret
          exact ⟨M4.ret_bool hF.out.symm, below_drewN hb _⟩
      · obtain rfl : k = xs.length := by omega
        have hF : Hid (decide (xs = ys) = true) := by
          show _ = _
          simp only [decide_eq_true_eq]
          exact M4.take_eq xs ys HL.out hT.out
        go_wp2
        go_ret
        exact ⟨M4.ret_bool hF.out.symm, hb⟩
  · have hne : ((xs.length : Int) != (ys.length : Int)) = true := by simp; omega
    have hF : Hid (decide (xs = ys) = false) := by
      show _ = _
      simp only [decide_eq_false_iff_not]
      exact fun e => hl (by rw [e])
    clear hl
    go_enter Try.func26, Try.ntmps26
    go_wp2
    go_ret
    exact ⟨M4.ret_bool hF.out.symm, Below.refl _ _⟩
end Go.Proofs.Ytfkmnmiolnijaaa
