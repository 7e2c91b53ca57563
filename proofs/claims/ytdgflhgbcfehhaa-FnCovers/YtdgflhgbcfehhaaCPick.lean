/- The walks of the cursor's pick, one, of, among: a number below n; yes or no; one of some. -/
import Derived.Test.YtdgflhgbcfehhaaCNext
namespace Go.Proofs.Ytdgflhgbcfehhaa
open Go.RowKit
set_option maxHeartbeats 800000 in
set_option maxRecDepth 100000 in
theorem pick_any (p : Nat) (a : Option Addr) (zs : List Int) (cap M : Nat) (n : Int) (w : World) (hz : zs.length ≤ 140737488355328) (hM : M ≤ 140737488350000) (hc : MC.Cur w p a zs cap M) :
    Calls Try.prog 49 #[.pointer (some ⟨p, 0, none⟩), .int .i64 n] w fun e w' => ∃ r : Nat, e = .returned (.int .i64 (r : Int)) ∧ (r = 0 ∨ (r : Int) < n) ∧ r ≤ 65535 ∧ MC.Cur w' p a zs cap (M + 2) ∧ MC.Only p w w' := by
  by_cases h1 : n ≤ 1
  · go_enter Try.func49, Try.ntmps49
    go_wp2
    go_ret
    exact ⟨0, rfl, .inl rfl, by omega, hc.more (by omega), MC.Only.refl _ _⟩
  · have hn : 0 < n := by omega
    by_cases h200 : n ≤ 200
    · go_enter Try.func49, Try.ntmps49
      go_wp2_with fail
      refine (next_any p a zs cap M _ hz (by omega) hc).mono ?_
      rintro e w1 ⟨b, rfl, hb, hc1, ho1⟩
      have hne : (n == 0) = false := by simp; omega
      have hm0 := Int.emod_nonneg (b : Int) (show n ≠ 0 by omega)
      have hm1 := Int.emod_lt_of_pos (b : Int) hn
      go_wp2
      go_ret
      obtain ⟨r, hr⟩ := Int.eq_ofNat_of_zero_le hm0
      refine ⟨r, ?_, .inr (by omega), by omega, hc1.more (by omega), ho1⟩
      rw [← hr]; rfl
    · go_enter Try.func49, Try.ntmps49
      go_wp2_with fail
      refine (next_any p a zs cap M _ hz (by omega) hc).mono ?_
      rintro e w1 ⟨b, rfl, hb, hc1, ho1⟩
      go_wp2_with fail
      refine (next_any p a zs cap (M + 1) _ hz (by omega) hc1).mono ?_
      rintro e w2 ⟨b2, rfl, hb2, hc2, ho2⟩
      have hne : (n == 0) = false := by simp; omega
      have hm0 := Int.emod_nonneg ((b : Int) * 256 + b2) (show n ≠ 0 by omega)
      have hm1 := Int.emod_lt_of_pos ((b : Int) * 256 + b2) hn
      have hm2 : ((b : Int) * 256 + b2) % n ≤ (b : Int) * 256 + b2 := MC.emod_le _ _ (by omega) hn
      go_wp2
      go_ret
      obtain ⟨r, hr⟩ := Int.eq_ofNat_of_zero_le hm0
      refine ⟨r, ?_, .inr (by omega), by omega, hc2, ho1.trans ho2⟩
      rw [← hr]; rfl
set_option maxHeartbeats 800000 in
set_option maxRecDepth 100000 in
theorem one_any (p : Nat) (a : Option Addr) (zs : List Int) (cap M : Nat) (n : Int) (w : World) (hz : zs.length ≤ 140737488355328) (hM : M ≤ 140737488350000) (hc : MC.Cur w p a zs cap M) :
    Calls Try.prog 27 #[.pointer (some ⟨p, 0, none⟩), .int .i64 n] w fun e w' => ∃ b : Bool, e = .returned (.bool b) ∧ MC.Cur w' p a zs cap (M + 2) ∧ MC.Only p w w' := by
  go_enter Try.func27, Try.ntmps27
  go_wp2_with fail
  refine (pick_any p a zs cap M n _ hz hM hc).mono ?_
  rintro e w1 ⟨r, rfl, _, _, hc1, ho1⟩
  go_wp2
  go_ret
  exact ⟨_, rfl, hc1, ho1⟩
end Go.Proofs.Ytdgflhgbcfehhaa
