import Derived.Test.YtjplabldiheggaaRows
import Derived.Test.YtjplabldiheggaaMCur
import Derived.WalkKit
import Derived.WalkSpells
import Derived.WalkLawsBesides
import Derived.Outline
/- The walk of the cursor's next: a byte, and the cursor goes on. -/
namespace Go.Proofs.Ytjplabldiheggaa
open Go.RowKit
set_option maxHeartbeats 800000 in
set_option maxRecDepth 100000 in
theorem next_any (p : Nat) (a : Option Addr) (zs : List Int) (cap M : Nat) (w : World) (hz : zs.length ≤ 140737488355328) (hM : M ≤ 140737488355328) (hc : MC.Cur w p a zs cap M) :
    Calls Try.prog 65 #[.pointer (some ⟨p, 0, none⟩)] w fun e w' => ∃ b : Nat, e = .returned (.int .i64 (b : Int)) ∧ b ≤ 255 ∧ MC.Cur w' p a zs cap (M + 1) ∧ MC.Only p w w' := by
  have HC : Hid (MC.Cur w p a zs cap M) := hc
  obtain ⟨h1, h2, ⟨k, h3, h3'⟩, ⟨s, h4, h4'⟩, h5, h6, h7⟩ := hc
  by_cases hl : k < zs.length
  · obtain ⟨b, off, z, rfl, hb, hcz, hz0, hz1⟩ := h7.at hl
    clear h7
    go_enter Try.func65, Try.ntmps65
    go_wp2
    go_quiet (fail)
    go_wp2
    go_quiet (fail)
    go_wp2
    generalize hv : IntKind.u64.wrap (IntKind.u64.wrap (IntKind.u64.wrap ((s : Int) * 6364136223846793005) + z) + 1442695040888963407) = v
    have hv0 : 0 ≤ v := by rw [← hv]; exact wrap_u64_nonneg _
    have hv1 : v < 18446744073709551616 := by rw [← hv, IntKind.wrap_u64]; exact Int.emod_lt_of_pos _ (by decide)
    clear hv
    have HV : Hid (v < 18446744073709551616) := hv1
    clear hv1
    go_quiet (fail)
    go_wp2
    go_ret
    obtain ⟨zn, rfl⟩ := Int.eq_ofNat_of_zero_le hz0
    exact ⟨zn, rfl, by omega, HC.out.step (k := k + 1) (by omega) hv0 HV.out, ((((MC.Only.refl p w).drewN _).setCell 1 _).setCell 2 _).drewN _⟩
  · clear h7
    go_enter Try.func65, Try.ntmps65
    go_wp2
    go_quiet (fail)
    go_wp2
    generalize hv : IntKind.u64.wrap (IntKind.u64.wrap (IntKind.u64.wrap ((s : Int) * 6364136223846793005)) + 1442695040888963407) = v
    have hv0 : 0 ≤ v := by rw [← hv]; exact wrap_u64_nonneg _
    have hv1 : v < 18446744073709551616 := by rw [← hv, IntKind.wrap_u64]; exact Int.emod_lt_of_pos _ (by decide)
    clear hv
    obtain ⟨r, hr1, h255⟩ := MC.shr40 v hv0 hv1
    have HV : Hid (v < 18446744073709551616) := hv1
    clear hv1
    go_quiet (fail)
    go_wp2
    go_ret
    exact ⟨r, rfl, hr1, HC.out.step (k := k + 1) (by omega) hv0 HV.out, ((((MC.Only.refl p w).drewN _).setCell 1 _).setCell 2 _).drewN _⟩
end Go.Proofs.Ytjplabldiheggaa

/- The walks of the cursor's pick, one, of, among: a number below n; yes or no; one of some. -/
namespace Go.Proofs.Ytjplabldiheggaa
open Go.RowKit
set_option maxHeartbeats 800000 in
set_option maxRecDepth 100000 in
theorem pick_any (p : Nat) (a : Option Addr) (zs : List Int) (cap M : Nat) (n : Int) (w : World) (hz : zs.length ≤ 140737488355328) (hM : M ≤ 140737488350000) (hc : MC.Cur w p a zs cap M) :
    Calls Try.prog 46 #[.pointer (some ⟨p, 0, none⟩), .int .i64 n] w fun e w' => ∃ r : Nat, e = .returned (.int .i64 (r : Int)) ∧ (r = 0 ∨ (r : Int) < n) ∧ r ≤ 65535 ∧ MC.Cur w' p a zs cap (M + 2) ∧ MC.Only p w w' := by
  by_cases h1 : n ≤ 1
  · go_enter Try.func46, Try.ntmps46
    go_wp2
    go_ret
    exact ⟨0, rfl, .inl rfl, by omega, hc.more (by omega), MC.Only.refl _ _⟩
  · have hn : 0 < n := by omega
    by_cases h200 : n ≤ 200
    · go_enter Try.func46, Try.ntmps46
      go_wp2_with fail
      refine (next_any p a zs cap M _ hz (by omega) hc).mono ?_
      rintro e w1 ⟨b, rfl, hb, hc1, ho1⟩
      have hne : (n == 0) = false := by simp; omega
      have hm0 := Int.emod_nonneg (b : Int) (show n ≠ 0 by omega)
      have hm1 := Int.emod_lt_of_pos (b : Int) hn
      go_wp2
      go_ret
      obtain ⟨r, hr⟩ := Int.eq_ofNat_of_zero_le hm0
      refine ⟨r, ?_, .inr (by omega), by omega, hc1.more (by omega), ho1⟩
      rw [← hr]; rfl
    · go_enter Try.func46, Try.ntmps46
      go_wp2_with fail
      refine (next_any p a zs cap M _ hz (by omega) hc).mono ?_
      rintro e w1 ⟨b, rfl, hb, hc1, ho1⟩
      go_wp2_with fail
      refine (next_any p a zs cap (M + 1) _ hz (by omega) hc1).mono ?_
      rintro e w2 ⟨b2, rfl, hb2, hc2, ho2⟩
      have hne : (n == 0) = false := by simp; omega
      have hm0 := Int.emod_nonneg ((b : Int) * 256 + b2) (show n ≠ 0 by omega)
      have hm1 := Int.emod_lt_of_pos ((b : Int) * 256 + b2) hn
      have hm2 : ((b : Int) * 256 + b2) % n ≤ (b : Int) * 256 + b2 := MC.emod_le _ _ (by omega) hn
      go_wp2
      go_ret
      obtain ⟨r, hr⟩ := Int.eq_ofNat_of_zero_le hm0
      refine ⟨r, ?_, .inr (by omega), by omega, hc2, ho1.trans ho2⟩
      rw [← hr]; rfl
set_option maxHeartbeats 800000 in
set_option maxRecDepth 100000 in
theorem one_any (p : Nat) (a : Option Addr) (zs : List Int) (cap M : Nat) (n : Int) (w : World) (hz : zs.length ≤ 140737488355328) (hM : M ≤ 140737488350000) (hc : MC.Cur w p a zs cap M) :
    Calls Try.prog 47 #[.pointer (some ⟨p, 0, none⟩), .int .i64 n] w fun e w' => ∃ b : Bool, e = .returned (.bool b) ∧ MC.Cur w' p a zs cap (M + 2) ∧ MC.Only p w w' := by
  go_enter Try.func47, Try.ntmps47
  go_wp2_with fail
  refine (pick_any p a zs cap M n _ hz hM hc).mono ?_
  rintro e w1 ⟨r, rfl, _, _, hc1, ho1⟩
  go_wp2
  go_ret
  exact ⟨_, rfl, hc1, ho1⟩
end Go.Proofs.Ytjplabldiheggaa
