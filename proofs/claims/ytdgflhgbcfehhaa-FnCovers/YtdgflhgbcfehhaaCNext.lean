/- The walk of the cursor's next: a byte, and the cursor goes on. -/
import Derived.Test.YtdgflhgbcfehhaaRows
import Derived.Test.YtdgflhgbcfehhaaMCur
import Derived.WalkKit
import Derived.WalkSpells
import Derived.WalkLawsBesides
import Derived.Outline
namespace Go.Proofs.Ytdgflhgbcfehhaa
open Go.RowKit
set_option maxHeartbeats 800000 in
set_option maxRecDepth 100000 in
theorem next_any (p : Nat) (a : Option Addr) (zs : List Int) (cap M : Nat) (w : World) (hz : zs.length ≤ 140737488355328) (hM : M ≤ 140737488355328) (hc : MC.Cur w p a zs cap M) :
    Calls Try.prog 67 #[.pointer (some ⟨p, 0, none⟩)] w fun e w' => ∃ b : Nat, e = .returned (.int .i64 (b : Int)) ∧ b ≤ 255 ∧ MC.Cur w' p a zs cap (M + 1) ∧ MC.Only p w w' := by
  have HC : Hid (MC.Cur w p a zs cap M) := hc
  obtain ⟨h1, h2, ⟨k, h3, h3'⟩, ⟨s, h4, h4'⟩, h5, h6, h7⟩ := hc
  by_cases hl : k < zs.length
  · obtain ⟨b, off, z, rfl, hb, hcz, hz0, hz1⟩ := h7.at hl
    clear h7
    go_enter Try.func67, Try.ntmps67
    go_wp2
    go_quiet (fail)
    go_wp2
    go_quiet (fail)
    go_wp2
    generalize hv : IntKind.u64.wrap (IntKind.u64.wrap (IntKind.u64.wrap ((s : Int) * 6364136223846793005) + z) + 1442695040888963407) = v
    have hv0 : 0 ≤ v := by rw [← hv]; exact wrap_u64_nonneg _
    have hv1 : v < 18446744073709551616 := by rw [← hv, IntKind.wrap_u64]; exact Int.emod_lt_of_pos _ (by decide)
    clear hv
    have HV : Hid (v < 18446744073709551616) := hv1
    clear hv1
    go_quiet (fail)
    go_wp2
    go_ret
    obtain ⟨zn, rfl⟩ := Int.eq_ofNat_of_zero_le hz0
    exact ⟨zn, rfl, by omega, HC.out.step (k := k + 1) (by omega) hv0 HV.out, ((((MC.Only.refl p w).drewN _).setCell 1 _).setCell 2 _).drewN _⟩
  · clear h7
    go_enter Try.func67, Try.ntmps67
    go_wp2
    go_quiet (fail)
    go_wp2
    generalize hv : IntKind.u64.wrap (IntKind.u64.wrap (IntKind.u64.wrap ((s : Int) * 6364136223846793005)) + 1442695040888963407) = v
    have hv0 : 0 ≤ v := by rw [← hv]; exact wrap_u64_nonneg _
    have hv1 : v < 18446744073709551616 := by rw [← hv, IntKind.wrap_u64]; exact Int.emod_lt_of_pos _ (by decide)
    clear hv
    obtain ⟨r, hr1, h255⟩ := MC.shr40 v hv0 hv1
    have HV : Hid (v < 18446744073709551616) := hv1
    clear hv1
    go_quiet (fail)
    go_wp2
    go_ret
    exact ⟨r, rfl, hr1, HC.out.step (k := k + 1) (by omega) hv0 HV.out, ((((MC.Only.refl p w).drewN _).setCell 1 _).setCell 2 _).drewN _⟩
end Go.Proofs.Ytdgflhgbcfehhaa
