/- The laws' numberOf. -/
import Derived.Test.YtclhfhjkcocdcaaRows
import Derived.Test.YtclhfhjkcocdcaaMCur
import Derived.WalkKit
import Derived.WalkSpells
import Derived.WalkLawsBesides
import Derived.Outline
namespace Go.Proofs.Ytclhfhjkcocdcaa
open Go.RowKit
set_option maxHeartbeats 800000 in
set_option maxRecDepth 100000 in
theorem numberOf_any (a : Option Addr) (zs : List Int) (cap p : Nat) (w : World) (hz : zs.length ≤ 140737488355328) (hb : MC.BytesAt w p a zs) :
    Calls Try.prog 22 #[.slice a zs.length cap] w fun e w' => ∃ n : Nat, e = .returned (.int .i64 (n : Int)) ∧ n < 1000003 ∧ w = w' := by
  go_enter Try.func22, Try.ntmps22
  go_wp2
  go_loop [3, 5, 8] (fun nv _ iv => ∃ n k : Nat, nv = .int .i64 n ∧ iv = .int .i64 k ∧ n < 1000003 ∧ k ≤ zs.length) (fun _ _ iv => (zs.length - intOf iv).toNat)
  case atStart => exact ⟨0, 0, rfl, rfl, by omega, by omega⟩
  case round =>
    obtain ⟨n, k, rfl, rfl, hn, hk⟩ := hrel
    by_cases hl : k < zs.length
    · obtain ⟨b, off, z, rfl, hbp, hc, h0, h1⟩ := hb.at hl
      clear hb
      obtain ⟨m, rfl⟩ := Int.eq_ofNat_of_zero_le h0
      go_wp2
      go_round
      case rel => exact ⟨(31 * n + m) % 1000003, k + 1, by go_num, by go_num, by omega, by omega⟩
      case measure => simp [intOf]; omega
    · go_wp2
      go_ret
      exact ⟨n, rfl, hn, rfl⟩
end Go.Proofs.Ytclhfhjkcocdcaa
