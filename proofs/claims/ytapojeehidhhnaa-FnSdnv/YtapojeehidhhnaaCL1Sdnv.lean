/- The specification's l1Sdnv answers the bytes of a number in sevens. -/
import Derived.Test.YtapojeehidhhnaaRows
import Derived.Test.YtapojeehidhhnaaM2
import Derived.WalkKit
import Derived.WalkSpells
import Derived.WalkLawsBesides
import Derived.Outline
namespace Go.Proofs.Ytapojeehidhhnaa
open Go.RowKit
set_option maxHeartbeats 400000 in
set_option maxRecDepth 100000 in
theorem l1Sdnv_any (n : Nat) (w : World) (hn : n ≤ 1000000000) :
    Calls Try.prog 17 #[.int .i64 n] w fun e w' => e = .returned (.string ⟨(M1.sdnv n).toArray⟩) ∧ Below w.heap.size w w' := by
  have hc := M2.conv1 (P := Try.prog) 22 9 5 Try.underlying22 Try.underlying5 Try.underlying9
  have h127 := M1.and127 n (by omega)
  go_enter Try.func17, Try.ntmps17
  go_wp2
  go_loopw [0, 3] (fun nv sv wr => ∃ m l, nv = .int .i64 (m : Nat) ∧ sv = .string ⟨List.toArray l⟩ ∧ m ≤ n ∧ Hid (M1.hi7 m ++ l = M1.sdnv n) ∧ Below w.heap.size w wr) (fun nv _ _ => (intOf nv).toNat)
  case atStart => exact ⟨n / 128, [UInt8.ofNat (n % 128)], by go_num, rfl, by omega, show Hid _ from rfl, (Below.refl _ _).alloc (Nat.le_refl _) _⟩
  case round =>
    obtain ⟨m, l, rfl, rfl, hm, hl, hb⟩ := hrel
    have hlen : l.length ≤ 5 := Nat.le_trans (M1.app_len hl.out) (M1.sdnv_len n hn)
    clear h127
    by_cases hm0 : 0 < m
    · have h127 := M1.and127 m (by omega)
      have h128 : bits .or .u8 ((m : Int) % 128) 128 = ((m % 128 + 128 : Nat) : Int) := M1.or128 (m % 128) (by omega)
      have hs := hb.size
      go_wp2
      go_roundw
      case rel => exact ⟨m / 128, UInt8.ofNat (m % 128 + 128) :: l, by go_num, congrArg Value.string (by rw [M1.byte_add]; exact M1.bs_app [_] l), by omega, show Hid _ from ((M1.hi7_step m l hm0).trans hl.out), hb.alloc (by omega) _⟩
      case measure => simp [intOf]; omega
    · obtain rfl : m = 0 := by omega
      go_wp2
      go_ret
      have := hl.out
      rw [M1.hi7_zero] at this
      exact ⟨by rw [← this]; rfl, hb⟩
end Go.Proofs.Ytapojeehidhhnaa
