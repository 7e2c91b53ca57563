/- The walks of impl.crcOver, the specification's l1CrcOf, both CrcOf: the sum over a text. -/
import Derived.Test.YtkpkahhhmoaafabDoorCCrc
import Derived.Test.YtkpkahhhmoaafabDoorM3
namespace Go.Proofs.YtkpkahhhmoaafabDoor
open Go.RowKit
/-- The sum over the first k bytes. -/
def cs (s : ByteArray) : Nat → Nat
  | 0 => 65535
  | k + 1 => M6.add (cs s k) (M3.gb s k)
theorem cs_lt (s : ByteArray) (k : Nat) : cs s k < 65536 := by
  induction k with
  | zero => simp [cs]
  | succ k ih => exact M6.add_lt _ _ ih (M3.gb_lt s k)
/-- The sum over a text. -/
def crcT (s : ByteArray) : Nat := cs s s.size
theorem crcT_lt (s : ByteArray) : crcT s < 65536 := cs_lt s _
set_option maxHeartbeats 800000 in
set_option maxRecDepth 100000 in
theorem crcOver_any (s : ByteArray) (w : World) (hs : s.size ≤ maxLen) (ht : Tab w) :
    Calls Tryd.prog 42 #[.string s] w fun e w' => e = .returned (.int .i64 ((crcT s : Nat) : Int)) ∧ w = w' := by
  unfold maxLen at hs
  have hF : Hid (cs s s.size = crcT s) := rfl
  generalize crcT s = r at *
  go_enter Tryd.func42, Tryd.ntmps42
  go_wp2
  go_loop [3, 4] (fun cv kv => ∃ k z : Nat, kv = .int .i64 k ∧ k ≤ s.size ∧ cv = .int .i64 (z : Int) ∧ z < 65536 ∧ Hid (cs s k = z)) (fun _ kv => (s.size - intOf kv).toNat)
  case atStart => exact ⟨0, 65535, rfl, by omega, rfl, by omega, rfl⟩
  case round =>
    obtain ⟨k, z, rfl, hk, rfl, hz, HZ⟩ := hrel
    by_cases hl : k < s.size
    · have hg := M3.gb_eq s k hl
      have hlt := M3.gb_lt s k
      have hS : Hid (cs s (k + 1) = M6.add z (M3.gb s k)) := by show _ = _; rw [cs, HZ.out]
      generalize M3.gb s k = c at *
      have hz' := M6.add_lt z c hz hlt
      clear HZ hF
      go_wp2_with (go_at_call 57; refine (crcByte_any z c _ hz hlt ht).mono ?_; rintro e w' ⟨rfl, rfl⟩)
      go_round
      case rel => exact ⟨k + 1, M6.add z c, by go_num, by omega, rfl, hz', hS⟩
      case measure => simp [intOf]; omega
    · obtain rfl : k = s.size := by omega
      have hR : Hid (z = r) := by show _ = _; rw [← HZ.out, hF.out]
      clear HZ hF
      go_wp2
      go_ret
      exact ⟨ret_int (by rw [hR.out]), rfl⟩
set_option maxHeartbeats 800000 in
set_option maxRecDepth 100000 in
theorem l1CrcOf_any (s : ByteArray) (w : World) (hs : s.size ≤ maxLen) :
    Calls Tryd.prog 52 #[.string s] w fun e w' => e = .returned (.int .i64 ((crcT s : Nat) : Int)) ∧ w = w' := by
  unfold maxLen at hs
  have hF : Hid (cs s s.size = crcT s) := rfl
  generalize crcT s = r at *
  go_enter Tryd.func52, Tryd.ntmps52
  go_wp2
  go_loop [3, 4] (fun cv kv => ∃ k z : Nat, kv = .int .i64 k ∧ k ≤ s.size ∧ cv = .int .i64 (z : Int) ∧ z < 65536 ∧ Hid (cs s k = z)) (fun _ kv => (s.size - intOf kv).toNat)
  case atStart => exact ⟨0, 65535, rfl, by omega, rfl, by omega, rfl⟩
  case round =>
    obtain ⟨k, z, rfl, hk, rfl, hz, HZ⟩ := hrel
    by_cases hl : k < s.size
    · have hg := M3.gb_eq s k hl
      have hlt := M3.gb_lt s k
      have hS : Hid (cs s (k + 1) = M6.add z (M3.gb s k)) := by show _ = _; rw [cs, HZ.out]
      generalize M3.gb s k = c at *
      have hz' := M6.add_lt z c hz hlt
      clear HZ hF
      go_wp2_with (go_at_call 64; refine (l1Crc_any z c _ hz hlt).mono ?_; rintro e w' ⟨rfl, rfl⟩)
      go_round
      case rel => exact ⟨k + 1, M6.add z c, by go_num, by omega, rfl, hz', hS⟩
      case measure => simp [intOf]; omega
    · obtain rfl : k = s.size := by omega
      have hR : Hid (z = r) := by show _ = _; rw [← HZ.out, hF.out]
      clear HZ hF
      go_wp2
      go_ret
      exact ⟨ret_int (by rw [hR.out]), rfl⟩
/-- What CrcOf answers. -/
def crcF (s : ByteArray) : Nat := if s.size ≤ 400 then crcT s else 0
theorem crcF_yes {s : ByteArray} (h : s.size ≤ 400) : crcT s = crcF s := by simp [crcF, h]
theorem crcF_no {s : ByteArray} (h : ¬ s.size ≤ 400) : 0 = crcF s := by simp [crcF, h]
end Go.Proofs.YtkpkahhhmoaafabDoor
