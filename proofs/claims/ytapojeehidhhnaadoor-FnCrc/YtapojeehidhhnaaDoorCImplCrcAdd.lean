/- impl.CrcAdd at every sum and byte. -/
import Derived.Test.YtapojeehidhhnaaDoorCCrc
namespace Go.Proofs.YtapojeehidhhnaaDoor
open Go.RowKit
set_option maxHeartbeats 400000 in
set_option maxRecDepth 100000 in
theorem implCrcAdd_any (n : Int) (b : Nat) (w : World) (hb : b < 256) (ht : Tab w) :
    Calls Tryd.prog 11 #[.int .i64 n, .int .u8 (b : Int)] w fun e w' => e = .returned (.tuple #[.int .i64 ((addF n b : Nat) : Int), .bool (inB n 0 65535)]) ∧ w = w' := by
  by_cases h : 0 ≤ n ∧ n ≤ 65535
  · have hF : Hid (addF n b = M6.add n.toNat b) := by show _ = _; rw [addF, if_pos h]
    have hi : inB n 0 65535 = true := by simp [inB, h]
    rw [hi]
    clear hi
    obtain ⟨x, rfl⟩ := Int.eq_ofNat_of_zero_le h.1
    rw [Int.toNat_natCast] at hF
    have hx : x < 65536 := by omega
    clear h
    generalize addF (x : Int) b = r at *
    go_enter Tryd.func11, Tryd.ntmps11
    go_wp2_with (first
      | (go_at_call 18; refine (crcByte_any x b _ hx hb ht).mono ?_; rintro e w' ⟨rfl, rfl⟩))
    go_ret2
    exact ⟨ret_ib (by rw [hF.out]) rfl, rfl⟩
  · have hF : Hid (addF n b = 0) := by show _ = _; rw [addF, if_neg h]
    have hi : inB n 0 65535 = false := by simp [inB]; omega
    rw [hi]
    clear hi
    generalize addF n b = r at *
    by_cases h0 : 0 ≤ n
    · have h1 : 65535 < n := by omega
      clear h
      go_enter Tryd.func11, Tryd.ntmps11
      go_wp2
      go_ret2
      exact ⟨ret_ib (by rw [hF.out]; rfl) rfl, rfl⟩
    · clear h
      go_enter Tryd.func11, Tryd.ntmps11
      go_wp2
      go_ret2
      exact ⟨ret_ib (by rw [hF.out]; rfl) rfl, rfl⟩
end Go.Proofs.YtapojeehidhhnaaDoor
