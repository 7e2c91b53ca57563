/- The walks of impl.CrcAdd, of the specification's CrcAdd and l1In, and of the law FnExactCrcAdd. -/
import Derived.Test.YtapojeehidhhnaqDoorCCrc
namespace Go.Proofs.YtapojeehidhhnaqDoor
open Go.RowKit
def inB (n lo hi : Int) : Bool := decide (lo ≤ n ∧ n ≤ hi)
set_option maxHeartbeats 400000 in
set_option maxRecDepth 100000 in
theorem l1In_any (n lo hi : Int) (w : World) : Calls Tryd.prog 18 #[.int .i64 n, .int .i64 lo, .int .i64 hi] w fun e w' => e = .returned (.bool (inB n lo hi)) ∧ w = w' := by
  by_cases h0 : lo ≤ n
  · by_cases h1 : n ≤ hi
    · go_enter Tryd.func18, Tryd.ntmps18
      go_wp2
      go_ret
      exact ⟨by simp [inB, h0, h1], rfl⟩
    · go_enter Tryd.func18, Tryd.ntmps18
      go_wp2
      go_ret
      exact ⟨by simp [inB]; omega, rfl⟩
  · go_enter Tryd.func18, Tryd.ntmps18
    go_wp2
    go_ret
    exact ⟨by simp [inB]; omega, rfl⟩
/-- What CrcAdd answers. -/
def addF (n : Int) (b : Nat) : Nat := if 0 ≤ n ∧ n ≤ 65535 then M6.add n.toNat b else 0
theorem ret_ib {a c : Int} {b d : Bool} (h1 : a = c) (h2 : b = d) : Ending.returned (.tuple #[.int .i64 a, .bool b]) = .returned (.tuple #[.int .i64 c, .bool d]) := by rw [h1, h2]
set_option maxHeartbeats 400000 in
set_option maxRecDepth 100000 in
theorem specCrcAdd_any (n : Int) (b : Nat) (w : World) (hb : b < 256) :
    Calls Tryd.prog 13 #[.int .i64 n, .int .u8 (b : Int)] w fun e w' => e = .returned (.tuple #[.int .i64 ((addF n b : Nat) : Int), .bool (inB n 0 65535)]) ∧ w = w' := by
  by_cases h : 0 ≤ n ∧ n ≤ 65535
  · have hF : Hid (addF n b = M6.add n.toNat b) := by show _ = _; rw [addF, if_pos h]
    have hi : inB n 0 65535 = true := by simp [inB, h]
    obtain ⟨x, rfl⟩ := Int.eq_ofNat_of_zero_le h.1
    rw [Int.toNat_natCast] at hF
    have hx : x < 65536 := by omega
    clear h
    generalize addF (x : Int) b = r at *
    go_enter Tryd.func13, Tryd.ntmps13
    go_wp2_with (first
      | (go_at_call 18; refine (l1In_any _ _ _ _).mono ?_; rintro e w' ⟨rfl, rfl⟩)
      | (go_at_call 19; refine (l1Crc_any x b _ hx hb).mono ?_; rintro e w' ⟨rfl, rfl⟩))
    go_ret2
    exact ⟨ret_ib (by rw [hF.out]) hi.symm, rfl⟩
  · have hF : Hid (addF n b = 0) := by show _ = _; rw [addF, if_neg h]
    have hi : inB n 0 65535 = false := by simp [inB]; omega
    clear h
    generalize addF n b = r at *
    go_enter Tryd.func13, Tryd.ntmps13
    go_wp2_with (first
      | (go_at_call 18; refine (l1In_any _ _ _ _).mono ?_; rintro e w' ⟨rfl, rfl⟩))
    go_ret2
    exact ⟨ret_ib (by rw [hF.out]; rfl) hi.symm, rfl⟩
set_option maxHeartbeats 400000 in
set_option maxRecDepth 100000 in
theorem implCrcAdd_any (n : Int) (b : Nat) (w : World) (hb : b < 256) (ht : Tab w) :
    Calls Tryd.prog 14 #[.int .i64 n, .int .u8 (b : Int)] w fun e w' => e = .returned (.tuple #[.int .i64 ((addF n b : Nat) : Int), .bool (inB n 0 65535)]) ∧ w = w' := by
  by_cases h : 0 ≤ n ∧ n ≤ 65535
  · have hF : Hid (addF n b = M6.add n.toNat b) := by show _ = _; rw [addF, if_pos h]
    have hi : inB n 0 65535 = true := by simp [inB, h]
    rw [hi]
    clear hi
    obtain ⟨x, rfl⟩ := Int.eq_ofNat_of_zero_le h.1
    rw [Int.toNat_natCast] at hF
    have hx : x < 65536 := by omega
    clear h
    generalize addF (x : Int) b = r at *
    go_enter Tryd.func14, Tryd.ntmps14
    go_wp2_with (first
      | (go_at_call 20; refine (crcByte_any x b _ hx hb ht).mono ?_; rintro e w' ⟨rfl, rfl⟩))
    go_ret2
    exact ⟨ret_ib (by rw [hF.out]) rfl, rfl⟩
  · have hF : Hid (addF n b = 0) := by show _ = _; rw [addF, if_neg h]
    have hi : inB n 0 65535 = false := by simp [inB]; omega
    rw [hi]
    clear hi
    generalize addF n b = r at *
    by_cases h0 : 0 ≤ n
    · have h1 : 65535 < n := by omega
      clear h
      go_enter Tryd.func14, Tryd.ntmps14
      go_wp2
      go_ret2
      exact ⟨ret_ib (by rw [hF.out]; rfl) rfl, rfl⟩
    · clear h
      go_enter Tryd.func14, Tryd.ntmps14
      go_wp2
      go_ret2
      exact ⟨ret_ib (by rw [hF.out]; rfl) rfl, rfl⟩
set_option maxHeartbeats 400000 in
set_option maxRecDepth 100000 in
theorem lawCrcAdd_any (n b : Int) (w : World) (hb : (Lit.int .u8 b).wf = true) (ht : Tab w) :
    Calls Tryd.prog 6 #[.int .i64 n, .int .u8 b] w fun e w' => e = .returned (.bool true) ∧ Below w.heap.size w w' := by
  have hbb : 0 ≤ b ∧ b ≤ 255 := bounds_u8 hb
  obtain ⟨c, rfl⟩ := Int.eq_ofNat_of_zero_le hbb.1
  have hc : c < 256 := by omega
  clear hb hbb
  go_enter Tryd.func6, Tryd.ntmps6
  go_wp2_with (first
    | (go_at_call 13; refine (specCrcAdd_any n c _ hc).mono ?_; rintro e w' ⟨rfl, rfl⟩)
    | (go_at_call 14; refine (implCrcAdd_any n c _ hc ht).mono ?_; rintro e w' ⟨rfl, rfl⟩))
  go_ret
  exact ⟨rfl, Below.refl _ _⟩
end Go.Proofs.YtapojeehidhhnaqDoor
