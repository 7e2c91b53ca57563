/- The walks of the specification's l1With and of both WithCrc. -/
import Derived.Test.YtapojeehidhhnaaDoorCCrcOver
import Derived.Test.YtapojeehidhhnaaDoorM2
import Derived.Lib.ConvBytes
namespace Go.Proofs.YtapojeehidhhnaaDoor
open Go.RowKit
theorem ret_str {a b : ByteArray} (h : a = b) : Ending.returned (.string a) = .returned (.string b) := by rw [h]
theorem ret_sb {s t : ByteArray} {a b : Bool} (h1 : s = t) (h2 : a = b) : Ending.returned (.tuple #[.string s, .bool a]) = .returned (.tuple #[.string t, .bool b]) := by rw [h1, h2]
/-- A text with its sum behind it. -/
def withS (s : ByteArray) : ByteArray := s ++ ⟨#[UInt8.ofNat (crcT s / 256), UInt8.ofNat (crcT s % 256)]⟩
set_option maxHeartbeats 400000 in
set_option maxRecDepth 100000 in
theorem l1With_any (s : ByteArray) (w : World) (hs : s.size ≤ 1048576) :
    Calls Tryd.prog 16 #[.string s] w fun e w' => e = .returned (.string (withS s)) ∧ Below w.heap.size w w' := by
  have hF : Hid (withS s = s ++ ⟨#[UInt8.ofNat (crcT s / 256), UInt8.ofNat (crcT s % 256)]⟩) := rfl
  have hc := crcT_lt s
  have hcv := M2.conv2 (P := Tryd.prog) 22 9 5 Tryd.underlying22 Tryd.underlying5 Tryd.underlying9
  have hC : Hid (∀ w, Calls Tryd.prog 17 #[.string s] w fun e w' => e = .returned (.int .i64 ((crcT s : Nat) : Int)) ∧ w = w') := fun w => l1CrcOf_any s w (by unfold maxLen; omega)
  generalize withS s = r at *
  generalize crcT s = z at *
  go_enter Tryd.func16, Tryd.ntmps16
  go_wp2_with (go_at_call 17; refine (hC.out _).mono ?_; rintro e w' ⟨rfl, rfl⟩)
  go_ret
  exact ⟨ret_str hF.out.symm, (Below.refl _ _).alloc (Nat.le_refl _) _⟩
/-- What WithCrc answers. -/
def wF (s : ByteArray) : ByteArray := if s.size ≤ 398 then withS s else ⟨#[]⟩
theorem wF_yes {s : ByteArray} (h : s.size ≤ 398) : withS s = wF s := by simp [wF, h]
theorem wF_no {s : ByteArray} (h : ¬ s.size ≤ 398) : ⟨#[]⟩ = wF s := by simp [wF, h]
set_option maxHeartbeats 400000 in
set_option maxRecDepth 100000 in
theorem specWith_any (s : ByteArray) (w : World) (hs0 : s.size ≤ maxLen) :
    Calls Tryd.prog 6 #[.string s] w fun e w' => e = .returned (.tuple #[.string (wF s), .bool (decide (s.size ≤ 398))]) ∧ Below w.heap.size w w' := by
  have hs := hs0
  unfold maxLen at hs
  by_cases h : s.size ≤ 398
  · have hF : Hid (withS s = wF s) := wF_yes h
    go_enter Tryd.func6, Tryd.ntmps6
    go_wp2_with (go_at_call 16; refine (l1With_any s _ (by omega)).mono ?_; rintro e w' ⟨rfl, hb⟩)
    go_ret2
    exact ⟨ret_sb hF.out (by simp [h]), hb⟩
  · have hF : Hid (⟨#[]⟩ = wF s) := wF_no h
    go_enter Tryd.func6, Tryd.ntmps6
    go_wp2
    go_ret2
    exact ⟨ret_sb hF.out (by simp; omega), Below.refl _ _⟩
set_option maxHeartbeats 400000 in
set_option maxRecDepth 100000 in
theorem implWith_any (s : ByteArray) (w : World) (hs0 : s.size ≤ maxLen) (ht : Tab w) :
    Calls Tryd.prog 5 #[.string s] w fun e w' => e = .returned (.tuple #[.string (wF s), .bool (decide (s.size ≤ 398))]) ∧ Below w.heap.size w w' := by
  have hs := hs0
  unfold maxLen at hs
  by_cases h : s.size ≤ 398
  · have hF : Hid (s ++ ⟨#[UInt8.ofNat (crcT s / 256), UInt8.ofNat (crcT s % 256)]⟩ = wF s) := wF_yes h
    have hc := crcT_lt s
    have hcv := M2.conv2 (P := Tryd.prog) 22 9 5 Tryd.underlying22 Tryd.underlying5 Tryd.underlying9
    have hC : Hid (∀ w, Tab w → Calls Tryd.prog 15 #[.string s] w fun e w' => e = .returned (.int .i64 ((crcT s : Nat) : Int)) ∧ w = w') := fun w ht => crcOver_any s w hs0 ht
    generalize wF s = r at *
    generalize crcT s = z at *
    go_enter Tryd.func5, Tryd.ntmps5
    go_wp2_with (go_at_call 15; refine (hC.out _ ht).mono ?_; rintro e w' ⟨rfl, rfl⟩)
    go_ret2
    exact ⟨ret_sb hF.out (by simp [h]), (Below.refl _ _).alloc (Nat.le_refl _) _⟩
  · have hF : Hid (⟨#[]⟩ = wF s) := wF_no h
    go_enter Tryd.func5, Tryd.ntmps5
    go_wp2
    go_ret2
    exact ⟨ret_sb hF.out (by simp; omega), Below.refl _ _⟩
end Go.Proofs.YtapojeehidhhnaaDoor
