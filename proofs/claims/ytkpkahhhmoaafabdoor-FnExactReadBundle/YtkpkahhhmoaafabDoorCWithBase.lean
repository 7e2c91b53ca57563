/- The walks of the specification's l1With and of both WithCrc. -/
import Derived.Test.YtkpkahhhmoaafabDoorCCrcBase
import Derived.Test.YtkpkahhhmoaafabDoorM2
import Derived.Lib.ConvBytes
namespace Go.Proofs.YtkpkahhhmoaafabDoor
open Go.RowKit
theorem ret_strW {a b : ByteArray} (h : a = b) : Ending.returned (.string a) = .returned (.string b) := by rw [h]
theorem ret_sbW {s t : ByteArray} {a b : Bool} (h1 : s = t) (h2 : a = b) : Ending.returned (.tuple #[.string s, .bool a]) = .returned (.tuple #[.string t, .bool b]) := by rw [h1, h2]
/-- A text with its sum behind it. -/
def withS (s : ByteArray) : ByteArray := s ++ ⟨#[UInt8.ofNat (crcT s / 256), UInt8.ofNat (crcT s % 256)]⟩
set_option maxHeartbeats 400000 in
set_option maxRecDepth 100000 in
theorem l1With_any (s : ByteArray) (w : World) (hs : s.size ≤ 1048576) :
    Calls Tryd.prog 34 #[.string s] w fun e w' => e = .returned (.string (withS s)) ∧ Below w.heap.size w w' := by
  have hF : Hid (withS s = s ++ ⟨#[UInt8.ofNat (crcT s / 256), UInt8.ofNat (crcT s % 256)]⟩) := rfl
  have hc := crcT_lt s
  have hcv := M2.conv2 (P := Tryd.prog) 65 9 5 Tryd.underlying65 Tryd.underlying5 Tryd.underlying9
  have hC : Hid (∀ w, Calls Tryd.prog 52 #[.string s] w fun e w' => e = .returned (.int .i64 ((crcT s : Nat) : Int)) ∧ w = w') := fun w => l1CrcOf_any s w (by unfold maxLen; omega)
  generalize withS s = r at *
  generalize crcT s = z at *
  go_enter Tryd.func34, Tryd.ntmps34
  go_wp2_with (go_at_call 52; refine (hC.out _).mono ?_; rintro e w' ⟨rfl, rfl⟩)
  go_ret
  exact ⟨ret_strW hF.out.symm, (Below.refl _ _).alloc (Nat.le_refl _) _⟩
/-- What WithCrc answers. -/
def wF (s : ByteArray) : ByteArray := if s.size ≤ 398 then withS s else ⟨#[]⟩
theorem wF_yes {s : ByteArray} (h : s.size ≤ 398) : withS s = wF s := by simp [wF, h]
theorem wF_no {s : ByteArray} (h : ¬ s.size ≤ 398) : ⟨#[]⟩ = wF s := by simp [wF, h]
set_option maxHeartbeats 400000 in
set_option maxRecDepth 100000 in
theorem implWith_any (s : ByteArray) (w : World) (hs0 : s.size ≤ maxLen) (ht : Tab w) :
    Calls Tryd.prog 24 #[.string s] w fun e w' => e = .returned (.tuple #[.string (wF s), .bool (decide (s.size ≤ 398))]) ∧ Below w.heap.size w w' := by
  have hs := hs0
  unfold maxLen at hs
  by_cases h : s.size ≤ 398
  · have hF : Hid (s ++ ⟨#[UInt8.ofNat (crcT s / 256), UInt8.ofNat (crcT s % 256)]⟩ = wF s) := wF_yes h
    have hc := crcT_lt s
    have hcv := M2.conv2 (P := Tryd.prog) 65 9 5 Tryd.underlying65 Tryd.underlying5 Tryd.underlying9
    have hC : Hid (∀ w, Tab w → Calls Tryd.prog 42 #[.string s] w fun e w' => e = .returned (.int .i64 ((crcT s : Nat) : Int)) ∧ w = w') := fun w ht => crcOver_any s w hs0 ht
    generalize wF s = r at *
    generalize crcT s = z at *
    go_enter Tryd.func24, Tryd.ntmps24
    go_wp2_with (go_at_call 42; refine (hC.out _ ht).mono ?_; rintro e w' ⟨rfl, rfl⟩)
    go_ret2
    exact ⟨ret_sbW hF.out (by simp [h]), (Below.refl _ _).alloc (Nat.le_refl _) _⟩
  · have hF : Hid (⟨#[]⟩ = wF s) := wF_no h
    go_enter Tryd.func24, Tryd.ntmps24
    go_wp2
    go_ret2
    exact ⟨ret_sbW hF.out (by simp; omega), Below.refl _ _⟩
end Go.Proofs.YtkpkahhhmoaafabDoor
