/- The laws' markText: the letter m and a number's digits. -/
import Derived.Test.YtjekofjhplhemaaRows
import Derived.Test.YtjekofjhplhemaaM2
import Derived.Test.YtjekofjhplhemaaM18
import Derived.WalkKit
import Derived.WalkSpells
import Derived.WalkLawsBesides
import Derived.Outline
namespace Go.Proofs.Ytjekofjhplhemaa
open Go.RowKit
set_option maxHeartbeats 400000 in
set_option maxRecDepth 100000 in
theorem markText_any (k : Nat) (w : World) (hk : k ≤ 1000000000) :
    Calls Try.prog 94 #[.int .i64 k] w fun e w' => e = .returned (.string (M18.mt k)) ∧ Below w.heap.size w w' := by
  by_cases h0 : k = 0
  · subst h0
    go_enter Try.func94, Try.ntmps94
    go_wp2
    go_ret
    exact ⟨rfl, Below.refl _ _⟩
  · have hc := M2.conv1 (P := Try.prog) 142 9 5 Try.underlying142 Try.underlying5 Try.underlying9
    have HM : Hid (⟨(109 :: M18.dg k).toArray⟩ = M18.mt k) := by show _ = _; unfold M18.mt; rw [if_neg h0]
    generalize M18.mt k = X at *
    go_enter Try.func94, Try.ntmps94
    go_wp2
    go_loopw [0, 3] (fun nv sv wr => ∃ (m : Nat) (l : List UInt8), nv = .int .i64 (m : Nat) ∧ sv = .string ⟨List.toArray l⟩ ∧ m ≤ k ∧ m + l.length ≤ k ∧ Hid (M18.dg m ++ l = M18.dg k) ∧ Below w.heap.size w wr) (fun nv _ _ => (intOf nv).toNat)
    case atStart => exact ⟨k, [], by go_num, rfl, by omega, by simp, show Hid _ from by simp [Hid], Below.refl _ _⟩
    case round =>
      obtain ⟨m, l, rfl, rfl, hm, hlen, hl, hb⟩ := hrel
      by_cases hm0 : 0 < m
      · have hs := hb.size
        have hl2 : Hid (M18.dg (m / 10) ++ (UInt8.ofNat (48 + m % 10) :: l) = M18.dg k) := by show _ = _; rw [← hl.out, M18.dg_step m hm0, List.append_assoc]; rfl
        clear hl
        go_wp2
        go_roundw
        case rel => exact ⟨m / 10, UInt8.ofNat (48 + m % 10) :: l, by go_num, congrArg Value.string (by rw [show (48 : UInt8) + UInt8.ofNat (m % 10) = UInt8.ofNat (48 + m % 10) from by rw [UInt8.ofNat_add]; rfl]; exact M18.bs_cons _ _), by omega, by rw [List.length_cons]; omega, hl2, hb.alloc (by omega) _⟩
        case measure => simp [intOf]; omega
      · obtain rfl : m = 0 := by omega
        have hl2 := hl.out
        rw [M18.dg_zero, List.nil_append] at hl2
        subst hl2
        clear hl
        go_wp2
        go_ret
        exact ⟨by rw [← HM.out]; exact congrArg (fun x => Ending.returned (.string x)) (M18.bs_cons 109 _), hb⟩
theorem markText_int (x : Int) (k : Nat) (w : World) (hx : x = (k : Int)) (hk : k ≤ 1000000000) :
    Calls Try.prog 94 #[.int .i64 x] w fun e w' => e = .returned (.string (M18.mt k)) ∧ Below w.heap.size w w' := by
  subst hx; exact markText_any k w hk
end Go.Proofs.Ytjekofjhplhemaa
