/- HeadOf, the program's and the specification's. -/
import Derived.Test.YtdkhjnpdphnigaaRows
import Derived.Test.YtdkhjnpdphnigaaCHeadNil
import Derived.Test.YtdkhjnpdphnigaaCL2Head
import Derived.Test.YtdkhjnpdphnigaaCIsNumber
import Derived.Test.YtdkhjnpdphnigaaCL1Value
import Derived.Test.YtdkhjnpdphnigaaCL1In
import Derived.Test.YtdkhjnpdphnigaaSlF
import Derived.WalkKit
import Derived.WalkSpells
import Derived.WalkLawsBesides
import Derived.Outline
namespace Go.Proofs.Ytdkhjnpdphnigaa
open Go.RowKit
/-- Which heads there are, and the text of one. -/
def okH (m n : Int) : Bool := decide (0 ≤ m ∧ m ≤ 7) && okN n
def headStr (m n : Int) : ByteArray := if okH m n = true then hs m.toNat n.toNat else ⟨#[]⟩
theorem okH_no {m n : Int} (h : okH m n = false) : headStr m n = ⟨#[]⟩ := if_neg (by simp [h])
theorem okH_yes {m n : Int} (h : okH m n = true) : headStr m n = hs m.toNat n.toNat := if_pos h
theorem okN_nat {n : Int} (h : okN n = true) : 0 ≤ n ∧ n ≤ 1000000000 := by simpa [okN] using h
set_option maxHeartbeats 800000 in
set_option maxRecDepth 100000 in
theorem implHeadOf_any (m n : Int) (w : World) : Calls Try.prog 16 #[.int .i64 m, .int .i64 n] w fun e w' => e = .returned (.tuple #[.string (headStr m n), .bool (okH m n)]) ∧ Below w.heap.size w w' := by
  by_cases h0 : 0 ≤ m
  · by_cases h7 : m ≤ 7
    · cases hb : okN n
      · have hk : okH m n = false := by simp [okH, hb]
        have HK : Hid (okH m n = false) := hk
        have IN : Hid (∀ W : World, Calls Try.prog 38 #[.int .i64 n] W fun e w' => e = .returned (.bool false) ∧ W = w') := fun W => by have := isNumber_any n W; rwa [hb] at this
        clear hb hk
        go_enter Try.func16, Try.ntmps16
        go_wp2_with fail
        refine (IN.out _).mono ?_
        rintro e w1 ⟨rfl, rfl⟩
        go_wp2
        go_ret2
        exact ⟨ret_sb (okH_no HK.out).symm HK.out.symm, Below.refl _ _⟩
      · have hn := okN_nat hb
        have hk : okH m n = true := by simp [okH, hb, h0, h7]
        have HK : Hid (okH m n = true) := hk
        have IN : Hid (∀ W : World, Calls Try.prog 38 #[.int .i64 n] W fun e w' => e = .returned (.bool true) ∧ W = w') := fun W => by have := isNumber_any n W; rwa [hb] at this
        clear hb hk
        obtain ⟨m, rfl⟩ := Int.eq_ofNat_of_zero_le h0
        obtain ⟨n, rfl⟩ := Int.eq_ofNat_of_zero_le hn.1
        go_enter Try.func16, Try.ntmps16
        go_wp2_with fail
        refine (IN.out _).mono ?_
        rintro e w1 ⟨rfl, rfl⟩
        go_wp2_with fail
        refine (headNil_any m n _ (by omega) (by omega)).mono ?_
        rintro e w1 ⟨v', rfl, hc1, hb1⟩
        clear IN
        go_wp2
        go_ret2
        exact ⟨ret_sb (okH_yes HK.out).symm HK.out.symm, hb1⟩
    · have HK : Hid (okH m n = false) := by show _ = _; simp [okH, h7]
      go_enter Try.func16, Try.ntmps16
      go_wp2
      go_ret2
      exact ⟨ret_sb (okH_no HK.out).symm HK.out.symm, Below.refl _ _⟩
  · have HK : Hid (okH m n = false) := by show _ = _; simp [okH, h0]
    go_enter Try.func16, Try.ntmps16
    go_wp2
    go_ret2
    exact ⟨ret_sb (okH_no HK.out).symm HK.out.symm, Below.refl _ _⟩
set_option maxHeartbeats 800000 in
set_option maxRecDepth 100000 in
theorem specHeadOf_any (m n : Int) (w : World) : Calls Try.prog 17 #[.int .i64 m, .int .i64 n] w fun e w' => e = .returned (.tuple #[.string (headStr m n), .bool (okH m n)]) ∧ Below w.heap.size w w' := by
  by_cases h07 : 0 ≤ m ∧ m ≤ 7
  · have hi : inB m 0 7 = true := by simp [inB]; omega
    have LI : Hid (∀ W : World, Calls Try.prog 40 #[.int .i64 m, .int .i64 0, .int .i64 7] W fun e w' => e = .returned (.bool true) ∧ W = w') := fun W => by have := l1In_any m 0 7 W; rwa [hi] at this
    clear hi
    cases hb : okN n
    · have hk : okH m n = false := by simp [okH, hb]
      have HK : Hid (okH m n = false) := hk
      have IN : Hid (∀ W : World, Calls Try.prog 41 #[.int .i64 n] W fun e w' => e = .returned (.bool false) ∧ W = w') := fun W => by have := l1Value_any n W; rwa [hb] at this
      clear hb hk
      go_enter Try.func17, Try.ntmps17
      go_wp2_with fail
      refine (LI.out _).mono ?_
      rintro e w1 ⟨rfl, rfl⟩
      go_wp2_with fail
      refine (IN.out _).mono ?_
      rintro e w1 ⟨rfl, rfl⟩
      go_wp2
      go_ret2
      exact ⟨ret_sb (okH_no HK.out).symm HK.out.symm, Below.refl _ _⟩
    · have hn := okN_nat hb
      have hk : okH m n = true := by simp [okH, hb, h07]
      have HK : Hid (okH m n = true) := hk
      have IN : Hid (∀ W : World, Calls Try.prog 41 #[.int .i64 n] W fun e w' => e = .returned (.bool true) ∧ W = w') := fun W => by have := l1Value_any n W; rwa [hb] at this
      clear hb hk
      obtain ⟨m, rfl⟩ := Int.eq_ofNat_of_zero_le h07.1
      obtain ⟨n, rfl⟩ := Int.eq_ofNat_of_zero_le hn.1
      go_enter Try.func17, Try.ntmps17
      go_wp2_with fail
      refine (LI.out _).mono ?_
      rintro e w1 ⟨rfl, rfl⟩
      go_wp2_with fail
      refine (IN.out _).mono ?_
      rintro e w1 ⟨rfl, rfl⟩
      go_wp2_with fail
      refine (l2Head_any m n _ (by omega) (by omega)).mono ?_
      rintro e w1 ⟨rfl, hb1⟩
      clear IN LI
      generalize hX : hs m n = X at *
      have HX : Hid (hs m n = X) := hX
      clear hX
      go_wp2
      go_ret2
      exact ⟨ret_sb ((HX.out.symm).trans (okH_yes HK.out).symm) HK.out.symm, hb1⟩
  · have HK : Hid (okH m n = false) := by show _ = _; simp [okH]; omega
    have hi : inB m 0 7 = false := by simp [inB]; omega
    have LI : Hid (∀ W : World, Calls Try.prog 40 #[.int .i64 m, .int .i64 0, .int .i64 7] W fun e w' => e = .returned (.bool false) ∧ W = w') := fun W => by have := l1In_any m 0 7 W; rwa [hi] at this
    clear hi
    go_enter Try.func17, Try.ntmps17
    go_wp2_with fail
    refine (LI.out _).mono ?_
    rintro e w1 ⟨rfl, rfl⟩
    go_wp2
    go_ret2
    exact ⟨ret_sb (okH_no HK.out).symm HK.out.symm, Below.refl _ _⟩
end Go.Proofs.Ytdkhjnpdphnigaa
