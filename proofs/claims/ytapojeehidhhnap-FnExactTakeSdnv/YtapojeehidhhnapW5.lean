/- The walks of impl.TakeSdnv and the specification's TakeSdnv at every argument, and of the law FnExactTakeSdnv. -/
import Derived.Test.YtapojeehidhhnapW4
namespace Go.Proofs.Ytapojeehidhhnap
open Go.RowKit
theorem takeF_no {s : ByteArray} {x : Int} (h : ¬ (s.size ≤ 400 ∧ 0 ≤ x ∧ x < s.size)) : M3.takeF s x = M3.no := by unfold M3.takeF; rw [if_neg h]
theorem takeF_yes {s : ByteArray} {a : Nat} (h1 : s.size ≤ 400) (h2 : a < s.size) : M3.takeF s (a : Int) = M3.tkS (M3.gb s) s.size a a 0 := by
  unfold M3.takeF; rw [if_pos ⟨h1, by omega, by omega⟩]; rfl
theorem takeF_impl {s : ByteArray} {a : Nat} (h1 : s.size ≤ 400) (h2 : a < s.size) (h3 : M3.gb s a ≠ 128) : M3.tkI (M3.gb s) s.size a 0 = M3.takeF s (a : Int) := by
  rw [takeF_yes h1 h2, ← M3.tk_all (M3.gb s) s.size a h2 (M3.gb_lt s a), if_neg h3]
theorem takeF_128 {s : ByteArray} {a : Nat} (h1 : s.size ≤ 400) (h2 : a < s.size) (h3 : M3.gb s a = 128) : M3.no = M3.takeF s (a : Int) := by
  rw [takeF_yes h1 h2, ← M3.tk_all (M3.gb s) s.size a h2 (M3.gb_lt s a), if_pos h3]
abbrev tk3 (T : M3.R) : Value := .tuple #[.int .i64 (T.1 : Int), .int .i64 (T.2.1 : Int), .bool T.2.2]
set_option maxHeartbeats 800000 in
set_option maxRecDepth 100000 in
theorem implTake_any (s : ByteArray) (x : Int) (w : World) (hs : s.size ≤ maxLen) :
    Calls Try.prog 12 #[.string s, .int .i64 x] w fun e w' => e = .returned (tk3 (M3.takeF s x)) ∧ w = w' := by
  unfold maxLen at hs
  by_cases h1 : s.size ≤ 400
  · by_cases h2 : 0 ≤ x
    · by_cases h3 : x < s.size
      · obtain ⟨a, rfl⟩ := Int.eq_ofNat_of_zero_le h2
        have ha : a < s.size := by omega
        by_cases h4 : M3.gb s a = 128
        · have HR : Hid (M3.no = M3.takeF s (a : Int)) := takeF_128 h1 ha h4
          have hg := M3.gb_eq s a ha
          rw [h4] at hg
          clear h4
          go_enter Try.func12, Try.ntmps12
          go_wp2
          go_ret3
          exact ⟨ret3 HR.out, rfl⟩
        · exact implTake_in s a w h1 ha _ (takeF_impl h1 ha h4) h4
      · rw [takeF_no (by omega)]
        go_enter Try.func12, Try.ntmps12
        go_wp2
        go_ret3
        exact ⟨rfl, rfl⟩
    · rw [takeF_no (by omega)]
      go_enter Try.func12, Try.ntmps12
      go_wp2
      go_ret3
      exact ⟨rfl, rfl⟩
  · rw [takeF_no (by omega)]
    go_enter Try.func12, Try.ntmps12
    go_wp2
    go_ret3
    exact ⟨rfl, rfl⟩
set_option maxHeartbeats 800000 in
set_option maxRecDepth 100000 in
theorem specTake_any (s : ByteArray) (x : Int) (w : World) (hs : s.size ≤ maxLen) :
    Calls Try.prog 11 #[.string s, .int .i64 x] w fun e w' => e = .returned (tk3 (M3.takeF s x)) ∧ w = w' := by
  unfold maxLen at hs
  by_cases h1 : s.size ≤ 400
  · by_cases h2 : 0 ≤ x
    · by_cases h3 : x < s.size
      · obtain ⟨a, rfl⟩ := Int.eq_ofNat_of_zero_le h2
        have ha : a < s.size := by omega
        have HR : Hid (M3.tkS (M3.gb s) s.size a a 0 = M3.takeF s (a : Int)) := (takeF_yes h1 ha).symm
        generalize M3.takeF s (a : Int) = T at *
        go_enter Try.func11, Try.ntmps11
        go_wp2_with (go_at_call 22; refine (l1Take_in s a _ h1 ha T HR).mono ?_; rintro e w' ⟨rfl, rfl⟩)
        go_ret3
        exact ⟨rfl, rfl⟩
      · rw [takeF_no (by omega)]
        go_enter Try.func11, Try.ntmps11
        go_wp2
        go_ret3
        exact ⟨rfl, rfl⟩
    · rw [takeF_no (by omega)]
      go_enter Try.func11, Try.ntmps11
      go_wp2
      go_ret3
      exact ⟨rfl, rfl⟩
  · rw [takeF_no (by omega)]
    go_enter Try.func11, Try.ntmps11
    go_wp2
    go_ret3
    exact ⟨rfl, rfl⟩
set_option maxHeartbeats 800000 in
set_option maxRecDepth 100000 in
theorem lawTake_any (s : ByteArray) (x : Int) (w : World) (hs : s.size ≤ maxLen) :
    Calls Try.prog 5 #[.string s, .int .i64 x] w fun e w' => e = .returned (.bool true) ∧ Below w.heap.size w w' := by
  have hs' := hs
  unfold maxLen at hs'
  by_cases h1 : s.size ≤ 1048576
  · go_enter Try.func5, Try.ntmps5
    go_wp2_with (first
      | (go_at_call 11; refine (specTake_any _ _ _ hs).mono ?_; rintro e w' ⟨rfl, rfl⟩)
      | (go_at_call 12; refine (implTake_any _ _ _ hs).mono ?_; rintro e w' ⟨rfl, rfl⟩))
    go_ret
    exact ⟨rfl, Below.refl _ _⟩
  · go_enter Try.func5, Try.ntmps5
    go_wp2
    go_ret
    exact ⟨rfl, Below.refl _ _⟩
end Go.Proofs.Ytapojeehidhhnap
