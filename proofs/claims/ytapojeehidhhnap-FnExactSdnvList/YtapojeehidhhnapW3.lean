/- walk -/
import Derived.Test.YtapojeehidhhnapW1
import Derived.Test.YtapojeehidhhnapW2
namespace Go.Proofs.Ytapojeehidhhnap
open Go.RowKit
/-- What SdnvOf says. -/
def okN (n : Int) : Bool := decide (0 ≤ n ∧ n ≤ 1000000000)
set_option maxHeartbeats 400000 in
set_option maxRecDepth 100000 in
theorem isNumber_any (n : Int) (w : World) : Calls Try.prog 20 #[.int .i64 n] w fun e w' => e = .returned (.bool (okN n)) ∧ w = w' := by
  by_cases h0 : 0 ≤ n
  · by_cases h1 : n ≤ 1000000000
    · go_enter Try.func20, Try.ntmps20
      go_wp2
      go_ret
      exact ⟨by simp [okN, h0, h1], rfl⟩
    · go_enter Try.func20, Try.ntmps20
      go_wp2
      go_ret
      exact ⟨by simp [okN, h1], rfl⟩
  · go_enter Try.func20, Try.ntmps20
    go_wp2
    go_ret
    exact ⟨by simp [okN]; omega, rfl⟩
set_option maxHeartbeats 400000 in
set_option maxRecDepth 100000 in
theorem l1Value_any (n : Int) (w : World) : Calls Try.prog 18 #[.int .i64 n] w fun e w' => e = .returned (.bool (okN n)) ∧ w = w' := by
  by_cases h0 : 0 ≤ n
  · by_cases h1 : n ≤ 1000000000
    · go_enter Try.func18, Try.ntmps18
      go_wp2
      go_ret
      exact ⟨by simp [okN, h0, h1], rfl⟩
    · go_enter Try.func18, Try.ntmps18
      go_wp2
      go_ret
      exact ⟨by simp [okN, h1], rfl⟩
  · go_enter Try.func18, Try.ntmps18
    go_wp2
    go_ret
    exact ⟨by simp [okN]; omega, rfl⟩
/-- The text that SdnvOf answers. -/
def sdStr (n : Int) : ByteArray := if okN n = true then ⟨(M1.sdnv n.toNat).toArray⟩ else ⟨#[]⟩
theorem okN_no {n : Int} (h : ¬ (0 ≤ n ∧ n ≤ 1000000000)) : okN n = false ∧ sdStr n = ⟨#[]⟩ := by
  have : okN n = false := by simp [okN]; omega
  exact ⟨this, by simp [sdStr, this]⟩
theorem okN_yes {n : Int} (h : 0 ≤ n ∧ n ≤ 1000000000) : okN n = true ∧ sdStr n = ⟨(M1.sdnv n.toNat).toArray⟩ := by
  have : okN n = true := by simp [okN]; omega
  exact ⟨this, by simp [sdStr, this]⟩
set_option maxHeartbeats 400000 in
set_option maxRecDepth 100000 in
theorem specSdnvOf_any (n : Int) (w : World) : Calls Try.prog 9 #[.int .i64 n] w fun e w' => e = .returned (.tuple #[.string (sdStr n), .bool (okN n)]) ∧ Below w.heap.size w w' := by
  by_cases h : 0 ≤ n ∧ n ≤ 1000000000
  · obtain ⟨h1, h2⟩ := okN_yes h
    rw [h2, h1]
    obtain ⟨m, rfl⟩ := Int.eq_ofNat_of_zero_le h.1
    have hm : m ≤ 1000000000 := by omega
    rw [Int.toNat_natCast]
    go_enter Try.func9, Try.ntmps9
    go_wp2_with (first
      | (go_at_call 18; refine (l1Value_any _ _).mono ?_; rintro e w' ⟨rfl, rfl⟩)
      | (go_at_call 19; refine (l1Sdnv_any m _ hm).mono ?_; rintro e w' ⟨rfl, hb⟩))
    go_ret2
    exact ⟨rfl, hb⟩
  · obtain ⟨h1, h2⟩ := okN_no h
    rw [h2, h1]
    go_enter Try.func9, Try.ntmps9
    go_wp2_with (first
      | (go_at_call 18; refine (l1Value_any _ _).mono ?_; rintro e w' ⟨rfl, rfl⟩))
    go_ret2
    exact ⟨rfl, Below.refl _ _⟩
set_option maxHeartbeats 400000 in
set_option maxRecDepth 100000 in
theorem implSdnvOf_any (n : Int) (w : World) : Calls Try.prog 10 #[.int .i64 n] w fun e w' => e = .returned (.tuple #[.string (sdStr n), .bool (okN n)]) ∧ Below w.heap.size w w' := by
  by_cases h : 0 ≤ n ∧ n ≤ 1000000000
  · obtain ⟨h1, h2⟩ := okN_yes h
    rw [h2, h1]
    obtain ⟨m, rfl⟩ := Int.eq_ofNat_of_zero_le h.1
    have hm : m ≤ 1000000000 := by omega
    rw [Int.toNat_natCast]
    go_enter Try.func10, Try.ntmps10
    go_wp2_with (first
      | (go_at_call 20; refine (isNumber_any _ _).mono ?_; rintro e w' ⟨rfl, rfl⟩)
      | (go_at_call 21; refine (appendSdnv_any m w.heap.size (.slice none 0 0) [] w hm (by simp) (Nat.le_refl _) (World.ownsRow_nil _ _ _ _)).mono ?_; rintro e w' ⟨v', rfl, hown, hb⟩; have hcv := M2.conv_own (P := Try.prog) 39 9 5 Try.underlying39 Try.underlying5 Try.underlying9 hown; simp only [List.nil_append] at hcv))
    go_ret2
    exact ⟨rfl, hb⟩
  · obtain ⟨h1, h2⟩ := okN_no h
    rw [h2, h1]
    go_enter Try.func10, Try.ntmps10
    go_wp2_with (first
      | (go_at_call 20; refine (isNumber_any _ _).mono ?_; rintro e w' ⟨rfl, rfl⟩))
    go_ret2
    exact ⟨rfl, Below.refl _ _⟩
set_option maxHeartbeats 400000 in
set_option maxRecDepth 100000 in
theorem lawSdnvOf_any (n : Int) (w : World) : Calls Try.prog 4 #[.int .i64 n] w fun e w' => e = .returned (.bool true) ∧ Below w.heap.size w w' := by
  go_enter Try.func4, Try.ntmps4
  go_wp2_with (first
    | (go_at_call 9; refine (specSdnvOf_any _ _).mono ?_; rintro e w1 ⟨rfl, hb1⟩)
    | (go_at_call 10; refine (implSdnvOf_any _ _).mono ?_; rintro e w2 ⟨rfl, hb2⟩))

  go_ret
  exact ⟨rfl, hb1.trans (hb2.mono hb1.size)⟩
end Go.Proofs.Ytapojeehidhhnap
