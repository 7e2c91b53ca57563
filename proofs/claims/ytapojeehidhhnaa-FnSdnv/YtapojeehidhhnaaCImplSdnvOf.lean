/- impl.SdnvOf at every number. -/
import Derived.Test.YtapojeehidhhnaaRows
import Derived.Test.YtapojeehidhhnaaCIsNumber
import Derived.Test.YtapojeehidhhnaaCAppendSdnv
import Derived.WalkKit
import Derived.WalkSpells
import Derived.WalkLawsBesides
import Derived.Outline
namespace Go.Proofs.Ytapojeehidhhnaa
open Go.RowKit
set_option maxHeartbeats 400000 in
set_option maxRecDepth 100000 in
theorem implSdnvOf_any (n : Int) (w : World) : Calls Try.prog 9 #[.int .i64 n] w fun e w' => e = .returned (.tuple #[.string (sdStr n), .bool (okN n)]) ∧ Below w.heap.size w w' := by
  by_cases h : 0 ≤ n ∧ n ≤ 1000000000
  · obtain ⟨h1, h2⟩ := okN_yes h
    rw [h2, h1]
    obtain ⟨m, rfl⟩ := Int.eq_ofNat_of_zero_le h.1
    have hm : m ≤ 1000000000 := by omega
    rw [Int.toNat_natCast]
    go_enter Try.func9, Try.ntmps9
    go_wp2_with (first
      | (go_at_call 14; refine (isNumber_any _ _).mono ?_; rintro e w' ⟨rfl, rfl⟩)
      | (go_at_call 15; refine (appendSdnv_any m w.heap.size (.slice none 0 0) [] w hm (by simp) (Nat.le_refl _) (World.ownsRow_nil _ _ _ _)).mono ?_; rintro e w' ⟨v', rfl, hown, hb⟩; have hcv := M2.conv_own (P := Try.prog) 22 9 5 Try.underlying22 Try.underlying5 Try.underlying9 hown; simp only [List.nil_append] at hcv))
    go_ret2
    exact ⟨rfl, hb⟩
  · obtain ⟨h1, h2⟩ := okN_no h
    rw [h2, h1]
    go_enter Try.func9, Try.ntmps9
    go_wp2_with (first
      | (go_at_call 14; refine (isNumber_any _ _).mono ?_; rintro e w' ⟨rfl, rfl⟩))
    go_ret2
    exact ⟨rfl, Below.refl _ _⟩
end Go.Proofs.Ytapojeehidhhnaa
