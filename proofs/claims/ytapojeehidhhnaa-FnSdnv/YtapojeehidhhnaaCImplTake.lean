/- impl.TakeSdnv at every text and place. -/
import Derived.Test.YtapojeehidhhnaaRows
import Derived.Test.YtapojeehidhhnaaTakeF
import Derived.Test.YtapojeehidhhnaaCImplTakeIn
import Derived.WalkKit
import Derived.WalkSpells
import Derived.WalkLawsBesides
import Derived.Outline
namespace Go.Proofs.Ytapojeehidhhnaa
open Go.RowKit
set_option maxHeartbeats 800000 in
set_option maxRecDepth 100000 in
theorem implTake_any (s : ByteArray) (x : Int) (w : World) (hs : s.size ≤ maxLen) :
    Calls Try.prog 10 #[.string s, .int .i64 x] w fun e w' => e = .returned (tk3 (M3.takeF s x)) ∧ w = w' := by
  unfold maxLen at hs
  by_cases h1 : s.size ≤ 400
  · by_cases h2 : 0 ≤ x
    · by_cases h3 : x < s.size
      · obtain ⟨a, rfl⟩ := Int.eq_ofNat_of_zero_le h2
        have ha : a < s.size := by omega
        by_cases h4 : M3.gb s a = 128
        · have HR : Hid (M3.no = M3.takeF s (a : Int)) := takeF_128 h1 ha h4
          have hg := M3.gb_eq s a ha
          rw [h4] at hg
          clear h4
          go_enter Try.func10, Try.ntmps10
          go_wp2
          go_ret3
          exact ⟨ret3 HR.out, rfl⟩
        · exact implTake_in s a w h1 ha _ (takeF_impl h1 ha h4) h4
      · rw [takeF_no (by omega)]
        go_enter Try.func10, Try.ntmps10
        go_wp2
        go_ret3
        exact ⟨rfl, rfl⟩
    · rw [takeF_no (by omega)]
      go_enter Try.func10, Try.ntmps10
      go_wp2
      go_ret3
      exact ⟨rfl, rfl⟩
  · rw [takeF_no (by omega)]
    go_enter Try.func10, Try.ntmps10
    go_wp2
    go_ret3
    exact ⟨rfl, rfl⟩
end Go.Proofs.Ytapojeehidhhnaa
