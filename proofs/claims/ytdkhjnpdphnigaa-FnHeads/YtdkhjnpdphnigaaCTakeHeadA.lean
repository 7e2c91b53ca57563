/- The program's TakeHead at any arguments. -/
import Derived.Test.YtdkhjnpdphnigaaRows
import Derived.Test.YtdkhjnpdphnigaaCTakeHeadI
import Derived.WalkKit
import Derived.WalkSpells
import Derived.WalkLawsBesides
import Derived.Outline
namespace Go.Proofs.Ytdkhjnpdphnigaa
open Go.RowKit
set_option maxHeartbeats 800000 in
set_option maxRecDepth 100000 in
theorem implTakeHead_any (s : ByteArray) (x : Int) (w : World) (hs : s.size ≤ maxLen) :
    Calls Try.prog 18 #[.string s, .int .i64 x] w fun e w' => e = .returned (M10.t4 (M10.hdF s x)) ∧ Below w.heap.size w w' := by
  unfold maxLen at hs
  by_cases h1 : s.size ≤ 400
  · by_cases h2 : 0 ≤ x
    · by_cases h3 : x < s.size
      · obtain ⟨a, rfl⟩ := Int.eq_ofNat_of_zero_le h2
        have ha : a < s.size := by omega
        exact implTakeHead_in s a w h1 ha _ (M10.hdF_yes h1 ha).symm
      · rw [M10.hdF_no (by omega)]
        go_enter Try.func18, Try.ntmps18
        go_wp2
        exact bodyPost_ret (v := M10.t4 M10.no) (by simp [results, Try.results18, go_sem, M10.no]) rfl ⟨rfl, Below.refl _ _⟩
    · rw [M10.hdF_no (by omega)]
      go_enter Try.func18, Try.ntmps18
      go_wp2
      exact bodyPost_ret (v := M10.t4 M10.no) (by simp [results, Try.results18, go_sem, M10.no]) rfl ⟨rfl, Below.refl _ _⟩
  · rw [M10.hdF_no (by omega)]
    go_enter Try.func18, Try.ntmps18
    go_wp2
    exact bodyPost_ret (v := M10.t4 M10.no) (by simp [results, Try.results18, go_sem, M10.no]) rfl ⟨rfl, Below.refl _ _⟩
end Go.Proofs.Ytdkhjnpdphnigaa
