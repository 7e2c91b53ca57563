/- TakeHead, the program's and the specification's, at any arguments. -/
import Derived.Test.YtdkhjnpdphnigaaRows
import Derived.Test.YtdkhjnpdphnigaaCTakeHeadA
import Derived.Test.YtdkhjnpdphnigaaCTakeHeadS
import Derived.WalkKit
import Derived.WalkSpells
import Derived.WalkLawsBesides
import Derived.Outline
namespace Go.Proofs.Ytdkhjnpdphnigaa
open Go.RowKit
set_option maxHeartbeats 800000 in
set_option maxRecDepth 100000 in
theorem specTakeHead_any (s : ByteArray) (x : Int) (w : World) (hs : s.size ≤ maxLen) :
    Calls Try.prog 20 #[.string s, .int .i64 x] w fun e w' => e = .returned (M10.t4 (M10.hdF s x)) ∧ Below w.heap.size w w' := by
  unfold maxLen at hs
  by_cases h1 : s.size ≤ 400
  · by_cases h2 : 0 ≤ x
    · by_cases h3 : x < s.size
      · obtain ⟨a, rfl⟩ := Int.eq_ofNat_of_zero_le h2
        have ha : a < s.size := by omega
        have HR : Hid (M10.hdR s a = M10.hdF s (a : Int)) := (M10.hdF_yes h1 ha).symm
        generalize M10.hdF s (a : Int) = T at *
        go_enter Try.func20, Try.ntmps20
        go_wp2_with fail
        refine (l2TakeHead_in s a _ h1 ha T HR).mono ?_
        rintro e w1 ⟨rfl, hb1⟩
        obtain ⟨m, n, k, b⟩ := T
        go_wp2
        exact bodyPost_ret (v := M10.t4 (m, n, k, b)) (by simp [results, Try.results20, go_sem]) rfl ⟨rfl, hb1⟩
      · rw [M10.hdF_no (by omega)]
        go_enter Try.func20, Try.ntmps20
        go_wp2
        exact bodyPost_ret (v := M10.t4 M10.no) (by simp [results, Try.results20, go_sem, M10.no]) rfl ⟨rfl, Below.refl _ _⟩
    · rw [M10.hdF_no (by omega)]
      go_enter Try.func20, Try.ntmps20
      go_wp2
      exact bodyPost_ret (v := M10.t4 M10.no) (by simp [results, Try.results20, go_sem, M10.no]) rfl ⟨rfl, Below.refl _ _⟩
  · rw [M10.hdF_no (by omega)]
    go_enter Try.func20, Try.ntmps20
    go_wp2
    exact bodyPost_ret (v := M10.t4 M10.no) (by simp [results, Try.results20, go_sem, M10.no]) rfl ⟨rfl, Below.refl _ _⟩
end Go.Proofs.Ytdkhjnpdphnigaa
