/- The program's DeepOf. -/
import Derived.Test.YtdkhjnpdphnigaaRows
import Derived.Test.YtdkhjnpdphnigaaCImplBytes
import Derived.Test.YtdkhjnpdphnigaaCDeepIn
import Derived.WalkKit
import Derived.WalkSpells
import Derived.WalkLawsBesides
import Derived.Outline
namespace Go.Proofs.Ytdkhjnpdphnigaa
open Go.RowKit
theorem ret_nbI {m n : Nat} {b : Bool} (h : m = n) : Ending.returned (.tuple #[.int .i64 (m : Int), .bool b]) = .returned (.tuple #[.int .i64 (n : Int), .bool b]) := by rw [h]
set_option maxHeartbeats 800000 in
set_option maxRecDepth 100000 in
theorem implDeepOf_any (a : Option Addr) (cap : Nat) (xs : List It) (w : World) (hl : xs.length ≤ 1048576) (hwf : Hid (M11.Wf xs)) (hin : M11.ItemsAt w a xs) :
    Calls Try.prog 8 #[.slice a xs.length cap] w fun e w' => e = .returned (.tuple #[.int .i64 (M12.deepR xs : Int), .bool (M12.good xs)]) ∧ Below w.heap.size w w' := by
  have LG : Hid _ := implGood_any a cap xs w hl hwf hin
  cases h1 : M12.good xs
  · have hR : Hid (0 = M12.deepR xs) := by show _ = _; simp [M12.deepR, h1]
    rw [h1] at LG
    clear h1 hin hwf
    go_enter Try.func8, Try.ntmps8
    go_wp2_with fail
    refine Calls.mono LG.out ?_
    rintro e w1 ⟨rfl, hb⟩
    clear LG
    go_wp2
    go_ret2
    exact ⟨ret_nbI hR.out, hb⟩
  · have ho : M12.one xs = true := by unfold M12.good at h1; simp at h1; exact h1.1
    obtain ⟨h40, d, h5⟩ := M13.one_some ho
    have hR : Hid (d = M12.deepR xs) := by show _ = _; simp [M12.deepR, h1, M12.deepL, h5]
    have hd5 := M12.vl_dep 5 xs _ _ h5
    have VV : Hid _ := fun W h => valueOf_any a cap xs W hl hwf h
    have HO : Hid _ := ho
    have H5 : Hid _ := h5
    rw [h1] at LG
    clear h1 hwf ho h5
    go_enter Try.func8, Try.ntmps8
    go_wp2_with fail
    refine Calls.mono LG.out ?_
    rintro e w1 ⟨rfl, hb⟩
    go_wp2_with fail
    refine Calls.mono (VV.out _ (hin.below hb)) ?_
    rintro e w2 ⟨he, hb2⟩
    have hB := hb.trans (hb2.mono hb.size)
    clear LG VV hb hb2 hin
    rcases he with ⟨hno, _⟩ | ⟨_, u, D, hv, rfl, hu⟩
    · rw [HO.out] at hno; cases hno
    · rw [H5.out] at hv
      obtain ⟨_, rfl⟩ : xs.length = xs.length ∧ d = D := by simpa using hv
      have DI : Hid _ := deepIn_any 5 w2 _ u xs d hu (by omega)
      obtain ⟨tu, xu, rfl⟩ := hu.shape
      clear hv hu H5 HO
      go_wp2_with fail
      refine Calls.mono DI.out ?_
      rintro e w3 ⟨rfl, rfl⟩
      clear DI
      go_wp2
      go_ret2
      exact ⟨ret_nbI hR.out, hB⟩
end Go.Proofs.Ytdkhjnpdphnigaa
