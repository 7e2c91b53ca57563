import Derived.Test.YtdkhjnpdphnigaaRows
import Derived.Test.YtdkhjnpdphnigaaCSpecGood
import Derived.Test.YtdkhjnpdphnigaaCL2Value
import Derived.Test.YtdkhjnpdphnigaaCL2Bytes
import Derived.Test.YtdkhjnpdphnigaaSlF
import Derived.WalkKit
import Derived.WalkSpells
import Derived.WalkLawsBesides
import Derived.Outline
/- The specification's GoodItems, ItemsBytes, DeepOf. -/
namespace Go.Proofs.Ytdkhjnpdphnigaa
open Go.RowKit
theorem ret_nb {m n : Nat} {b : Bool} (h : m = n) : Ending.returned (.tuple #[.int .i64 (m : Int), .bool b]) = .returned (.tuple #[.int .i64 (n : Int), .bool b]) := by rw [h]
set_option maxHeartbeats 800000 in
set_option maxRecDepth 100000 in
theorem specDeepOf_any (a : Option Addr) (cap : Nat) (xs : List It) (w : World) (hl : xs.length ≤ 1048576) (hwf : Hid (M11.Wf xs)) (hin : M11.ItemsAt w a xs) :
    Calls Try.prog 9 #[.slice a xs.length cap] w fun e w' => e = .returned (.tuple #[.int .i64 (M12.deepR xs : Int), .bool (M12.good xs)]) ∧ Below w.heap.size w w' := by
  have LG : Hid _ := specGood_any a cap xs w hl hwf hin
  cases h1 : M12.good xs
  · have hR : Hid (0 = M12.deepR xs) := by show _ = _; simp [M12.deepR, h1]
    rw [h1] at LG
    clear h1 hin hwf
    go_enter Try.func9, Try.ntmps9
    go_wp2_with fail
    refine Calls.mono LG.out ?_
    rintro e w1 ⟨rfl, hb⟩
    clear LG
    go_wp2
    go_ret2
    exact ⟨ret_nb hR.out, hb⟩
  · have ho : M12.one xs = true := by unfold M12.good at h1; simp at h1; exact h1.1
    obtain ⟨h40, d, h5⟩ := M13.one_some ho
    have hR : Hid (d = M12.deepR xs) := by show _ = _; simp [M12.deepR, h1, M12.deepL, h5]
    have LV : Hid _ := fun W h => l2Value_all a cap xs W hl hwf h
    rw [h5] at LV
    rw [h1] at LG
    clear h1 hwf ho h5
    go_enter Try.func9, Try.ntmps9
    go_wp2_with fail
    refine Calls.mono LG.out ?_
    rintro e w1 ⟨rfl, hb⟩
    go_wp2_with fail
    refine Calls.mono (LV.out _ (hin.below hb)) ?_
    rintro e w2 ⟨he, hb2⟩
    obtain rfl := res_some he rfl
    have hB := hb.trans (hb2.mono hb.size)
    clear LG LV hb hb2 hin he
    simp only [Nat.zero_add]
    go_wp2
    go_ret2
    exact ⟨ret_nb hR.out, hB⟩
end Go.Proofs.Ytdkhjnpdphnigaa

/- The specification's ItemsBytes. -/
namespace Go.Proofs.Ytdkhjnpdphnigaa
open Go.RowKit
set_option maxHeartbeats 800000 in
set_option maxRecDepth 100000 in
theorem specItemsBytes_any (a : Option Addr) (cap : Nat) (xs : List It) (w : World) (hl : xs.length ≤ 1048576) (hwf : Hid (M11.Wf xs)) (hin : M11.ItemsAt w a xs) :
    Calls Try.prog 7 #[.slice a xs.length cap] w fun e w' => e = .returned (.tuple #[.string (M12.strR xs), .bool (M12.good xs)]) ∧ Below w.heap.size w w' := by
  have LG : Hid _ := specGood_any a cap xs w hl hwf hin
  cases h1 : M12.good xs
  · have hR : Hid (⟨#[]⟩ = M12.strR xs) := by show _ = _; simp [M12.strR, h1]
    rw [h1] at LG
    clear h1 hin hwf
    go_enter Try.func7, Try.ntmps7
    go_wp2_with fail
    refine Calls.mono LG.out ?_
    rintro e w1 ⟨rfl, hb⟩
    clear LG
    go_wp2
    go_ret2
    exact ⟨ret_sb hR.out rfl, hb⟩
  · have ho : M12.one xs = true := by unfold M12.good at h1; simp at h1; exact h1.1
    have h40 := (M13.one_some ho).1
    have hf : Hid _ := M13.one_fine ho
    have hR : Hid (⟨(M12.bytes xs).toArray⟩ = M12.strR xs) := by show _ = _; simp [M12.strR, h1]
    have LB : Hid _ := fun W h => l2Bytes_any a cap xs W h40 hf h
    rw [h1] at LG
    clear h1 hwf hf ho
    generalize M12.bytes xs = L at *
    go_enter Try.func7, Try.ntmps7
    go_wp2_with fail
    refine Calls.mono LG.out ?_
    rintro e w1 ⟨rfl, hb⟩
    go_wp2_with fail
    refine Calls.mono (LB.out _ (hin.below hb)) ?_
    rintro e w2 ⟨rfl, hb2⟩
    have hB := hb.trans (hb2.mono hb.size)
    clear LG LB hb hb2 hin
    go_wp2
    go_ret2
    exact ⟨ret_sb hR.out rfl, hB⟩
end Go.Proofs.Ytdkhjnpdphnigaa
