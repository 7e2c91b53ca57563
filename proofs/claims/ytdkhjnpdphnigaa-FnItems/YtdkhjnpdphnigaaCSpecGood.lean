/- The specification's GoodItems. -/
import Derived.Test.YtdkhjnpdphnigaaRows
import Derived.Test.YtdkhjnpdphnigaaCL2Value
import Derived.Test.YtdkhjnpdphnigaaCL2Bytes
import Derived.Test.YtdkhjnpdphnigaaSlF
import Derived.WalkKit
import Derived.WalkSpells
import Derived.WalkLawsBesides
import Derived.Outline
namespace Go.Proofs.Ytdkhjnpdphnigaa
open Go.RowKit
theorem l2Value_all (a : Option Addr) (cap : Nat) (xs : List It) (w : World) (hl : xs.length ≤ 1048576) (hwf : Hid (M11.Wf xs)) (hin : M11.ItemsAt w a xs) :
    Calls Try.prog 29 #[.slice a xs.length cap, .int .i64 0, .int .i64 0] w fun e w' => M12.res 0 0 (M12.vl 5 xs) e ∧ Below w.heap.size w w' := by
  have h := l2Value_any 5 a cap xs 0 0 w hl rfl (by omega) hwf hin
  rw [List.drop_zero] at h
  exact h
set_option maxHeartbeats 800000 in
set_option maxRecDepth 100000 in
theorem l2Good_any (a : Option Addr) (cap : Nat) (xs : List It) (w : World) (hl : xs.length ≤ 1048576) (hwf : Hid (M11.Wf xs)) (hin : M11.ItemsAt w a xs) :
    Calls Try.prog 44 #[.slice a xs.length cap] w fun e w' => e = .returned (.bool (M12.one xs)) ∧ Below w.heap.size w w' := by
  have LV : Hid _ := l2Value_all a cap xs w hl hwf hin
  have H1 : Hid (M12.vl 5 xs = none → M12.one xs = false) := fun h => by simp [M12.one, h]
  have H2 : Hid (∀ c d, M12.vl 5 xs = some (c, d) → M12.one xs = (decide (xs.length ≤ 40) && decide (c = xs.length))) := fun c d h => by simp [M12.one, h]
  have H3 : Hid (∀ c d, M12.vl 5 xs = some (c, d) → c ≤ xs.length) := fun c d h => (M12.vl_len 5 xs c d h).2
  clear hin hwf
  generalize M12.vl 5 xs = O at *
  generalize M12.one xs = R at *
  go_enter Try.func44, Try.ntmps44
  go_wp2_with fail
  refine Calls.mono LV.out ?_
  rintro e w1 ⟨he, hb⟩
  clear LV
  cases O with
  | none =>
    obtain ⟨p, q, rfl⟩ := res_none he rfl
    obtain rfl := H1.out rfl
    clear H1 H2 H3
    go_wp2
    go_ret
    exact ⟨rfl, hb⟩
  | some q =>
    obtain ⟨c, d⟩ := q
    obtain rfl := res_some he rfl
    have hc := H3.out c d rfl
    have hR : Hid _ := H2.out c d rfl
    clear H1 H2 H3 he
    by_cases h1 : c = xs.length
    · subst h1
      by_cases h2 : xs.length ≤ 40
      · have hR2 : Hid (true = R) := by rw [hR.out]; show _ = _; simp [h2]
        clear hR
        go_wp2
        go_ret
        exact ⟨M4.ret_bool ((show decide ((xs.length : Int) ≤ 40) = true by simp; omega).trans hR2.out), hb⟩
      · have hR2 : Hid (false = R) := by rw [hR.out]; show _ = _; simp [h2]
        clear hR
        go_wp2
        go_ret
        exact ⟨M4.ret_bool ((show decide ((xs.length : Int) ≤ 40) = false by simp; omega).trans hR2.out), hb⟩
    · have hR2 : Hid (false = R) := by rw [hR.out]; show _ = _; simp [h1]
      have h1b : ((c : Int) == (xs.length : Int)) = false := by simp; omega
      clear hR h1
      go_wp2
      go_ret
      exact ⟨M4.ret_bool hR2.out, hb⟩
set_option maxHeartbeats 800000 in
set_option maxRecDepth 100000 in
theorem specGood_any (a : Option Addr) (cap : Nat) (xs : List It) (w : World) (hl : xs.length ≤ 1048576) (hwf : Hid (M11.Wf xs)) (hin : M11.ItemsAt w a xs) :
    Calls Try.prog 26 #[.slice a xs.length cap] w fun e w' => e = .returned (.bool (M12.good xs)) ∧ Below w.heap.size w w' := by
  have LG : Hid _ := l2Good_any a cap xs w hl hwf hin
  cases h1 : M12.one xs
  · have hR : Hid (false = M12.good xs) := by show _ = _; simp [M12.good, h1]
    rw [h1] at LG
    clear h1 hin hwf
    go_enter Try.func26, Try.ntmps26
    go_wp2_with fail
    refine Calls.mono LG.out ?_
    rintro e w1 ⟨rfl, hb⟩
    clear LG
    go_wp2
    go_ret
    exact ⟨M4.ret_bool hR.out, hb⟩
  · have h40 := (M13.one_some h1).1
    have hf : Hid _ := M13.one_fine h1
    have hR : Hid (decide ((M12.bytes xs).length ≤ 400) = M12.good xs) := by show _ = _; simp [M12.good, h1]
    have LB : Hid _ := fun W h => l2Bytes_any a cap xs W h40 hf h
    have hbl : (M12.bytes xs).length ≤ 2600 := M13.bytes_len h40 hf.out
    rw [h1] at LG
    clear h1 hwf hf
    generalize M12.bytes xs = L at *
    generalize M12.good xs = R at *
    go_enter Try.func26, Try.ntmps26
    go_wp2_with fail
    refine Calls.mono LG.out ?_
    rintro e w1 ⟨rfl, hb⟩
    go_wp2_with fail
    refine Calls.mono (LB.out _ (hin.below hb)) ?_
    rintro e w2 ⟨rfl, hb2⟩
    have hB := hb.trans (hb2.mono hb.size)
    clear LG LB hb hb2 hin
    by_cases h4 : L.length ≤ 400
    · have hR2 : Hid (true = R) := by rw [← hR.out]; show _ = _; simp [h4]
      clear hR
      go_wp2
      go_ret
      exact ⟨M4.ret_bool ((show decide ((L.length : Int) ≤ 400) = true by simp; omega).trans hR2.out), hB⟩
    · have hR2 : Hid (false = R) := by rw [← hR.out]; show _ = _; simp [h4]
      clear hR
      go_wp2
      go_ret
      exact ⟨M4.ret_bool ((show decide ((L.length : Int) ≤ 400) = false by simp; omega).trans hR2.out), hB⟩
end Go.Proofs.Ytdkhjnpdphnigaa
