/- sameItems where both rows hold the same items; DrawGoodItems, DrawItemsBytes. -/
import Derived.Test.YtdkhjnpdphnigaaRows
import Derived.Test.YtdkhjnpdphnigaaCHeadsD
import Derived.WalkKit
import Derived.WalkSpells
import Derived.WalkLawsBesides
import Derived.Outline
import Derived.Deep.QuietTactic
import Derived.BigQuiet
namespace Go.Proofs.Ytdkhjnpdphnigaa
open Go.RowKit
set_option maxHeartbeats 3200000 in
set_option maxRecDepth 100000 in
theorem sameItems_same (a b : Option Addr) (ca cb : Nat) (xs : List It) (w : World) (hl : xs.length ≤ 1048576) (ha : M11.ItemsAt w a xs) (hb : M11.ItemsAt w b xs) :
    Calls Try.prog 12 #[.slice a xs.length ca, .slice b xs.length cb] w fun e w' => e = .returned (.bool true) ∧ Below w.heap.size w w' := by
  have HA : Hid (M11.ItemsAt w a xs) := ha
  have HB : Hid (M11.ItemsAt w b xs) := hb
  have hne : ((xs.length : Int) != (xs.length : Int)) = false := by simp
  clear ha hb
  go_enter Try.func12, Try.ntmps12
  go_wp2
  go_loopw [13] (fun iv wr => ∃ i : Nat, iv = .int .i64 i ∧ i ≤ xs.length ∧ Below w.heap.size w wr) (fun iv _ => (xs.length - intOf iv).toNat)
  case atStart => exact ⟨0, rfl, by omega, Below.refl _ _⟩
  case round =>
    obtain ⟨i, rfl, hi, hbw⟩ := hrel
    by_cases hli : i < xs.length
    · obtain ⟨b1, off1, rfl, hlt1, c0, c1, c2, c3⟩ := (HA.out.below hbw).at hli
      obtain ⟨b2, off2, rfl, hlt2, d0, d1, d2, d3⟩ := (HB.out.below hbw).at hli
      generalize M11.at_ xs i = x at *
      obtain ⟨x0, x1, x2, x3⟩ := x
      clear HA HB
      go_wp2
      go_quiet (fail)
      have hB := below_drewN hbw nq
      clear hbw
      go_wp2
      go_roundw
      case rel => exact ⟨i + 1, by go_num, by omega, hB⟩
      case measure => simp [intOf]; omega
    · obtain rfl : i = xs.length := by omega
      clear HA HB
      go_wp2
      go_ret
      exact ⟨rfl, hbw⟩
set_option maxHeartbeats 3200000 in
set_option maxRecDepth 100000 in
theorem drawGoodItems_any (a : Option Addr) (zs : List Int) (cap : Nat) (w : World) (hz : zs.length ≤ 140737488355328) (hb : MC.BytesAt w w.heap.size a zs) :
    Calls Try.prog 23 #[.slice a zs.length cap] w fun e w' => ∃ a1 c1 xs, e = .returned (.slice a1 (List.length xs) c1) ∧ xs.length ≤ 1100 ∧ M11.ItemsAt w' a1 xs ∧ ID.Sm xs ∧ Below w.heap.size w w' := by
  go_enter Try.func23, Try.ntmps23
  go_wp2_with fail
  refine (value_any w.heap.size a zs cap 0 _ hz (by omega) (cur_new hb)).mono ?_
  rintro e w1 ⟨a1, c1, xs, rfl, h0, h1, hown, hsm, hc, hor⟩
  have hin := ID.own_items hown h0
  have hB1 := new_below rfl hor
  clear hown hor hb hc
  go_wp2
  go_ret
  exact ⟨a1, c1, xs, rfl, h1, hin, hsm, hB1⟩
set_option maxHeartbeats 3200000 in
set_option maxRecDepth 100000 in
theorem drawItemsBytes_any (a : Option Addr) (zs : List Int) (cap : Nat) (w : World) (hz : zs.length ≤ 140737488355328) (hb : MC.BytesAt w w.heap.size a zs) :
    Calls Try.prog 5 #[.slice a zs.length cap] w fun e w' => ∃ a1 c1 xs, e = .returned (.slice a1 (List.length xs) c1) ∧ xs.length ≤ 1100 ∧ M11.ItemsAt w' a1 xs ∧ ID.Sm xs ∧ Below w.heap.size w w' := by
  go_enter Try.func5, Try.ntmps5
  go_wp2_with fail
  refine (drawGoodItems_any a zs cap _ hz hb).mono ?_
  rintro e w1 ⟨a1, c1, xs, rfl, h1, hin, hsm, hB1⟩
  clear hb
  go_wp2
  go_ret
  exact ⟨a1, c1, xs, rfl, h1, hin, hsm, hB1⟩
end Go.Proofs.Ytdkhjnpdphnigaa
