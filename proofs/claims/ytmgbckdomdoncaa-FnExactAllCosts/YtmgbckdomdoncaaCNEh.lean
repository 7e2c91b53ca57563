/- Rows of rows of numbers, held: heldIntSS. -/
import Derived.Test.YtmgbckdomdoncaaRows
import Derived.Test.YtmgbckdomdoncaaMNE
import Derived.Test.YtmgbckdomdoncaaMRetB
import Derived.Test.YtmgbckdomdoncaaCNEe
import Derived.Test.YtmgbckdomdoncaaCNEm
import Derived.Test.YtmgbckdomdoncaaCMarkIntS
import Derived.WalkKit
import Derived.WalkSpells
import Derived.WalkLawsBesides
import Derived.Outline
import Derived.Deep.RegionWith
namespace Go.Proofs.Ytmgbckdomdoncaa
open Go.RowKit
set_option maxHeartbeats 1600000 in
set_option maxRecDepth 100000 in
theorem heldIntSS_any (a : Option Addr) (c : Nat) (ws : List (List Int)) (k : Int) (w : World) (hz : ws.length ≤ 1048576) (ht : NE.tot ws ≤ 1048576) (hk0 : 0 ≤ k) (hk : k ≤ 1048576) (hin : NE.RowsAt w a (NE.mkUp k ws ws.length)) :
    Calls Try.prog 19 #[.slice a ws.length c, .int .i64 k] w fun e w' => e = .returned (.int .i64 (k + NE.tot ws)) ∧ w = w' := by
  have HI : Hid _ := hin
  clear hin
  go_enter Try.func19, Try.ntmps19
  go_wp2
  go_loopw [1, 5] (fun kv iv wr => ∃ i : Nat, kv = .int .i64 (k + NE.tot (ws.take i)) ∧ iv = .int .i64 i ∧ i ≤ ws.length ∧ w = wr) (fun _ iv _ => (ws.length - intOf iv).toNat)
  case atStart => exact ⟨0, by simp [NE.tot], rfl, by omega, rfl⟩
  case round =>
    obtain ⟨i, rfl, rfl, hi, rfl⟩ := hrel
    have tl := NE.tot_le ws i
    by_cases hl : i < ws.length
    · have hl' : i < (NE.mkUp k ws ws.length).length := by rw [NE.mk_len]; exact hl
      obtain ⟨b1, off1, a1, c1, rfl, hlt1, d1, _, i1⟩ := HI.out.at hl'
      rw [NE.mk_row k ws _ hl] at d1
      have e1 := NE.mk_at k ws ws.length hl
      rw [if_pos hl] at e1
      rw [e1] at i1
      have hrt := NE.tot_row ws hl
      have ET : Hid (NE.tot (ws.take (i + 1)) = NE.tot (ws.take i) + (NE.rw_ ws i).length) := NE.tot_take ws hl
      have HH : Hid _ := heldIntS_any a1 c1 (NE.rw_ ws i).length (k + NE.tot (ws.take i)) w (by omega) (by omega) (by omega) i1
      clear i1 e1 HI
      generalize NE.tot (ws.take i) = ti at *
      generalize (NE.rw_ ws i).length = ri at *
      go_wp2_with fail
      refine Calls.mono HH.out ?_
      rintro e w2 ⟨rfl, rfl⟩
      clear HH
      go_wp2
      go_roundw
      case rel => exact ⟨i + 1, by rw [ET.out]; push_cast; rw [Int.add_assoc], by go_num, by omega, trivial⟩
      case measure => simp [intOf]; omega
    · obtain rfl : i = ws.length := by omega
      rw [List.take_length]
      go_wp2
      go_ret
      exact ⟨rfl, rfl⟩
end Go.Proofs.Ytmgbckdomdoncaa
