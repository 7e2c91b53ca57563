/- The walks of DrawCrcOf, DrawWithCrc, DrawCheckCrc: some text; and of the laws' numberOf: some number. -/
import Derived.Test.YtapojeehidhhnaaDoorMCurNew
import Derived.Test.YtapojeehidhhnaaDoorCText
namespace Go.Proofs.YtapojeehidhhnaaDoor
open Go.RowKit
theorem wF_size (s : ByteArray) : (wF s).size ≤ 400 := by
  unfold wF
  split
  · unfold withS
    rw [ByteArray.size_append]
    show _ + 2 ≤ 400
    omega
  · show (#[] : Array UInt8).size ≤ 400; simp
set_option maxHeartbeats 800000 in
set_option maxRecDepth 100000 in
theorem drawCrcOf_any (a : Option Addr) (zs : List Int) (cap : Nat) (w : World) (hz : zs.length ≤ 140737488355328) (hb : MC.BytesAt w w.heap.size a zs) :
    Calls Tryd.prog 14 #[.slice a zs.length cap] w fun e w' => ∃ t : ByteArray, e = .returned (.string t) ∧ t.size ≤ 415 ∧ Below w.heap.size w w' := by
  go_enter Tryd.func14, Tryd.ntmps14
  go_wp2_with fail
  refine (text_any w.heap.size a zs cap 0 _ hz (by omega) (cur_new hb)).mono ?_
  rintro e w1 ⟨s, rfl, hs, hc, ho⟩
  go_wp2
  go_ret
  exact ⟨s, rfl, hs, new_below rfl ho⟩
set_option maxHeartbeats 800000 in
set_option maxRecDepth 100000 in
theorem drawWithCrc_any (a : Option Addr) (zs : List Int) (cap : Nat) (w : World) (hz : zs.length ≤ 140737488355328) (hb : MC.BytesAt w w.heap.size a zs) :
    Calls Tryd.prog 4 #[.slice a zs.length cap] w fun e w' => ∃ t : ByteArray, e = .returned (.string t) ∧ t.size ≤ 415 ∧ Below w.heap.size w w' := by
  go_enter Tryd.func4, Tryd.ntmps4
  go_wp2_with fail
  refine (drawCrcOf_any a zs cap _ hz hb).mono ?_
  rintro e w1 ⟨s, rfl, hs, hB⟩
  go_wp2
  go_ret
  exact ⟨s, rfl, hs, hB⟩
set_option maxHeartbeats 800000 in
set_option maxRecDepth 100000 in
theorem drawCheckCrc_any (a : Option Addr) (zs : List Int) (cap : Nat) (w : World) (hz : zs.length ≤ 140737488355328) (hb : MC.BytesAt w w.heap.size a zs) :
    Calls Tryd.prog 12 #[.slice a zs.length cap] w fun e w' => ∃ t : ByteArray, e = .returned (.string t) ∧ t.size ≤ 415 ∧ Below w.heap.size w w' := by
  go_enter Tryd.func12, Tryd.ntmps12
  go_wp2_with fail
  refine (text_any w.heap.size a zs cap 0 _ hz (by omega) (cur_new hb)).mono ?_
  rintro e w1 ⟨s0, rfl, hs, hc, ho⟩
  have hw := wF_size s0
  go_wp2_with fail
  refine (specWith_any s0 _ (by unfold maxLen; omega)).mono ?_
  rintro e w2 ⟨rfl, hb2⟩
  have hc2 := hc.below hb2
  have ho2 := ho.trans (MC.Only.of_below hb2)
  clear hc ho hb2
  generalize wF s0 = s at *
  go_wp2_with fail
  refine (one_any w.heap.size a zs cap (0 + 6) _ _ hz (by omega) hc2).mono ?_
  rintro e w3 ⟨b, rfl, hc3, ho3⟩
  have ho3' := ho2.trans ho3
  clear hc2 ho2 ho3
  cases b with
  | false =>
    go_wp2
    go_ret
    exact ⟨s, rfl, by omega, new_below rfl ho3'⟩
  | true =>
    go_wp2_with fail
    refine (spoilt_any w.heap.size a zs cap (0 + 6 + 2) s _ _ hz (by omega) hc3 (by omega) (by decide) (by decide)).mono ?_
    rintro e w4 ⟨t, rfl, ht, hc4, ho4⟩
    go_wp2
    go_ret
    exact ⟨t, rfl, by omega, new_below rfl (ho3'.trans ho4)⟩
set_option maxHeartbeats 800000 in
set_option maxRecDepth 100000 in
theorem numberOf_any (a : Option Addr) (zs : List Int) (cap p : Nat) (w : World) (hz : zs.length ≤ 140737488355328) (hb : MC.BytesAt w p a zs) :
    Calls Tryd.prog 10 #[.slice a zs.length cap] w fun e w' => ∃ n : Nat, e = .returned (.int .i64 (n : Int)) ∧ n < 1000003 ∧ w = w' := by
  go_enter Tryd.func10, Tryd.ntmps10
  go_wp2
  go_loop [3, 5, 8] (fun nv _ iv => ∃ n k : Nat, nv = .int .i64 n ∧ iv = .int .i64 k ∧ n < 1000003 ∧ k ≤ zs.length) (fun _ _ iv => (zs.length - intOf iv).toNat)
  case atStart => exact ⟨0, 0, rfl, rfl, by omega, by omega⟩
  case round =>
    obtain ⟨n, k, rfl, rfl, hn, hk⟩ := hrel
    by_cases hl : k < zs.length
    · obtain ⟨b, off, z, rfl, hbp, hc, h0, h1⟩ := hb.at hl
      clear hb
      obtain ⟨m, rfl⟩ := Int.eq_ofNat_of_zero_le h0
      go_wp2
      go_round
      case rel => exact ⟨(31 * n + m) % 1000003, k + 1, by go_num, by go_num, by omega, by omega⟩
      case measure => simp [intOf]; omega
    · go_wp2
      go_ret
      exact ⟨n, rfl, hn, rfl⟩
end Go.Proofs.YtapojeehidhhnaaDoor
