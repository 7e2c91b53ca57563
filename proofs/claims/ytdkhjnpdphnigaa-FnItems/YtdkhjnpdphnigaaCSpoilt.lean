/- The walk of the cursor's spoilt: some text, at most two bytes longer. -/
import Derived.Test.YtdkhjnpdphnigaaCPick
import Derived.Test.YtdkhjnpdphnigaaM2
namespace Go.Proofs.Ytdkhjnpdphnigaa
open Go.RowKit
theorem bsize_one (x : UInt8) : (⟨#[x]⟩ : ByteArray).size = 1 := rfl
set_option maxHeartbeats 1600000 in
set_option maxRecDepth 100000 in
theorem spoilt_any (p : Nat) (a : Option Addr) (zs : List Int) (cap M : Nat) (t0 wi : ByteArray) (w : World) (hz : zs.length ≤ 140737488355328) (hM : M ≤ 140737488330000) (hc : MC.Cur w p a zs cap M) (ht : t0.size ≤ 1048576) (hw0 : 0 < wi.size) (hw : wi.size ≤ 1000) :
    Calls Try.prog 34 #[.pointer (some ⟨p, 0, none⟩), .string t0, .string wi] w fun e w' => ∃ t : ByteArray, e = .returned (.string t) ∧ t.size ≤ t0.size + 2 ∧ MC.Cur w' p a zs cap (M + 20) ∧ MC.Only p w w' := by
  have hcv := M2.conv1 (P := Try.prog) 22 9 5 Try.underlying22 Try.underlying5 Try.underlying9
  have hplt := hc.lt
  go_enter Try.func34, Try.ntmps34
  go_wp2_with fail
  refine (pick_any p a zs cap M _ _ hz (by omega) hc).mono ?_
  rintro e w1 ⟨r, rfl, hr, _, hc1, ho1⟩
  have hr3 : r < 3 := by omega
  clear hr hc
  go_wp2_with fail
  go_loopw [1, 7, 8, 9] (fun tv nv iv wv wr => ∃ (m : Nat) (t : ByteArray) (M' : Nat), tv = .string t ∧ nv = .int .i64 m ∧ t.size + m ≤ t0.size + 2 ∧ MC.Cur wr p a zs cap M' ∧ M' + 8 * m ≤ M + 20 ∧ MC.Only p w wr) (fun _ nv _ _ _ => (intOf nv).toNat)
  case atStart => exact ⟨r, t0, M + 2, rfl, rfl, by omega, hc1, by omega, ho1⟩
  case round =>
    clear hc1 ho1
    obtain ⟨m, t, M', rfl, rfl, hm, hcr, hMr, hor⟩ := hrel
    by_cases hm0 : 0 < m
    · by_cases hts : 0 < t.size
      · go_wp2_with fail
        refine (pick_any p a zs cap M' _ _ hz (by omega) hcr).mono ?_
        rintro e w2 ⟨i, rfl, hi, _, hc2, ho2⟩
        have hi' : i < t.size := by omega
        have ho2' := hor.trans ho2
        clear hi hcr hor ho2
        go_wp2_with fail
        refine (pick_any p a zs cap (M' + 2) _ _ hz (by omega) hc2).mono ?_
        rintro e w3 ⟨j, rfl, hj, _, hc3, ho3⟩
        have hj' : j < wi.size := by omega
        have ho3' := ho2'.trans ho3
        clear hj hc2 ho2' ho3
        go_wp2_with fail
        refine (pick_any p a zs cap (M' + 4) _ _ hz (by omega) (hc3.alloc _)).mono ?_
        rintro e w4 ⟨k, rfl, hk, _, hc4, ho4⟩
        have hk3 : k < 3 := by omega
        have ho4' := (ho3'.alloc _).trans ho4
        clear hk hc3 ho3' ho4
        have hk' : k = 0 ∨ k = 1 ∨ k = 2 := by omega
        rcases hk' with rfl | rfl | rfl
        · go_wp2
          go_quiet (fail)
          go_wp2
          go_roundw
          case rel => exact ⟨m - 1, _, M' + 6, rfl, by go_num, by simp [bsize_one]; omega, hc4.below (below_drewN (Below.refl _ _) _), by omega, ho4'.drewN _⟩
          case measure => simp [intOf]; omega
        · go_wp2
          go_quiet (fail)
          go_wp2
          go_roundw
          case rel => exact ⟨m - 1, _, M' + 6, rfl, by go_num, by simp [bsize_one]; omega, hc4.below (below_drewN (Below.refl _ _) _), by omega, ho4'.drewN _⟩
          case measure => simp [intOf]; omega
        · go_wp2
          go_quiet (fail)
          go_wp2
          go_roundw
          case rel => exact ⟨m - 1, _, M' + 6, rfl, by go_num, by simp; omega, hc4.below (below_drewN (Below.refl _ _) _), by omega, ho4'.drewN _⟩
          case measure => simp [intOf]; omega
      · have hts0 : t.size = 0 := by omega
        go_wp2
        go_ret
        exact ⟨t, rfl, by omega, hcr.more (by omega), hor⟩
    · go_wp2
      go_ret
      exact ⟨t, rfl, by omega, hcr.more (by omega), hor⟩
end Go.Proofs.Ytdkhjnpdphnigaa
