/- The laws' toHoldS copies a slice; szHoldS is a bound on it. -/
import Derived.Test.YtfkmnmiolnijaaaRows
import Derived.Test.YtfkmnmiolnijaaaMI2
import Derived.WalkKit
import Derived.WalkSpells
import Derived.WalkLawsBesides
import Derived.Outline
import Derived.Deep.RegionWith
namespace Go.Proofs.Ytfkmnmiolnijaaa
open Go.RowKit
theorem Try.infoHold : (Try.prog.info? 61).map (fun i => (i.zero, i.size, i.bytes)) = some (some (.agg #[.int .i64 0, .int .i64 0]), 2, 16) := by kernel_rfl
set_option maxHeartbeats 1600000 in
set_option maxRecDepth 100000 in
theorem toHold_any (x : I2) (w : World) : Calls Try.prog 67 #[x.v] w fun e w' => e = .returned x.v ∧ Below w.heap.size w w' := by
  obtain ⟨x0, x1⟩ := x
  go_enter Try.func67, Try.ntmps67
  go_wp2
  exact bodyPost_ret (v := .agg #[.int .i64 x0, .int .i64 x1]) (by simp [results, Try.results67, go_sem]) rfl ⟨rfl, (((Below.refl _ w).alloc (Nat.le_refl _) _).alloc (by simp) _).alloc (by simp; omega) _⟩
set_option maxHeartbeats 1600000 in
set_option maxRecDepth 100000 in
theorem toHoldS_any (a : Option Addr) (cap : Nat) (xs : List I2) (w : World) (hz : xs.length ≤ 1048576) (hin : MI2.RowAt w a xs) :
    Calls Try.prog 54 #[.slice a xs.length cap] w fun e w' => ∃ g, e = .returned (.slice (some ⟨g, 0, none⟩) xs.length xs.length) ∧ w'.ownsRow w.heap.size 61 2 (.slice (some ⟨g, 0, none⟩) xs.length xs.length) xs.length (MI2.flat xs) ∧ Below w.heap.size w w' := by
  obtain ⟨i0, hi, hz0, hz1, hz2⟩ := info_parts Try.infoHold
  go_enter Try.func54, Try.ntmps54
  go_wp2_with (at_make; refine wpList_make_full _ rfl _ _ 48 rfl w.heap.size 61 i0 (.agg #[.int .i64 0, .int .i64 0]) 2 Try.underlying48 hi hz0 hz1 .i64 .i64 _ _ xs.length rfl rfl rfl rfl ?_ ?_ ?_ ?_)
  · rw [hz2]; omega
  · unfold maxLen; omega
  · omega
  intro w1 hown hgrow
  have hb1 : Below w.heap.size w w1 := (Below.refl _ _).grown hgrow (Nat.le_refl _) (fun k hk => by cases hk)
  have hml := hown.1
  generalize (madeCells _ _).toList = m at *
  rw [← MI2.mix_zero xs m] at hown
  have HM : Hid (m.length = xs.length * 2) := hml
  clear hgrow hi hz0 hz1 hz2 hml
  go_wp2_with fail
  go_loopw [4] (fun iv wr => ∃ k : Nat, iv = .int .i64 k ∧ k ≤ xs.length ∧ wr.ownsRow w.heap.size 61 2 (.slice (some ⟨w.heap.size, 0, none⟩) xs.length xs.length) xs.length (MI2.mix xs m k) ∧ Below w.heap.size w wr) (fun iv _ => (xs.length - intOf iv).toNat)
  case atStart => exact ⟨0, rfl, by omega, hown, hb1⟩
  case round =>
    clear hown hb1
    obtain ⟨k, rfl, hk, hown, hb⟩ := hrel
    by_cases hl : k < xs.length
    · obtain ⟨b, off, rfl, hlt, c0, c1⟩ := (hin.below hb).at hl
      obtain ⟨x, hx⟩ : ∃ x, MI2.at_ xs k = x := ⟨_, rfl⟩
      rw [hx] at c0 c1
      have HX : Hid (MI2.at_ xs k = x) := hx
      clear hx
      obtain ⟨x0, x1⟩ := x
      go_wp2_with fail
      refine (toHold_any ⟨x0, x1⟩ _).mono ?_
      rintro e w2 ⟨rfl, hb2⟩
      have hown2 := MI2.own_below hown hb2
      have hB2 := hb.trans (hb2.mono hb.size)
      have hlen := MI2.mix_len xs m k HM.out (by omega)
      obtain ⟨y0, q0⟩ : ∃ y, w2.cell? ⟨w.heap.size, k * 2, none⟩ = some y := MI2.some_at hown2 _ (by omega)
      obtain ⟨y1, q1⟩ : ∃ y, w2.cell? ⟨w.heap.size, k * 2 + 1, none⟩ = some y := MI2.some_at hown2 _ (by omega)
      have z0 := hown2.frozenAt (k * 2)
      have z1 := hown2.frozenAt (k * 2 + 1)
      have HO : Hid _ := hown2
      clear hown hown2 hb2 hb hlen c0 c1 hin
      have s0 := World.ownsRow.stored HO.out (k * 2) (.int .i64 x0)
      have s1 := s0.1.stored (k * 2 + 1) (.int .i64 x1)
      have hm := MI2.mix_set xs m k HM.out hl
      rw [HX.out] at hm
      have R1 := s1.1
      rw [hm] at R1
      have R2 := ((hB2.grown s0.2 (hB2.size) (fun j hj => by simp at hj; omega)).grown s1.2 (Nat.le_trans (hB2.size) s0.2.size) (fun j hj => by simp at hj; omega))
      clear s0 s1 hm HO hB2
      go_wp2
      go_roundw
      case rel => exact ⟨k + 1, by go_num, by omega, R1, R2⟩
      case measure => simp [intOf]; omega
    · obtain rfl : k = xs.length := by omega
      have hown' := hown
      rw [MI2.mix_all _ _ HM.out] at hown'
      clear hown hin
      go_wp2
      go_ret
      exact ⟨w.heap.size, rfl, hown', hb⟩
set_option maxHeartbeats 1600000 in
set_option maxRecDepth 100000 in
theorem szHoldS_any (a : Option Addr) (cap : Nat) (n : Nat) (w : World) (left : Int) (h0 : 0 ≤ left) (h1 : left ≤ 1048576) (hl : n ≤ maxLen) :
    Calls Try.prog 53 #[.slice a n cap, .int .i64 left] w fun e w' => ∃ r : Int, e = .returned (.int .i64 r) ∧ (r < 0 ∨ (0 ≤ r ∧ r ≤ left ∧ (n : Int) ≤ left)) ∧ w = w' := by
  unfold maxLen at hl
  by_cases h : left - (n : Int) < 0
  · go_enter Try.func53, Try.ntmps53
    go_wp2
    go_ret
    exact ⟨-1, rfl, .inl (by omega), rfl⟩
  · go_enter Try.func53, Try.ntmps53
    go_wp2
    go_ret
    exact ⟨left - n, rfl, .inr (by omega), rfl⟩
end Go.Proofs.Ytfkmnmiolnijaaa
