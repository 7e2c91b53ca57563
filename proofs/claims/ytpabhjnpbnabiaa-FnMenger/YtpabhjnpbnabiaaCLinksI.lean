/- Links as pipes: pipesOfOne of the program. -/
import Derived.Test.YtpabhjnpbnabiaaRows
import Derived.Test.YtpabhjnpbnabiaaMLK
import Derived.Test.YtpabhjnpbnabiaaM5
import Derived.WalkKit
import Derived.WalkSpells
import Derived.WalkLawsBesides
import Derived.Outline
namespace Go.Proofs.Ytpabhjnpbnabiaa
open Go.RowKit
theorem Try.infoPipe9 : (Try.prog.info? 68).map (fun i => (i.zero, i.size, i.bytes)) = some (some (.agg #[.int .i64 0, .int .i64 0, .int .i64 0]), 3, 24) := by kernel_rfl
set_option maxHeartbeats 1600000 in
set_option maxRecDepth 100000 in
theorem pipesOfOne_any (a : Option Addr) (cap : Nat) (xs : List I2) (w : World) (hz : xs.length ≤ 1048576) (hin : MI2.RowAt w a xs) :
    Calls Try.prog 21 #[.slice a xs.length cap] w fun e w' => ∃ g, e = .returned (.slice (some ⟨g, 0, none⟩) xs.length xs.length) ∧ w'.ownsRow w.heap.size 68 3 (.slice (some ⟨g, 0, none⟩) xs.length xs.length) xs.length (MI3.flat (LK.pip xs)) ∧ Below w.heap.size w w' := by
  obtain ⟨i0, hi, hz0, hz1, hz2⟩ := info_parts Try.infoPipe9
  go_enter Try.func21, Try.ntmps21
  go_wp2_with (at_make; refine wpList_make_full _ rfl _ _ 50 rfl w.heap.size 68 i0 (.agg #[.int .i64 0, .int .i64 0, .int .i64 0]) 3 Try.underlying50 hi hz0 hz1 .i64 .i64 _ _ xs.length rfl rfl rfl rfl ?_ ?_ ?_ ?_)
  · rw [hz2]; omega
  · unfold maxLen; omega
  · omega
  intro w1 hown hgrow
  have hb1 : Below w.heap.size w w1 := (Below.refl _ _).grown hgrow (Nat.le_refl _) (fun k hk => by cases hk)
  have hml := hown.1
  generalize (madeCells _ _).toList = m at *
  rw [← MI3.mix_zero (LK.pip xs) m] at hown
  have HM : Hid (m.length = (LK.pip xs).length * 3) := by show _ = _; rw [LK.pip_len]; exact hml
  clear hgrow hi hz0 hz1 hz2 hml
  go_wp2_with fail
  go_loopw [11] (fun iv wr => ∃ k : Nat, iv = .int .i64 k ∧ k ≤ xs.length ∧ wr.ownsRow w.heap.size 68 3 (.slice (some ⟨w.heap.size, 0, none⟩) xs.length xs.length) xs.length (MI3.mix (LK.pip xs) m k) ∧ Below w.heap.size w wr) (fun iv _ => (xs.length - intOf iv).toNat)
  case atStart => exact ⟨0, rfl, by omega, hown, hb1⟩
  case round =>
    clear hown hb1
    obtain ⟨k, rfl, hk, hown, hb⟩ := hrel
    by_cases hl : k < xs.length
    · obtain ⟨b, off, rfl, hlt, c0, c1⟩ := (hin.below hb).at hl
      have hlp : k < (LK.pip xs).length := by rw [LK.pip_len]; exact hl
      have HX : Hid (MI3.at_ (LK.pip xs) k = LK.pip1 (MI2.at_ xs k)) := LK.pip_at xs k hl
      generalize MI2.at_ xs k = x at *
      obtain ⟨x0, x1⟩ := x
      have hlen := MI3.mix_len (LK.pip xs) m k HM.out (by omega)
      rw [LK.pip_len] at hlen
      have hglt := (hown.lt w.heap.size rfl).2
      obtain ⟨y0, q0⟩ : ∃ y, wr.cell? ⟨w.heap.size, k * 3, none⟩ = some y := MI3.some_at hown _ (by omega)
      obtain ⟨y1, q1⟩ : ∃ y, wr.cell? ⟨w.heap.size, k * 3 + 1, none⟩ = some y := MI3.some_at hown _ (by omega)
      obtain ⟨y2, q2⟩ : ∃ y, wr.cell? ⟨w.heap.size, k * 3 + 2, none⟩ = some y := MI3.some_at hown _ (by omega)
      have z0 := hown.frozenAt (k * 3)
      have z1 := hown.frozenAt (k * 3 + 1)
      have z2 := hown.frozenAt (k * 3 + 2)
      have HO : Hid _ := hown
      clear hown hlen hin
      have s0 := World.ownsRow.stored HO.out (k * 3) (.int .i64 x0)
      have s1 := s0.1.stored (k * 3 + 1) (.int .i64 x1)
      have s2 := s1.1.stored (k * 3 + 2) (.int .i64 1)
      have hm := MI3.mix_set (LK.pip xs) m k HM.out hlp
      rw [HX.out] at hm
      simp only [LK.pip1] at hm
      have R0 := s2.1
      rw [hm] at R0
      have R1 := R0.alloc (.cells #[.int .i64 x0, .int .i64 x1] 59)
      have R2 := (((hb.grown s0.2 (hb.size) (fun j hj => by simp at hj; omega)).grown s1.2 (Nat.le_trans (hb.size) s0.2.size) (fun j hj => by simp at hj; omega)).grown s2.2 (Nat.le_trans (Nat.le_trans (hb.size) s0.2.size) s1.2.size) (fun j hj => by simp at hj; omega)).alloc (Nat.le_trans (Nat.le_trans (Nat.le_trans (hb.size) s0.2.size) s1.2.size) s2.2.size) (.cells #[.int .i64 x0, .int .i64 x1] 59)
      clear s0 s1 s2 hm HO hb R0
      go_wp2
      go_roundw
      case rel => exact ⟨k + 1, by go_num, by omega, R1, R2⟩
      case measure => simp [intOf]; omega
    · obtain rfl : k = xs.length := by omega
      have hown' := hown
      rw [show MI3.mix (LK.pip xs) m xs.length = MI3.flat (LK.pip xs) from by rw [← LK.pip_len xs]; exact MI3.mix_all _ _ HM.out] at hown'
      clear hown hin
      go_wp2
      go_ret
      exact ⟨w.heap.size, rfl, hown', hb⟩
end Go.Proofs.Ytpabhjnpbnabiaa
