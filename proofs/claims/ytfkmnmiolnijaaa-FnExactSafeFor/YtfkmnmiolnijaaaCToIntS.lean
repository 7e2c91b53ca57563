/- The laws' toIntS copies a slice of numbers. -/
import Derived.Test.YtfkmnmiolnijaaaRows
import Derived.Test.YtfkmnmiolnijaaaMInfo
import Derived.Test.YtfkmnmiolnijaaaM4
import Derived.WalkKit
import Derived.WalkSpells
import Derived.WalkLawsBesides
import Derived.Outline
namespace Go.Proofs.Ytfkmnmiolnijaaa
open Go.RowKit
set_option maxHeartbeats 800000 in
set_option maxRecDepth 100000 in
theorem toIntS_any (a : Option Addr) (cap : Nat) (zs : List Int) (w : World) (hz : zs.length ≤ 1048576) (hin : M4.IntsAt w a zs) :
    Calls Try.prog 21 #[.slice a zs.length cap] w fun e w' => e = .returned (.slice (some ⟨w.heap.size, 0, none⟩) zs.length zs.length) ∧ M4.IntsAt w' (some ⟨w.heap.size, 0, none⟩) zs ∧ Below w.heap.size w w' := by
  obtain ⟨i0, hi, hz0, hz1, hz2⟩ := info_parts Try.info3
  go_enter Try.func21, Try.ntmps21
  go_wp2_with (at_make; refine wpList_make_full _ rfl _ _ 22 rfl w.heap.size 3 i0 (.int .i64 0) 1 Try.underlying22 hi hz0 hz1 .i64 .i64 _ _ zs.length rfl rfl rfl rfl ?_ ?_ ?_ ?_)
  · rw [hz2]; omega
  · unfold maxLen; omega
  · omega
  intro w1 hown hgrow
  rw [M4.made_iv, ← M4.mix_zero] at hown
  have hb1 : Below w.heap.size w w1 := (Below.refl _ _).grown hgrow (Nat.le_refl _) (fun k hk => by cases hk)
  have hin1 := hin.below hb1
  clear hgrow hi hz0 hz1 hz2
  go_wp2_with fail
  go_loopw [4] (fun iv wr => ∃ k : Nat, iv = .int .i64 k ∧ k ≤ zs.length ∧ wr.ownsRow w.heap.size 3 1 (.slice (some ⟨w.heap.size, 0, none⟩) zs.length zs.length) zs.length (M4.iv (M4.mix zs k)) ∧ Below w.heap.size w wr) (fun iv _ => (zs.length - intOf iv).toNat)
  case atStart => exact ⟨0, rfl, by omega, hown, hb1⟩
  case round =>
    clear hown hb1 hin1
    obtain ⟨k, rfl, hk, hown, hb⟩ := hrel
    by_cases hl : k < zs.length
    · obtain ⟨b, off, rfl, hlt, hc⟩ := (hin.below hb).at hl
      have hcell : wr.cell? ⟨w.heap.size, k, none⟩ = some (.int .i64 0) := by
        rw [hown.cellAt k (by omega)]; exact M4.iv_get _ _ _ (M4.mix_get zs k hl)
      have hfz := hown.frozenAt k
      have hst := hown.stored k (.int .i64 (zs[k]'hl))
      have e : zs.getD k 0 = zs[k]'hl := by simp [List.getD_eq_getElem?_getD, List.getElem?_eq_getElem hl]
      rw [M4.iv_set, ← e, M4.mix_set zs k hl, e] at hst
      have R1 := hst.1
      have R2 := hb.grown hst.2 hb.size (fun j hj => by simp at hj; omega)
      clear hst e hown
      go_wp2
      go_roundw
      case rel => exact ⟨k + 1, by go_num, by omega, R1, R2⟩
      case measure => simp [intOf]; omega
    · obtain rfl : k = zs.length := by omega
      have hown' := hown
      rw [M4.mix_all] at hown'
      have hfin := M4.IntsAt.of_own hown'
      clear hown hown' hin
      go_wp2
      go_ret
      exact ⟨rfl, hfin, hb⟩
end Go.Proofs.Ytfkmnmiolnijaaa
