/- The specification's SdnvList at every slice of at most 1048576 numbers. -/
import Derived.Test.YtapojeehidhhnaaRows
import Derived.Test.YtapojeehidhhnaaSlF
import Derived.Test.YtapojeehidhhnaaCL1Value
import Derived.Test.YtapojeehidhhnaaCL1Sdnv
import Derived.WalkKit
import Derived.WalkSpells
import Derived.WalkLawsBesides
import Derived.Outline
namespace Go.Proofs.Ytapojeehidhhnaa
open Go.RowKit
set_option maxHeartbeats 800000 in
set_option maxRecDepth 100000 in
theorem specSdnvList_any (a : Option Addr) (cap : Nat) (zs : List Int) (w : World) (hz : zs.length ≤ 1048576) (hin : M4.IntsAt w a zs) :
    Calls Try.prog 6 #[.slice a zs.length cap] w fun e w' => e = .returned (.tuple #[.string (slStr zs), .bool (slOk zs)]) ∧ Below w.heap.size w w' := by
  go_enter Try.func6, Try.ntmps6
  go_wp2
  go_loopw [4, 6, 9] (fun sv nv iv wr => ∃ (k : Nat) (l : List UInt8), sv = .string ⟨l.toArray⟩ ∧ iv = .int .i64 k ∧ k ≤ zs.length ∧ l.length ≤ 5 * k ∧ Hid (l = sl (zs.take k)) ∧ Hid ((zs.take k).all okN = true) ∧ Below w.heap.size w wr) (fun _ _ iv _ => (zs.length - intOf iv).toNat)
  case atStart => exact ⟨0, [], rfl, rfl, by omega, by simp, rfl, rfl, Below.refl _ _⟩
  case round =>
    obtain ⟨k, l, rfl, rfl, hk, hl5, HL, HA, hb⟩ := hrel
    by_cases hl : k < zs.length
    · obtain ⟨b, off, rfl, hlt, hc⟩ := (hin.below hb).at hl
      have hbs := hb.size
      obtain ⟨z, hz'⟩ : ∃ z, z = zs.getD k 0 := ⟨_, rfl⟩
      rw [← hz'] at hc
      have HZ : Hid (z = zs.getD k 0) := hz'
      clear hz'
      by_cases h : 0 ≤ z ∧ z ≤ 1000000000
      · obtain ⟨h1, _⟩ := okN_yes h
        have HA' : Hid ((zs.take (k + 1)).all okN = true) := all_snoc zs k hl HA.out (by rw [← HZ.out]; exact h1)
        have HL' : Hid (l ++ M1.sdnv z.toNat = sl (zs.take (k + 1))) := by
          show _ = _
          rw [sl_snoc zs k hl, HL.out, HZ.out]
        obtain ⟨m, rfl⟩ := Int.eq_ofNat_of_zero_le h.1
        have hm : m ≤ 1000000000 := by omega
        have hlen := M1.sdnv_len m hm
        rw [Int.toNat_natCast] at HL'
        clear h
        go_wp2_with (first
          | (go_at_call 16; refine (l1Value_any _ _).mono ?_; rintro e w' ⟨rfl, rfl⟩)
          | (go_at_call 17; refine (l1Sdnv_any m _ hm).mono ?_; rintro e w1 ⟨rfl, hb1⟩))
        go_roundw
        case rel => exact ⟨k + 1, l ++ M1.sdnv m, congrArg Value.string (M1.bs_app _ _), by go_num, by omega, by simp; omega, HL', HA', hb.trans (hb1.mono hb.size)⟩
        case measure => simp [intOf]; omega
      · obtain ⟨h1, _⟩ := okN_no h
        have hF : Hid (slOk zs = false) := slOk_at zs k hl (by rw [← HZ.out]; exact h1)
        clear h
        go_wp2_with (first
          | (go_at_call 16; refine (l1Value_any _ _).mono ?_; rintro e w' ⟨rfl, rfl⟩))
        go_ret2
        exact ⟨ret_sb (slOk_no _ hF.out).symm hF.out.symm, hb⟩
    · obtain rfl : k = zs.length := by omega
      have HS : Hid (l = sl zs) := by have := HL.out; rw [List.take_length] at this; exact this
      by_cases h40 : zs.length ≤ 40
      · have hF : Hid (slOk zs = true) := slOk_all zs h40 HA.out
        go_wp2
        go_ret2
        exact ⟨ret_sb (by rw [slOk_yes _ hF.out, HS.out]) hF.out.symm, hb⟩
      · have hF : Hid (slOk zs = false) := slOk_long zs (by omega)
        go_wp2
        go_ret2
        exact ⟨ret_sb (slOk_no _ hF.out).symm hF.out.symm, hb⟩
end Go.Proofs.Ytapojeehidhhnaa
