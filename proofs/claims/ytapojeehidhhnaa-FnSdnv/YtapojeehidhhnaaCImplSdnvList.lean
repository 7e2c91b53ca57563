/- impl.SdnvList at every slice of at most 1048576 numbers. -/
import Derived.Test.YtapojeehidhhnaaRows
import Derived.Test.YtapojeehidhhnaaSlF
import Derived.Test.YtapojeehidhhnaaCIsNumber
import Derived.Test.YtapojeehidhhnaaCAppendSdnv
import Derived.WalkKit
import Derived.WalkSpells
import Derived.WalkLawsBesides
import Derived.Outline
namespace Go.Proofs.Ytapojeehidhhnaa
open Go.RowKit
set_option maxHeartbeats 800000 in
set_option maxRecDepth 100000 in
theorem implSdnvList_any (a : Option Addr) (cap : Nat) (zs : List Int) (w : World) (hz : zs.length ≤ 1048576) (hin : M4.IntsAt w a zs) :
    Calls Try.prog 5 #[.slice a zs.length cap] w fun e w' => e = .returned (.tuple #[.string (slStr zs), .bool (slOk zs)]) ∧ Below w.heap.size w w' := by
  by_cases h40 : zs.length ≤ 40
  · go_enter Try.func5, Try.ntmps5
    go_wp2
    go_loopw [4, 6, 12] (fun sv nv iv wr => ∃ (k : Nat) (l : List UInt8), wr.ownsRow w.heap.size 5 1 sv l.length (M2.bv l) ∧ iv = .int .i64 k ∧ k ≤ zs.length ∧ l.length ≤ 5 * k ∧ Hid (l = sl (zs.take k)) ∧ Hid ((zs.take k).all okN = true) ∧ Below w.heap.size w wr) (fun _ _ iv _ => (zs.length - intOf iv).toNat)
    case atStart => exact ⟨0, [], World.ownsRow_nil _ _ _ _, rfl, by omega, by simp, rfl, rfl, Below.refl _ _⟩
    case round =>
      obtain ⟨k, l, hown, rfl, hk, hl5, HL, HA, hb⟩ := hrel
      by_cases hl : k < zs.length
      · obtain ⟨b, off, rfl, hlt, hc⟩ := (hin.below hb).at hl
        have hbs := hb.size
        obtain ⟨z, hz'⟩ : ∃ z, z = zs.getD k 0 := ⟨_, rfl⟩
        rw [← hz'] at hc
        have HZ : Hid (z = zs.getD k 0) := hz'
        clear hz'
        by_cases h : 0 ≤ z ∧ z ≤ 1000000000
        · have h1 := (okN_yes h).1
          have HA' : Hid ((zs.take (k + 1)).all okN = true) := all_snoc zs k hl HA.out (by rw [← HZ.out]; exact h1)
          have HL' : Hid (l ++ M1.sdnv z.toNat = sl (zs.take (k + 1))) := by
            show _ = _
            rw [sl_snoc zs k hl, HL.out, HZ.out]
          obtain ⟨m, rfl⟩ := Int.eq_ofNat_of_zero_le h.1
          have hm : m ≤ 1000000000 := by omega
          have hlen := M1.sdnv_len m hm
          rw [Int.toNat_natCast] at HL'
          clear h
          go_wp2_with (first
            | (go_at_call 14; refine (isNumber_any _ _).mono ?_; rintro e w' ⟨rfl, rfl⟩)
            | (go_at_call 15; refine (appendSdnv_any m w.heap.size _ l _ hm (by omega) hbs hown).mono ?_; rintro e w1 ⟨v1, rfl, hown1, hb1⟩))
          go_roundw
          case rel => exact ⟨k + 1, l ++ M1.sdnv m, hown1, by go_num, by omega, by simp; omega, HL', HA', hb.trans hb1⟩
          case measure => simp [intOf]; omega
        · have h1 := (okN_no h).1
          have hF : Hid (slOk zs = false) := slOk_at zs k hl (by rw [← HZ.out]; exact h1)
          clear h
          go_wp2_with (first
            | (go_at_call 14; refine (isNumber_any _ _).mono ?_; rintro e w' ⟨rfl, rfl⟩))
          go_ret2
          exact ⟨ret_sb (slOk_no _ hF.out).symm hF.out.symm, hb⟩
      · obtain rfl : k = zs.length := by omega
        have HS : Hid (l = sl zs) := by have := HL.out; rw [List.take_length] at this; exact this
        have hF : Hid (slOk zs = true) := slOk_all zs h40 HA.out
        have hcv := M2.conv_own (P := Try.prog) 22 9 5 Try.underlying22 Try.underlying5 Try.underlying9 hown
        go_wp2
        go_ret2
        exact ⟨ret_sb (by rw [slOk_yes _ hF.out, HS.out]) hF.out.symm, hb⟩
  · have hF : Hid (slOk zs = false) := slOk_long zs (by omega)
    go_enter Try.func5, Try.ntmps5
    go_wp2
    go_ret2
    exact ⟨ret_sb (slOk_no _ hF.out).symm hF.out.symm, Below.refl _ _⟩
end Go.Proofs.Ytapojeehidhhnaa
