/- The law FnExactReadSdnvs answers true at every text. -/
import Derived.Test.YtapojeehidhhnaqCReadSdnvs
import Derived.Test.YtapojeehidhhnaqCEqIntS
import Derived.Test.YtapojeehidhhnaqCMarkIntS
namespace Go.Proofs.Ytapojeehidhhnaq
open Go.RowKit
set_option maxHeartbeats 1600000 in
set_option maxRecDepth 100000 in
theorem lawRead_any (s : ByteArray) (w : World) (hs0 : s.size ≤ maxLen) :
    Calls Try.prog 3 #[.string s] w fun e w' => e = .returned (.bool true) ∧ Below w.heap.size w w' := by
  have hs := hs0
  unfold maxLen at hs
  have hrl := M5.readF_len s
  by_cases h1 : s.size ≤ 1048576
  · go_enter Try.func3, Try.ntmps3
    go_wp2_with fail
    refine (specRead_any s _ hs0).mono ?_
    rintro e w1 ⟨a0, cap0, rfl, own0, B1⟩
    go_wp2_with fail
    refine (implRead_any s _ hs0).mono ?_
    rintro e w2 ⟨a1, cap1, rfl, own1, B2⟩
    obtain ⟨zs, hzs⟩ : ∃ zs, zs = (M5.readF s).1 := ⟨_, rfl⟩
    obtain ⟨ok, hok⟩ : ∃ ok, ok = (M5.readF s).2 := ⟨_, rfl⟩
    rw [← hzs] at own0 own1 hrl ⊢
    rw [← hok]
    have HZ : Hid (zs = (M5.readF s).1) := hzs
    have HO : Hid (ok = (M5.readF s).2) := hok
    clear hzs hok
    have in0 := M5.own_ints own0
    have in1 := M5.own_ints own1
    clear own0
    go_wp2_with fail
    refine (eqIntS_any _ _ _ _ zs zs _ (by omega) (by omega) in1 (in0.below B2)).mono ?_
    rintro e w3 ⟨rfl, B3⟩
    have own3 := M5.own_below own1 B3
    have C3 := B2.trans (B3.mono B2.size)
    clear in1 own1 B2 B3
    go_wp2_with fail
    refine (markIntS_any w1.heap.size _ zs 1 _ (by omega) (by omega) (by omega) C3.size own3).mono ?_
    rintro e w4 ⟨rfl, own4, B4⟩
    have C4 := C3.trans B4
    have in4 := M5.own_ints own4
    clear own3 own4 B4 C3
    go_wp2_with fail
    refine (heldIntS_any _ _ zs.length 1 _ (by omega) (by omega) (by omega) in4).mono ?_
    rintro e w' ⟨rfl, rfl⟩
    go_wp2_with fail
    refine (implRead_any s _ hs0).mono ?_
    rintro e w5 ⟨a2, cap2, rfl, own5, B5⟩
    rw [← HZ.out] at own5 ⊢
    rw [← HO.out]
    have in5 := M5.own_ints own5
    have C5 := C4.trans (B5.mono C4.size)
    have in4' := in4.below B5
    clear own5 in4 C4
    go_wp2_with fail
    refine (eqIntS_any _ _ _ _ zs zs _ (by omega) (by omega) in5 (in0.below C5)).mono ?_
    rintro e w6 ⟨rfl, B6⟩
    have C6 := C5.trans (B6.mono C5.size)
    have in6 := in4'.below B6
    clear in4' in5 C5 B6 B5 in0
    go_wp2_with fail
    refine (heldIntS_any _ _ zs.length 1 _ (by omega) (by omega) (by omega) in6).mono ?_
    rintro e w' ⟨rfl, rfl⟩
    go_wp2
    go_ret
    exact ⟨rfl, B1.trans (C6.mono B1.size)⟩
  · go_enter Try.func3, Try.ntmps3
    go_wp2
    go_ret
    exact ⟨rfl, Below.refl _ _⟩
end Go.Proofs.Ytapojeehidhhnaq
