/- The law FnExactCutBundle answers true at every bundle and every number. -/
import Derived.Test.YtfppjpheklpplaaRows
import Derived.Test.YtfppjpheklpplaaCCutBI
import Derived.Test.YtfppjpheklpplaaCMarkB
import Derived.Test.YtfppjpheklpplaaCEqPile
import Derived.Test.YtfppjpheklpplaaCBundleLaw
import Derived.WalkKit
import Derived.WalkSpells
import Derived.WalkLawsBesides
import Derived.Outline
namespace Go.Proofs.Ytfppjpheklpplaa
open Go.RowKit
theorem Try.sizeBundleL : (Try.prog.info? 23).map (·.size) = some 10 := by kernel_rfl
theorem cutB_len {b : Bd} {x : Int} (hs : b.py.size ≤ 1048576) : (CB.res b x).length ≤ 1048576 := by
  by_cases h : CB.ok b x = true
  · obtain ⟨_, _, _, h1, _⟩ := CB.ok_is h
    obtain ⟨m, rfl⟩ := Int.eq_ofNat_of_zero_le (show 0 ≤ x by omega)
    rw [CB.res_yes h, CB.ls_len]
    have := CB.num_le (b := b) (m := m) (by omega)
    omega
  · rw [CB.res_no (by simpa using h)]; simp
set_option linter.unusedSimpArgs false in
set_option maxHeartbeats 1600000 in
set_option maxRecDepth 100000 in
theorem lawCutB_any (b : Bd) (x : Int) (w : World) (hs : b.py.size ≤ maxLen) :
    Calls Try.prog 3 #[.agg b.cs.toArray, .int .i64 x] w fun e w' => e = .returned (.bool true) ∧ Below w.heap.size w w' := by
  have SZ : Hid (∀ W : World, Calls Try.prog 8 #[.agg b.cs.toArray, .int .i64 1048576] W fun e w' => (∃ r : Int, e = .returned (.int .i64 r) ∧ (r < 0 ∨ (r = 1048576 - b.py.size ∧ 0 ≤ r))) ∧ Below W.heap.size W w') := fun W => szBundle_any b 1048576 W hs (by omega)
  have TB : Hid (∀ W : World, Calls Try.prog 10 #[.agg b.cs.toArray] W fun e w' => e = .returned (.agg b.cs.toArray) ∧ Below W.heap.size W w') := fun W => toBundle_any b W
  have HL : Hid (b.py.size ≤ 1048576 → (CB.res b x).length ≤ 1048576) := cutB_len
  have SG : Hid (b.py.size ≤ 1048576 → ∀ W : World, Calls Try.prog 9 #[.agg b.cs.toArray, .int .i64 x] W fun e w' => ∃ a cap, e = .returned (.tuple #[.slice a (CB.res b x).length cap, .bool (CB.ok b x)]) ∧ w'.ownsRow W.heap.size 28 10 (.slice a (CB.res b x).length cap) (CB.res b x).length (MP.flat (CB.res b x)) ∧ Below W.heap.size W w') := fun h W => specCutB_any b x W h
  have IG : Hid (b.py.size ≤ 1048576 → ∀ W : World, Calls Try.prog 11 #[.agg b.cs.toArray, .int .i64 x] W fun e w' => ∃ a cap, e = .returned (.tuple #[.slice a (CB.res b x).length cap, .bool (CB.ok b x)]) ∧ w'.ownsRow W.heap.size 28 10 (.slice a (CB.res b x).length cap) (CB.res b x).length (MP.flat (CB.res b x)) ∧ Below W.heap.size W w') := fun h W => implCutB_any b x W h
  generalize CB.res b x = xs at *
  generalize CB.ok b x = R at *
  have HEQ : Hid (∀ (hn : xs.length ≤ 1048576) (a a2 : Option Addr) (ca cb : Nat) (W : World) (_ : MP.BsAt W a xs) (_ : MP.BsAt W a2 xs), Calls Try.prog 12 #[.slice a xs.length ca, .slice a2 xs.length cb] W fun e w' => e = .returned (.bool true) ∧ Below W.heap.size W w') := fun hn a a2 ca cb W h1 h2 => eqBundleS_self a a2 ca cb xs W hn h1 h2
  have HMK : Hid (∀ (hn : xs.length ≤ 1048576) (a : Option Addr) (g cap : Nat) (W : World) (_ : xs.length = 0 ∨ (a = some ⟨g, 0, none⟩ ∧ MA.Rg W g 0 (MP.flat xs))), Calls Try.prog 13 #[.slice a xs.length cap, .int .i64 1] W fun e w' => e = .returned (.int .i64 ((1 + 10 * xs.length : Nat) : Int)) ∧ MC.Only g W w' ∧ (xs.length = 0 ∨ MA.Rg w' g 0 (MP.flat (mks 1 xs.length)))) := fun hn a g cap W h => markB_any a g xs.length cap 1 (MP.flat xs) W hn (by omega) (MP.flat_len xs) h
  have HHD : Hid (∀ (hn : xs.length ≤ 1048576) (a : Option Addr) (g cap : Nat) (W : World) (_ : xs.length = 0 ∨ (a = some ⟨g, 0, none⟩ ∧ MA.Rg W g 0 (MP.flat (mks 1 xs.length)))), Calls Try.prog 14 #[.slice a xs.length cap, .int .i64 1] W fun e w' => e = .returned (.int .i64 ((1 + 10 * xs.length : Nat) : Int)) ∧ Below W.heap.size W w') := fun hn a g cap W h => heldB_any a g xs.length cap 1 W hn (by omega) h
  have HV : Hid (∀ (W : World) (base : Nat) (a : Option Addr) (cap : Nat), W.ownsRow base 28 10 (.slice a xs.length cap) xs.length (MP.flat xs) → MP.BsAt W a xs) := fun W base a cap h => by
    obtain ⟨a', cap', hv, hx⟩ := CB.view h
    simp only [Value.slice.injEq] at hv
    rw [hv.1]; exact hx
  generalize MP.flat (mks 1 xs.length) = MK at *
  have r0 := MA.Rg.new w b.cs 23
  have hb : Below w.heap.size w (w.alloc (.cells b.cs.toArray 23)) := (Below.refl _ w).alloc (Nat.le_refl _) _
  have HR : Hid _ := And.intro r0 hb
  have HA : Hid _ := r0.rng
  clear r0 hb hs
  go_enter Try.func3, Try.ntmps3
  go_wp2_with (refine MA.load_r rfl 23 _ rfl rfl (cs := b.cs) ?_ Try.underlying23 rfl Try.sizeBundleL rfl ?_; exact HA.out)
  refine (SZ.out _).mono ?_
  rintro e w1 ⟨⟨r, rfl, hr⟩, hb1⟩
  replace HR : Hid _ := And.intro (HR.out.1.below hb1 HR.out.1.lt) (HR.out.2.trans (hb1.mono HR.out.2.size))
  clear hb1 SZ HA
  rcases hr with hr | ⟨hr1, hr2⟩
  · go_wp2
    go_ret
    exact ⟨rfl, HR.out.2⟩
  have HS : Hid (b.py.size ≤ 1048576) := show _ ≤ _ by omega
  have HN : Hid (xs.length ≤ 1048576) := HL.out HS.out
  clear hr1 HL
  have HA : Hid _ := HR.out.1.rng
  go_wp2_with (refine MA.load_r rfl 23 _ rfl rfl (cs := b.cs) ?_ Try.underlying23 rfl Try.sizeBundleL rfl ?_; exact HA.out)
  refine (TB.out _).mono ?_
  rintro e w2 ⟨rfl, hb1⟩
  replace HR : Hid _ := And.intro (HR.out.1.below hb1 HR.out.1.lt) (HR.out.2.trans (hb1.mono HR.out.2.size))
  clear hb1 HA
  go_wp2_with fail
  refine (SG.out HS.out _).mono ?_
  rintro e w3 ⟨a1, k1, rfl, own1, hb1⟩
  replace HR : Hid _ := And.intro (HR.out.1.below hb1 HR.out.1.lt) (HR.out.2.trans (hb1.mono HR.out.2.size))
  have HX3 : Hid (MP.BsAt w3 a1 xs) := HV.out _ _ _ _ own1
  clear hb1 own1 SG
  have HA : Hid _ := HR.out.1.rng
  go_wp2_with (refine MA.load_r rfl 23 _ rfl rfl (cs := b.cs) ?_ Try.underlying23 rfl Try.sizeBundleL rfl ?_; exact HA.out)
  refine (TB.out _).mono ?_
  rintro e w4 ⟨rfl, hb4⟩
  clear HA
  go_wp2_with fail
  refine (IG.out HS.out _).mono ?_
  rintro e w5 ⟨a2, k2, rfl, own2, hb5⟩
  have H35 : Hid (Below w3.heap.size w3 w5) := hb4.trans (hb5.mono hb4.size)
  have HX5 : Hid (MP.BsAt w5 a2 xs) := HV.out _ _ _ _ own2
  obtain ⟨g, hg0, hg1⟩ := CB.own_rg own2
  have HG : Hid (w3.heap.size ≤ g) := Nat.le_trans hb4.size hg0
  have HG1 : Hid (xs.length = 0 ∨ (a2 = some ⟨g, 0, none⟩ ∧ MA.Rg w5 g 0 (MP.flat xs))) := hg1
  clear hb4 hb5 own2 hg0 hg1
  go_wp2_with fail
  refine (HEQ.out HN.out _ _ _ _ _ HX5.out (HX3.out.below H35.out)).mono ?_
  rintro e w6 ⟨rfl, hb6⟩
  replace H35 : Hid (Below w3.heap.size w3 w6) := H35.out.trans (hb6.mono H35.out.size)
  replace HG1 : Hid (xs.length = 0 ∨ (a2 = some ⟨g, 0, none⟩ ∧ MA.Rg w6 g 0 (MP.flat xs))) := HG1.out.imp id fun h => ⟨h.1, h.2.below hb6 h.2.lt⟩
  clear hb6 HX5
  go_wp2_with fail
  refine (HMK.out HN.out _ g _ _ HG1.out).mono ?_
  rintro e w7 ⟨rfl, hO7, hm7⟩
  replace H35 : Hid (Below w3.heap.size w3 w7) := H35.out.trans (hO7.below HG.out H35.out.size)
  have HM : Hid (xs.length = 0 ∨ (a2 = some ⟨g, 0, none⟩ ∧ MA.Rg w7 g 0 MK)) := by
    rcases HG1.out with h0 | h
    · exact .inl h0
    · exact hm7.imp id fun r => ⟨h.1, r⟩
  clear hO7 hm7 HMK HG1
  go_wp2_with fail
  refine (HHD.out HN.out _ g _ _ HM.out).mono ?_
  rintro e w8 ⟨rfl, hbx⟩
  replace H35 : Hid (Below w3.heap.size w3 w8) := H35.out.trans (hbx.mono H35.out.size)
  replace HM : Hid (xs.length = 0 ∨ (a2 = some ⟨g, 0, none⟩ ∧ MA.Rg w8 g 0 MK)) := HM.out.imp id fun h => ⟨h.1, h.2.below hbx h.2.lt⟩
  clear hbx
  have HA : Hid _ := (HR.out.1.below H35.out HR.out.1.lt).rng
  go_wp2_with (refine MA.load_r rfl 23 _ rfl rfl (cs := b.cs) ?_ Try.underlying23 rfl Try.sizeBundleL rfl ?_; exact HA.out)
  refine (TB.out _).mono ?_
  rintro e w9 ⟨rfl, hbx⟩
  replace H35 : Hid (Below w3.heap.size w3 w9) := H35.out.trans (hbx.mono H35.out.size)
  replace HM : Hid (xs.length = 0 ∨ (a2 = some ⟨g, 0, none⟩ ∧ MA.Rg w9 g 0 MK)) := HM.out.imp id fun h => ⟨h.1, h.2.below hbx h.2.lt⟩
  clear hbx HA TB
  go_wp2_with fail
  refine (IG.out HS.out _).mono ?_
  rintro e w10 ⟨a3, k3, rfl, own3, hbx⟩
  replace H35 : Hid (Below w3.heap.size w3 w10) := H35.out.trans (hbx.mono H35.out.size)
  replace HM : Hid (xs.length = 0 ∨ (a2 = some ⟨g, 0, none⟩ ∧ MA.Rg w10 g 0 MK)) := HM.out.imp id fun h => ⟨h.1, h.2.below hbx h.2.lt⟩
  have HX10 : Hid (MP.BsAt w10 a3 xs) := HV.out _ _ _ _ own3
  clear hbx own3 IG
  go_wp2_with fail
  refine (HEQ.out HN.out _ _ _ _ _ HX10.out (HX3.out.below H35.out)).mono ?_
  rintro e w11 ⟨rfl, hbx⟩
  replace H35 : Hid (Below w3.heap.size w3 w11) := H35.out.trans (hbx.mono H35.out.size)
  replace HM : Hid (xs.length = 0 ∨ (a2 = some ⟨g, 0, none⟩ ∧ MA.Rg w11 g 0 MK)) := HM.out.imp id fun h => ⟨h.1, h.2.below hbx h.2.lt⟩
  clear hbx HX10 HEQ
  go_wp2_with fail
  refine (HHD.out HN.out _ g _ _ HM.out).mono ?_
  rintro e w12 ⟨rfl, hbx⟩
  replace H35 : Hid (Below w3.heap.size w3 w12) := H35.out.trans (hbx.mono H35.out.size)
  clear hbx HHD HM
  go_wp2
  go_ret
  exact ⟨rfl, HR.out.2.trans (H35.out.mono HR.out.2.size)⟩
end Go.Proofs.Ytfppjpheklpplaa
