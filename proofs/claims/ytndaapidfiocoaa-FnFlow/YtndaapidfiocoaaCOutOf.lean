/- The pipes that lead out of some nodes, and what they bear: pipesOutOf, capsOutOf of the program. -/
import Derived.Test.YtndaapidfiocoaaRows
import Derived.Test.YtndaapidfiocoaaMLK
import Derived.Test.YtndaapidfiocoaaM5
import Derived.Test.YtndaapidfiocoaaCHasI
import Derived.Test.YtndaapidfiocoaaMInfo
import Derived.Test.YtndaapidfiocoaaCCaps
import Derived.WalkKit
import Derived.WalkSpells
import Derived.WalkLawsBesides
import Derived.Outline
namespace Go.Proofs.Ytndaapidfiocoaa
open Go.RowKit
set_option linter.unusedSimpArgs false in
set_option maxHeartbeats 1600000 in
set_option maxRecDepth 100000 in
theorem pipesOutOf_any (a b : Option Addr) (cap cb : Nat) (xs : List I3) (zs : List Int) (w : World) (hn : xs.length ≤ 1048576) (hz : zs.length ≤ 1048576) (hin : MI3.RowAt w a xs) (hos : M4.IntsAt w b zs) (L : List Int) (hL : Hid (FL.outK xs zs xs.length = L)) :
    Calls Try.prog 53 #[.slice a xs.length cap, .slice b zs.length cb] w fun e w' => ∃ a1 c1, e = .returned (.slice a1 L.length c1) ∧ w'.ownsRow w.heap.size 3 1 (.slice a1 L.length c1) L.length (M4.iv L) ∧ Below w.heap.size w w' := by
  obtain ⟨i0, hi, hz0, hz1, hz2⟩ := info_parts Try.info3
  have HI : Hid (MI3.RowAt w a xs) := hin
  have HS : Hid (M4.IntsAt w b zs) := hos
  have own0 : (w.alloc (.cells #[] 3)).ownsRow w.heap.size 3 1 (.slice (some ⟨w.heap.size, 0, none⟩) 0 0) ([] : List Int).length (M4.iv []) := by
    have := World.ownsRow_lit (base := w.heap.size) (e := 3) (size := 1) w #[] 0 (by simp) (by unfold maxLen; omega) (by simp)
    simpa [M4.iv] using this
  have OWN0 : Hid ((w.alloc (.cells #[] 3)).ownsRow w.heap.size 3 1 (.slice (some ⟨w.heap.size, 0, none⟩) 0 0) 0 (M4.iv [])) := own0
  have hb0a : Below w.heap.size w (w.alloc (.cells #[] 3)) := (Below.refl _ w).alloc (Nat.le_refl _) _
  clear hin hos own0
  go_enter Try.func53, Try.ntmps53
  go_wp2
  go_loopw [5, 11] (fun v iv wr => ∃ k : Nat, iv = .int .i64 k ∧ k ≤ xs.length ∧ (∃ s : List Int, Hid (FL.outK xs zs k = s) ∧ wr.ownsRow w.heap.size 3 1 v s.length (M4.iv s)) ∧ Below w.heap.size w wr) (fun _ iv _ => (xs.length - intOf iv).toNat)
  case atStart => exact ⟨0, rfl, by omega, ⟨[], rfl, OWN0.out⟩, hb0a⟩
  case round =>
    clear OWN0 hb0a
    obtain ⟨k, rfl, hk, ⟨s, hs, hown⟩, hb⟩ := hrel
    have hsl : s.length ≤ k := by rw [← hs.out]; exact FL.outK_len xs zs k
    have hbs := hb.size
    by_cases hlk : k < xs.length
    · obtain ⟨b1, off, rfl, hlt, c0, c1, c2⟩ := (HI.out.below hb).at hlk
      have HY : Hid _ := fun h0 h1 => FL.outK_yes (xs := xs) (zs := zs) (k := k) h0 h1
      have HN : Hid _ := fun h => FL.outK_no (xs := xs) (zs := zs) (k := k) h
      rw [hs.out] at HY HN
      generalize MI3.at_ xs k = x at *
      obtain ⟨x0, x1, x2⟩ := x
      have hb' : Below w.heap.size w (wr.alloc (.cells #[.int .i64 x0, .int .i64 x1, .int .i64 x2] 56)) := hb.alloc hb.size _
      have HB : Hid (Below w.heap.size w (wr.alloc (.cells #[.int .i64 x0, .int .i64 x1, .int .i64 x2] 56))) := hb'
      have HO : Hid (World.ownsRow (wr.alloc (.cells #[.int .i64 x0, .int .i64 x1, .int .i64 x2] 56)) w.heap.size 3 1 _ s.length (M4.iv s)) := hown.alloc _
      clear hb' hown hb
      have HCA : Hid (∀ y : Int, Calls Try.prog 65 #[.slice b zs.length cb, .int .i64 y] (wr.alloc (.cells #[.int .i64 x0, .int .i64 x1, .int .i64 x2] 56)) fun e w' => e = .returned (.bool (EG.hasB zs y)) ∧ (wr.alloc (.cells #[.int .i64 x0, .int .i64 x1, .int .i64 x2] 56)) = w') := fun y => containsI_any b cb zs y _ hz (M4.IntsAt.below HS.out HB.out)
      clear hs HI HS hL
      have H0 : Hid _ := HCA.out x0
      have H1 : Hid _ := HCA.out x1
      clear HCA
      simp only [show FL.hasN = EG.hasB from rfl] at HY HN
      generalize EG.hasB zs x0 = p at *
      generalize EG.hasB zs x1 = q at *
      go_wp2_with fail
      refine Calls.mono H0.out ?_
      rintro e w2 ⟨rfl, rfl⟩
      clear H0
      cases p with
      | false =>
        have HE : Hid _ := HN.out (.inl rfl)
        clear HY HN H1
        go_wp2
        go_roundw
        case rel => exact ⟨k + 1, by go_num, by omega, ⟨s, HE, HO.out⟩, HB.out⟩
        case measure => simp [intOf]; omega
      | true =>
        go_wp2_with fail
        refine Calls.mono H1.out ?_
        rintro e w2 ⟨rfl, rfl⟩
        clear H1
        cases q with
        | true =>
          have HE : Hid _ := HN.out (.inr rfl)
          clear HY HN
          go_wp2
          go_roundw
          case rel => exact ⟨k + 1, by go_num, by omega, ⟨s, HE, HO.out⟩, HB.out⟩
          case measure => simp [intOf]; omega
        | false =>
          have HE : Hid _ := HY.out (by trivial) (by trivial)
          clear HY HN c0 c1 c2
          have hbs2 := HB.out.size
          generalize wr.alloc (.cells #[.int .i64 x0, .int .i64 x1, .int .i64 x2] 56) = W1 at *
          go_wp2_with (at_builtin; go_loud (refine wpList_append_own _ rfl _ _ 26 rfl w.heap.size 3 i0 (.int .i64 0) 1 8 Try.underlying26 hi hz0 hz1 hz2 rfl (by decide) _ _ _ rfl (World.ownsRow.alloc HO.out _) ⟨W1.heap.size, 0, none⟩ 1 1 [.int .i64 (k : Int)] rfl rfl ?c1 ?c2 ?c3 ?c4 ?c5 ?_))
          all_goals try (first | rfl | omega | exact M2.new1 _ _ _ | exact M2.one1 _ _ | (unfold maxLen; omega) | (simp; omega))
          intro v' w3 hown1 hgrow _
          have R := M5.growI HO.out HB.out hbs2 (by exact hown1) hgrow
          have R1 := R.1
          have R2 := R.2
          clear hown1 hgrow R HO
          go_wp2
          go_roundw
          case rel => exact ⟨k + 1, by go_num, by omega, ⟨s ++ [(k : Int)], HE, R1⟩, R2⟩
          case measure => simp [intOf]; omega
    · obtain rfl : k = xs.length := by omega
      have hE : s = L := by rw [← hs.out, ← hL.out]
      subst hE
      clear hs HI HS hL
      obtain ⟨a3, c3, hv, hiv⟩ := M5.own_view hown
      rw [hv] at hown ⊢
      have HO : Hid _ := hown
      clear hown hv hiv
      generalize hsll : s.length = sl at *
      have HSL : Hid _ := hsll
      clear hsll
      go_wp2
      go_ret
      exact ⟨a3, c3, by rw [HSL.out]; rfl, by rw [HSL.out]; exact HO.out, hb⟩
set_option linter.unusedSimpArgs false in
set_option maxHeartbeats 1600000 in
set_option maxRecDepth 100000 in
theorem capsOutOf_any (a b : Option Addr) (cap cb : Nat) (xs : List I3) (zs : List Int) (w : World) (hg : FL.okP xs = true) (hz : zs.length ≤ 1048576) (hin : MI3.RowAt w a xs) (hos : M4.IntsAt w b zs) (R : Int) (hR : Hid (FL.capUp xs zs xs.length = R)) :
    Calls Try.prog 33 #[.slice a xs.length cap, .slice b zs.length cb] w fun e w' => e = .returned (.int .i64 R) ∧ Below w.heap.size w w' := by
  have hn : xs.length ≤ 20 := ((FL.okP_iff xs).1 hg).1
  have PO : Hid _ := pipesOutOf_any a b cap cb xs zs w (by omega) hz hin hos _ rfl
  have hlen := FL.outK_len xs zs xs.length
  have HN : Hid (FL.nums xs (FL.outK xs zs xs.length)) := FL.outK_nums xs zs
  have HR : Hid (FL.sumL xs (FL.outK xs zs xs.length) (FL.outK xs zs xs.length).length = R) := by show _ = R; rw [FL.sum_outK]; exact hR.out
  have HW : Hid _ := fun k hk => FL.sumL_within (l := FL.outK xs zs xs.length) hg HN.out k hk
  have HI : Hid (MI3.RowAt w a xs) := hin
  generalize FL.outK xs zs xs.length = L at *
  clear hin hos hg hR
  go_enter Try.func33, Try.ntmps33
  go_wp2_with fail
  refine Calls.mono PO.out ?_
  rintro e w1 ⟨a1, c1, rfl, ho, hb1⟩
  clear PO
  have HS : Hid (M4.IntsAt w1 a1 L) := M5.own_ints ho
  clear ho
  go_wp2
  go_loopw [5, 12] (fun v iv wr => ∃ k : Nat, iv = .int .i64 k ∧ k ≤ L.length ∧ (∃ s : Int, v = .int .i64 s ∧ Hid (FL.sumL xs L k = s)) ∧ w1 = wr) (fun _ iv _ => (L.length - intOf iv).toNat)
  case atStart => exact ⟨0, rfl, by omega, ⟨0, rfl, rfl⟩, rfl⟩
  case round =>
    obtain ⟨k, rfl, hk, ⟨s, rfl, hs⟩, rfl⟩ := hrel
    by_cases hlk : k < L.length
    · obtain ⟨j, hj, hjx⟩ := HN.out k hlk
      obtain ⟨b2, off2, rfl, hlt2, d0⟩ := M4.IntsAt.at HS.out hlk
      rw [hj] at d0
      obtain ⟨b1, off, rfl, hlt, c0, c1, c2⟩ := (HI.out.below hb1).at hjx
      have w1' := HW.out k hk
      have w2' := HW.out (k + 1) (by omega)
      have HE : Hid (FL.sumL xs L (k + 1) = s + (MI3.at_ xs j).a2) := by
        show _ = _; rw [FL.sumL, hs.out, hj, show ((j : Nat) : Int).toNat = j from by omega]
      rw [HE.out] at w2'
      rw [hs.out] at w1'
      generalize MI3.at_ xs j = x at *
      obtain ⟨x0, x1, x2⟩ := x
      have hjj : (j : Int) < xs.length := by omega
      simp only at w2'
      clear hs HW HI HS HN HR hj
      go_wp2
      go_roundw
      case rel => exact ⟨k + 1, by go_num, by omega, ⟨_, by go_num, HE⟩, trivial⟩
      case measure => simp [intOf]; omega
    · obtain rfl : k = L.length := by omega
      have hF : Hid (s = R) := by show s = R; rw [← hs.out, ← HR.out]
      clear hs HW HI HS HN HR
      go_wp2
      go_ret
      exact ⟨retI7 hF.out, hb1⟩
end Go.Proofs.Ytndaapidfiocoaa
