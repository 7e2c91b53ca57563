import Derived.Test.YtpabhjnpbnabiaaRows
import Derived.Test.YtpabhjnpbnabiaaMLK
import Derived.Test.YtpabhjnpbnabiaaM5
import Derived.Test.YtpabhjnpbnabiaaCHasI
import Derived.Test.YtpabhjnpbnabiaaMInfo
import Derived.Test.YtpabhjnpbnabiaaCCaps
import Derived.WalkKit
import Derived.WalkSpells
import Derived.WalkLawsBesides
import Derived.Outline
import Derived.Test.YtpabhjnpbnabiaaCMaxI
import Derived.Test.YtpabhjnpbnabiaaCReachF
import Derived.Test.YtpabhjnpbnabiaaCAsk
import Derived.Test.YtpabhjnpbnabiaaCMaxS
import Derived.Test.YtpabhjnpbnabiaaCLinks
/- The pipes that lead out of some nodes, and what they bear: pipesOutOf, capsOutOf of the program. -/
namespace Go.Proofs.Ytpabhjnpbnabiaa
open Go.RowKit
set_option linter.unusedSimpArgs false in
set_option maxHeartbeats 1600000 in
set_option maxRecDepth 100000 in
theorem pipesOutOf_any (a b : Option Addr) (cap cb : Nat) (xs : List I3) (zs : List Int) (w : World) (hn : xs.length ≤ 1048576) (hz : zs.length ≤ 1048576) (hin : MI3.RowAt w a xs) (hos : M4.IntsAt w b zs) (L : List Int) (hL : Hid (FL.outK xs zs xs.length = L)) :
    Calls Try.prog 30 #[.slice a xs.length cap, .slice b zs.length cb] w fun e w' => ∃ a1 c1, e = .returned (.slice a1 L.length c1) ∧ w'.ownsRow w.heap.size 3 1 (.slice a1 L.length c1) L.length (M4.iv L) ∧ Below w.heap.size w w' := by
  obtain ⟨i0, hi, hz0, hz1, hz2⟩ := info_parts Try.info3
  have HI : Hid (MI3.RowAt w a xs) := hin
  have HS : Hid (M4.IntsAt w b zs) := hos
  have own0 : (w.alloc (.cells #[] 3)).ownsRow w.heap.size 3 1 (.slice (some ⟨w.heap.size, 0, none⟩) 0 0) ([] : List Int).length (M4.iv []) := by
    have := World.ownsRow_lit (base := w.heap.size) (e := 3) (size := 1) w #[] 0 (by simp) (by unfold maxLen; omega) (by simp)
    simpa [M4.iv] using this
  have OWN0 : Hid ((w.alloc (.cells #[] 3)).ownsRow w.heap.size 3 1 (.slice (some ⟨w.heap.size, 0, none⟩) 0 0) 0 (M4.iv [])) := own0
  have hb0a : Below w.heap.size w (w.alloc (.cells #[] 3)) := (Below.refl _ w).alloc (Nat.le_refl _) _
  clear hin hos own0
  go_enter Try.func30, Try.ntmps30
  go_wp2
  go_loopw [5, 11] (fun v iv wr => ∃ k : Nat, iv = .int .i64 k ∧ k ≤ xs.length ∧ (∃ s : List Int, Hid (FL.outK xs zs k = s) ∧ wr.ownsRow w.heap.size 3 1 v s.length (M4.iv s)) ∧ Below w.heap.size w wr) (fun _ iv _ => (xs.length - intOf iv).toNat)
  case atStart => exact ⟨0, rfl, by omega, ⟨[], rfl, OWN0.out⟩, hb0a⟩
  case round =>
    clear OWN0 hb0a
    obtain ⟨k, rfl, hk, ⟨s, hs, hown⟩, hb⟩ := hrel
    have hsl : s.length ≤ k := by rw [← hs.out]; exact FL.outK_len xs zs k
    have hbs := hb.size
    by_cases hlk : k < xs.length
    · obtain ⟨b1, off, rfl, hlt, c0, c1, c2⟩ := (HI.out.below hb).at hlk
      have HY : Hid _ := fun h0 h1 => FL.outK_yes (xs := xs) (zs := zs) (k := k) h0 h1
      have HN : Hid _ := fun h => FL.outK_no (xs := xs) (zs := zs) (k := k) h
      rw [hs.out] at HY HN
      generalize MI3.at_ xs k = x at *
      obtain ⟨x0, x1, x2⟩ := x
      have hb' : Below w.heap.size w (wr.alloc (.cells #[.int .i64 x0, .int .i64 x1, .int .i64 x2] 68)) := hb.alloc hb.size _
      have HB : Hid (Below w.heap.size w (wr.alloc (.cells #[.int .i64 x0, .int .i64 x1, .int .i64 x2] 68))) := hb'
      have HO : Hid (World.ownsRow (wr.alloc (.cells #[.int .i64 x0, .int .i64 x1, .int .i64 x2] 68)) w.heap.size 3 1 _ s.length (M4.iv s)) := hown.alloc _
      clear hb' hown hb
      have HCA : Hid (∀ y : Int, Calls Try.prog 53 #[.slice b zs.length cb, .int .i64 y] (wr.alloc (.cells #[.int .i64 x0, .int .i64 x1, .int .i64 x2] 68)) fun e w' => e = .returned (.bool (EG.hasB zs y)) ∧ (wr.alloc (.cells #[.int .i64 x0, .int .i64 x1, .int .i64 x2] 68)) = w') := fun y => containsI_any b cb zs y _ hz (M4.IntsAt.below HS.out HB.out)
      clear hs HI HS hL
      have H0 : Hid _ := HCA.out x0
      have H1 : Hid _ := HCA.out x1
      clear HCA
      simp only [show FL.hasN = EG.hasB from rfl] at HY HN
      generalize EG.hasB zs x0 = p at *
      generalize EG.hasB zs x1 = q at *
      go_wp2_with fail
      refine Calls.mono H0.out ?_
      rintro e w2 ⟨rfl, rfl⟩
      clear H0
      cases p with
      | false =>
        have HE : Hid _ := HN.out (.inl rfl)
        clear HY HN H1
        go_wp2
        go_roundw
        case rel => exact ⟨k + 1, by go_num, by omega, ⟨s, HE, HO.out⟩, HB.out⟩
        case measure => simp [intOf]; omega
      | true =>
        go_wp2_with fail
        refine Calls.mono H1.out ?_
        rintro e w2 ⟨rfl, rfl⟩
        clear H1
        cases q with
        | true =>
          have HE : Hid _ := HN.out (.inr rfl)
          clear HY HN
          go_wp2
          go_roundw
          case rel => exact ⟨k + 1, by go_num, by omega, ⟨s, HE, HO.out⟩, HB.out⟩
          case measure => simp [intOf]; omega
        | false =>
          have HE : Hid _ := HY.out (by trivial) (by trivial)
          clear HY HN c0 c1 c2
          have hbs2 := HB.out.size
          generalize wr.alloc (.cells #[.int .i64 x0, .int .i64 x1, .int .i64 x2] 68) = W1 at *
          go_wp2_with (at_builtin; go_loud (refine wpList_append_own _ rfl _ _ 29 rfl w.heap.size 3 i0 (.int .i64 0) 1 8 Try.underlying29 hi hz0 hz1 hz2 rfl (by decide) _ _ _ rfl (World.ownsRow.alloc HO.out _) ⟨W1.heap.size, 0, none⟩ 1 1 [.int .i64 (k : Int)] rfl rfl ?c1 ?c2 ?c3 ?c4 ?c5 ?_))
          all_goals try (first | rfl | omega | exact M2.new1 _ _ _ | exact M2.one1 _ _ | (unfold maxLen; omega) | (simp; omega))
          intro v' w3 hown1 hgrow _
          have R := M5.growI HO.out HB.out hbs2 (by exact hown1) hgrow
          have R1 := R.1
          have R2 := R.2
          clear hown1 hgrow R HO
          go_wp2
          go_roundw
          case rel => exact ⟨k + 1, by go_num, by omega, ⟨s ++ [(k : Int)], HE, R1⟩, R2⟩
          case measure => simp [intOf]; omega
    · obtain rfl : k = xs.length := by omega
      have hE : s = L := by rw [← hs.out, ← hL.out]
      subst hE
      clear hs HI HS hL
      obtain ⟨a3, c3, hv, hiv⟩ := M5.own_view hown
      rw [hv] at hown ⊢
      have HO : Hid _ := hown
      clear hown hv hiv
      generalize hsll : s.length = sl at *
      have HSL : Hid _ := hsll
      clear hsll
      go_wp2
      go_ret
      exact ⟨a3, c3, by rw [HSL.out]; rfl, by rw [HSL.out]; exact HO.out, hb⟩
set_option linter.unusedSimpArgs false in
set_option maxHeartbeats 1600000 in
set_option maxRecDepth 100000 in
theorem capsOutOf_any (a b : Option Addr) (cap cb : Nat) (xs : List I3) (zs : List Int) (w : World) (hg : FL.okP xs = true) (hz : zs.length ≤ 1048576) (hin : MI3.RowAt w a xs) (hos : M4.IntsAt w b zs) (R : Int) (hR : Hid (FL.capUp xs zs xs.length = R)) :
    Calls Try.prog 52 #[.slice a xs.length cap, .slice b zs.length cb] w fun e w' => e = .returned (.int .i64 R) ∧ Below w.heap.size w w' := by
  have hn : xs.length ≤ 20 := ((FL.okP_iff xs).1 hg).1
  have PO : Hid _ := pipesOutOf_any a b cap cb xs zs w (by omega) hz hin hos _ rfl
  have hlen := FL.outK_len xs zs xs.length
  have HN : Hid (FL.nums xs (FL.outK xs zs xs.length)) := FL.outK_nums xs zs
  have HR : Hid (FL.sumL xs (FL.outK xs zs xs.length) (FL.outK xs zs xs.length).length = R) := by show _ = R; rw [FL.sum_outK]; exact hR.out
  have HW : Hid _ := fun k hk => FL.sumL_within (l := FL.outK xs zs xs.length) hg HN.out k hk
  have HI : Hid (MI3.RowAt w a xs) := hin
  generalize FL.outK xs zs xs.length = L at *
  clear hin hos hg hR
  go_enter Try.func52, Try.ntmps52
  go_wp2_with fail
  refine Calls.mono PO.out ?_
  rintro e w1 ⟨a1, c1, rfl, ho, hb1⟩
  clear PO
  have HS : Hid (M4.IntsAt w1 a1 L) := M5.own_ints ho
  clear ho
  go_wp2
  go_loopw [5, 12] (fun v iv wr => ∃ k : Nat, iv = .int .i64 k ∧ k ≤ L.length ∧ (∃ s : Int, v = .int .i64 s ∧ Hid (FL.sumL xs L k = s)) ∧ w1 = wr) (fun _ iv _ => (L.length - intOf iv).toNat)
  case atStart => exact ⟨0, rfl, by omega, ⟨0, rfl, rfl⟩, rfl⟩
  case round =>
    obtain ⟨k, rfl, hk, ⟨s, rfl, hs⟩, rfl⟩ := hrel
    by_cases hlk : k < L.length
    · obtain ⟨j, hj, hjx⟩ := HN.out k hlk
      obtain ⟨b2, off2, rfl, hlt2, d0⟩ := M4.IntsAt.at HS.out hlk
      rw [hj] at d0
      obtain ⟨b1, off, rfl, hlt, c0, c1, c2⟩ := (HI.out.below hb1).at hjx
      have w1' := HW.out k hk
      have w2' := HW.out (k + 1) (by omega)
      have HE : Hid (FL.sumL xs L (k + 1) = s + (MI3.at_ xs j).a2) := by
        show _ = _; rw [FL.sumL, hs.out, hj, show ((j : Nat) : Int).toNat = j from by omega]
      rw [HE.out] at w2'
      rw [hs.out] at w1'
      generalize MI3.at_ xs j = x at *
      obtain ⟨x0, x1, x2⟩ := x
      have hjj : (j : Int) < xs.length := by omega
      simp only at w2'
      clear hs HW HI HS HN HR hj
      go_wp2
      go_roundw
      case rel => exact ⟨k + 1, by go_num, by omega, ⟨_, by go_num, HE⟩, trivial⟩
      case measure => simp [intOf]; omega
    · obtain rfl : k = L.length := by omega
      have hF : Hid (s = R) := by show s = R; rw [← hs.out, ← HR.out]
      clear hs HW HI HS HN HR
      go_wp2
      go_ret
      exact ⟨retI7 hF.out, hb1⟩
end Go.Proofs.Ytpabhjnpbnabiaa

/- MinCut of the program. -/
namespace Go.Proofs.Ytpabhjnpbnabiaa
open Go.RowKit
set_option linter.unusedSimpArgs false in
set_option maxHeartbeats 1600000 in
set_option maxRecDepth 100000 in
theorem implMinCut_any (a : Option Addr) (ca : Nat) (xs : List I3) (f t : Int) (w : World) (hn : xs.length ≤ 1048576) (hin : MI3.RowAt w a xs) :
    Calls Try.prog 29 #[.slice a xs.length ca, .int .i64 f, .int .i64 t] w fun e w' => ∃ a1 c1, e = .returned (.tuple #[.slice a1 (FL.mcL xs f t).length c1, .int .i64 (FL.mcN xs f t), .bool (FL.ask xs f t)]) ∧ w'.ownsRow w.heap.size 3 1 (.slice a1 (FL.mcL xs f t).length c1) (FL.mcL xs f t).length (M4.iv (FL.mcL xs f t)) ∧ Below w.heap.size w w' := by
  have MC : Hid _ := FL.mcC xs f t
  have AK : Hid _ := canFlow_any a ca xs f t w hn hin _ rfl
  have HI : Hid (MI3.RowAt w a xs) := hin
  have MX : Hid (FL.ask xs f t = true → ∀ W : World, MI3.RowAt W a xs → Calls Try.prog 47 #[.slice a xs.length ca, .int .i64 f, .int .i64 t] W fun e w' => ∃ a1 c1, e = .returned (.slice a1 xs.length c1) ∧ w'.ownsRow W.heap.size 3 1 (.slice a1 xs.length c1) xs.length (M4.iv (FL.maxF xs f t)) ∧ Below W.heap.size W w') := fun h W h1 => mostThrough_any a ca xs f t W (FL.ask_is h) h1
  have RE : Hid (FL.ask xs f t = true → ∀ (W : World) (v : Option Addr) (cv : Nat), MI3.RowAt W a xs → M4.IntsAt W v (FL.maxF xs f t) → Calls Try.prog 43 #[.slice a xs.length ca, .int .i64 f, .slice v xs.length cv] W fun e w' => ∃ a1 c1, e = .returned (.slice a1 (FL.cutL xs f t).length c1) ∧ w'.ownsRow W.heap.size 3 1 (.slice a1 (FL.cutL xs f t).length c1) (FL.cutL xs f t).length (M4.iv (FL.cutL xs f t)) ∧ Below W.heap.size W w') := fun h W v cv h1 h2 => by
    have A := FL.ask_is h
    have o := FL.maxF_ok A
    exact reachedFrom_any a v ca cv xs (FL.maxF xs f t) f W A.ok A.f0 A.f7 o.1 o.2 h1 h2 _ rfl
  have OK : Hid (FL.ask xs f t = true → FL.okP xs = true) := fun h => (FL.ask_is h).ok
  have CL : Hid ((FL.cutL xs f t).length ≤ 8) := by show _ ≤ 8; unfold FL.cutL; exact FL.side_len _ _
  generalize FL.mcL xs f t = L at *
  generalize FL.mcN xs f t = N at *
  generalize FL.maxF xs f t = F at *
  generalize FL.cutL xs f t = C at *
  generalize FL.ask xs f t = is at *
  clear hin
  go_enter Try.func29, Try.ntmps29
  go_wp2_with fail
  refine Calls.mono AK.out ?_
  rintro e w0 ⟨rfl, hb0⟩
  clear AK
  cases is with
  | false =>
    obtain ⟨h1, h2⟩ := MC.out.no rfl
    clear MC MX RE OK HI
    subst h1 h2
    go_wp2
    go_ret3
    exact ⟨none, 0, rfl, World.ownsRow_nil _ _ _ _, hb0⟩
  | true =>
    obtain ⟨h1, h2⟩ := MC.out.yes rfl
    have MX2 : Hid _ := MX.out rfl
    have RE2 : Hid _ := RE.out rfl
    have hok : Hid (FL.okP xs = true) := OK.out rfl
    subst h2
    have HNC : Hid (N = FL.capUp xs L xs.length) := h1
    clear MC MX RE OK h1
    have MX3 : Hid _ := MX2.out w0 (HI.out.below hb0)
    clear MX2
    go_wp2_with fail
    refine Calls.mono MX3.out ?_
    rintro e w1 ⟨a1, c1, rfl, ho, hb1⟩
    have hB1 := hb0.trans (hb1.mono hb0.size)
    have RE3 : Hid _ := RE2.out w1 a1 c1 (HI.out.below hB1) (M5.own_ints ho)
    clear MX3 RE2 ho hb1 hb0
    go_wp2_with fail
    refine Calls.mono RE3.out ?_
    rintro e w2 ⟨a3, c3, rfl, ho, hb2⟩
    have hB2 := hB1.trans (hb2.mono hB1.size)
    have HO3 : Hid _ := FL.own_base ho hB1.size
    have h8 := CL.out
    have CP : Hid _ := capsOutOf_any a a3 ca c3 xs L w2 hok.out (by omega) (HI.out.below hB2) (M5.own_ints ho) N (show Hid _ from HNC.out.symm)
    clear RE3 ho hb2 hB1 CL HNC HI hok h8
    generalize hsll : L.length = sl at *
    have HSL : Hid _ := hsll
    clear hsll
    go_wp2_with fail
    refine Calls.mono CP.out ?_
    rintro e w4 ⟨rfl, hb4⟩
    clear CP
    go_wp2
    go_ret3
    exact ⟨a3, c3, by rw [HSL.out]; rfl, by rw [HSL.out]; exact M5.own_below HO3.out hb4, hB2.trans (hb4.mono hB2.size)⟩
end Go.Proofs.Ytpabhjnpbnabiaa

/- MinCut of the specification. -/
namespace Go.Proofs.Ytpabhjnpbnabiaa
open Go.RowKit
set_option linter.unusedSimpArgs false in
set_option maxHeartbeats 1600000 in
set_option maxRecDepth 100000 in
theorem specMinCut_any (a : Option Addr) (ca : Nat) (xs : List I3) (f t : Int) (w : World) (hn : xs.length ≤ 1048576) (hin : MI3.RowAt w a xs) :
    Calls Try.prog 31 #[.slice a xs.length ca, .int .i64 f, .int .i64 t] w fun e w' => ∃ a1 c1, e = .returned (.tuple #[.slice a1 (FL.mcL xs f t).length c1, .int .i64 (FL.mcN xs f t), .bool (FL.ask xs f t)]) ∧ w'.ownsRow w.heap.size 3 1 (.slice a1 (FL.mcL xs f t).length c1) (FL.mcL xs f t).length (M4.iv (FL.mcL xs f t)) ∧ Below w.heap.size w w' := by
  obtain ⟨i0, hi, hz0, hz1, hz2⟩ := info_parts Try.info3
  have MC : Hid _ := FL.mcC xs f t
  have AK : Hid _ := l8Ask_any a ca xs f t w hn hin _ rfl
  have HI : Hid (MI3.RowAt w a xs) := hin
  have MX : Hid (FL.ask xs f t = true → ∀ W : World, MI3.RowAt W a xs → Calls Try.prog 25 #[.slice a xs.length ca, .int .i64 f, .int .i64 t] W fun e w' => ∃ a1 c1, e = .returned (.slice a1 xs.length c1) ∧ w'.ownsRow W.heap.size 3 1 (.slice a1 xs.length c1) xs.length (M4.iv (FL.maxF xs f t)) ∧ Below W.heap.size W w') := fun h W h1 => l8Max_any a ca xs f t W (FL.ask_is h) h1
  have SE : Hid (FL.ask xs f t = true → ∀ (W : World) (v : Option Addr) (cv : Nat), MI3.RowAt W a xs → M4.IntsAt W v (FL.maxF xs f t) → Calls Try.prog 55 #[.slice a xs.length ca, .int .i64 f, .slice v xs.length cv] W fun e w' => ∃ g1 c1, e = .returned (.slice (some ⟨g1, 0, none⟩) 8 c1) ∧ w'.ownsRow W.heap.size 3 1 (.slice (some ⟨g1, 0, none⟩) 8 c1) 8 (M4.iv (FL.srch xs (FL.maxF xs f t) f).by_) ∧ Below W.heap.size W w') := fun h W v cv h1 h2 => by
    have A := FL.ask_is h
    have o := FL.maxF_ok A
    have := l8Search_any a v ca cv xs (FL.maxF xs f t) f W A.ok A.f0 A.f7 o.1 o.2 h1 h2
    rwa [o.1] at this
  have OK : Hid (FL.ask xs f t = true → FL.okP xs = true ∧ (FL.srch xs (FL.maxF xs f t) f).by_.length = 8) := fun h => ⟨(FL.ask_is h).ok, (FL.srch_tree (FL.ask_is h).ok ⟨(FL.ask_is h).f0, (FL.ask_is h).f7⟩).len⟩
  have CL : Hid (FL.cutL xs f t = FL.sideUp (FL.srch xs (FL.maxF xs f t) f).by_ 8) := by show _ = _; unfold FL.cutL; rfl
  generalize FL.srch xs (FL.maxF xs f t) f = S at *
  generalize FL.mcL xs f t = L at *
  generalize FL.mcN xs f t = N at *
  generalize FL.maxF xs f t = F at *
  generalize FL.cutL xs f t = C at *
  generalize FL.ask xs f t = is at *
  clear hin
  go_enter Try.func31, Try.ntmps31
  go_wp2_with fail
  refine Calls.mono AK.out ?_
  rintro e w0 ⟨rfl, hb0⟩
  clear AK
  cases is with
  | false =>
    obtain ⟨h1, h2⟩ := MC.out.no rfl
    clear MC MX SE OK HI
    subst h1 h2
    go_wp2
    go_ret3
    exact ⟨none, 0, rfl, World.ownsRow_nil _ _ _ _, hb0⟩
  | true =>
    obtain ⟨h1, h2⟩ := MC.out.yes rfl
    have hC2 := CL.out
    have MX2 : Hid _ := MX.out rfl w0 (HI.out.below hb0)
    have SE2 : Hid _ := SE.out rfl
    have OK1 := OK.out rfl
    have hok : Hid (FL.okP xs = true) := OK1.1
    have h8 : Hid (S.by_.length = 8) := OK1.2
    have hx20 : xs.length ≤ 20 := ((FL.okP_iff xs).1 hok.out).1
    subst h2
    have HNC : Hid (N = FL.capUp xs L xs.length) := h1
    have HLS : Hid (L = FL.sideUp S.by_ 8) := hC2
    clear MC MX SE OK CL OK1 h1 hC2
    generalize S.by_ = B at *
    go_wp2_with fail
    refine Calls.mono MX2.out ?_
    rintro e w1 ⟨a1, c1, rfl, ho, hb1⟩
    have hB1 := hb0.trans (hb1.mono hb0.size)
    have SE3 : Hid _ := SE2.out w1 a1 c1 (HI.out.below hB1) (M5.own_ints ho)
    clear MX2 SE2 ho hb0 hb1
    go_wp2_with fail
    refine Calls.mono SE3.out ?_
    rintro e w2 ⟨g1, cg, rfl, ho, hb2⟩
    have hB2 := hB1.trans (hb2.mono hB1.size)
    have l1 := (ho.lt g1 rfl).2
    have CE : Hid (∀ (W : World) (j : Nat), Below w2.heap.size w2 W → j < 8 → W.cell? ⟨g1, j, none⟩ = some (.int .i64 (B.getD j 0))) := fun W j hb hj => by
      rw [(M5.own_below ho hb).cellAt j (by omega)]; exact M4.iv_get _ _ _ (FL.get_of _ (by rw [h8.out]; exact hj))
    clear SE3 ho hb2 hB1
    go_wp2
    go_loopw [9, 25] (fun v iv wr => ∃ m : Nat, iv = .int .i64 m ∧ m ≤ 8 ∧ (∃ s : List Int, Hid (FL.sideUp B m = s) ∧ wr.ownsRow w2.heap.size 3 1 v s.length (M4.iv s)) ∧ Below w2.heap.size w2 wr) (fun _ iv _ => (8 - intOf iv).toNat)
    case atStart => exact ⟨0, rfl, by omega, ⟨[], rfl, World.ownsRow_nil _ _ _ _⟩, Below.refl _ _⟩
    case round =>
      obtain ⟨m, rfl, hm, ⟨s, hs, hown⟩, hb⟩ := hrel
      have hsl : s.length ≤ m := by rw [← hs.out]; exact FL.side_len B m
      have hbs := hb.size
      by_cases hl : m < 8
      · have c0 := CE.out wr m hb hl
        have l1' : g1 < wr.heap.size := by omega
        have EY : Hid _ := fun h => FL.side_yes (l := B) (m := m) h
        have EN : Hid _ := fun h => FL.side_no (l := B) (m := m) h
        rw [hs.out] at EY EN
        have mm8 : (m : Int) < 8 := by omega
        have HOA : Hid _ := hown
        clear hown hs
        generalize hz : B.getD m 0 = z at *
        clear hz
        by_cases hzz : z = -1
        · have hE : Hid _ := EN.out hzz
          clear EY EN
          subst hzz
          go_wp2
          go_roundw
          case rel => exact ⟨m + 1, by go_num, by omega, ⟨s, hE, HOA.out⟩, hb⟩
          case measure => simp [intOf]; omega
        · have hE : Hid _ := EY.out hzz
          clear EY EN
          go_wp2_with (at_builtin; go_loud (refine wpList_append_own _ rfl _ _ 29 rfl w2.heap.size 3 i0 (.int .i64 0) 1 8 Try.underlying29 hi hz0 hz1 hz2 rfl (by decide) _ _ _ rfl (World.ownsRow.alloc HOA.out _) ⟨wr.heap.size, 0, none⟩ 1 1 [.int .i64 (m : Int)] rfl rfl ?c1 ?c2 ?c3 ?c4 ?c5 ?_))
          all_goals try (first | rfl | omega | exact M2.new1 _ _ _ | exact M2.one1 _ _ | (unfold maxLen; omega) | (simp; omega))
          intro v' w3 hown1 hgrow _
          have R := M5.growI HOA.out hb hbs (by exact hown1) hgrow
          have R1 := R.1
          have R2 := R.2
          clear hown1 hgrow R HOA
          go_wp2
          go_roundw
          case rel => exact ⟨m + 1, by go_num, by omega, ⟨s ++ [(m : Int)], hE, R1⟩, R2⟩
          case measure => simp [intOf]; omega
      · obtain rfl : m = 8 := by omega
        have hE : s = L := by rw [← hs.out, ← HLS.out]
        subst hE
        obtain ⟨a3, c3, hv, hiv⟩ := M5.own_view hown
        rw [hv] at hown ⊢
        have hB3 := hB2.trans (hb.mono hB2.size)
        have HO3 : Hid _ := FL.own_base hown hB2.size
        have CP : Hid _ := l8Cut_any a a3 ca c3 xs s wr hok.out (by omega) (HI.out.below hB3) hiv N (show Hid _ from HNC.out.symm)
        clear hv hown hiv CE HLS HNC hs HI hok h8
        generalize hsll : s.length = sl at *
        have HSL : Hid _ := hsll
        clear hsll
        go_wp2_with fail
        refine Calls.mono CP.out ?_
        rintro e w4 ⟨rfl, hb4⟩
        clear CP
        go_wp2
        go_ret3
        exact ⟨a3, c3, by rw [HSL.out]; rfl, by rw [HSL.out]; exact M5.own_below HO3.out hb4, hB3.trans (hb4.mono hB3.size)⟩
end Go.Proofs.Ytpabhjnpbnabiaa

/- FewestToCut of the program and of the specification. -/
namespace Go.Proofs.Ytpabhjnpbnabiaa
open Go.RowKit
set_option linter.unusedSimpArgs false in
set_option maxHeartbeats 1600000 in
set_option maxRecDepth 100000 in
theorem implFewest_any (a : Option Addr) (ca : Nat) (xs : List I2) (f t : Int) (w : World) (hn : xs.length ≤ 1048576) (hin : MI2.RowAt w a xs) :
    Calls Try.prog 7 #[.slice a xs.length ca, .int .i64 f, .int .i64 t] w fun e w' => ∃ a1 c1, e = .returned (.tuple #[.slice a1 (LK.fcL xs f t).length c1, .bool (FL.ask (LK.pip xs) f t)]) ∧ w'.ownsRow w.heap.size 3 1 (.slice a1 (LK.fcL xs f t).length c1) (LK.fcL xs f t).length (M4.iv (LK.fcL xs f t)) ∧ Below w.heap.size w w' := by
  have FC : Hid _ := LK.fcC xs f t
  have PO : Hid _ := pipesOfOne_any a ca xs w hn hin
  have ML : Hid _ := FL.mcL_len (LK.pip xs) f t
  have MI : Hid (∀ (g : Nat) (W : World), MI3.RowAt W (some ⟨g, 0, none⟩) (LK.pip xs) → Calls Try.prog 29 #[.slice (some ⟨g, 0, none⟩) xs.length xs.length, .int .i64 f, .int .i64 t] W fun e w' => ∃ a1 c1, e = .returned (.tuple #[.slice a1 (FL.mcL (LK.pip xs) f t).length c1, .int .i64 (FL.mcN (LK.pip xs) f t), .bool (FL.ask (LK.pip xs) f t)]) ∧ w'.ownsRow W.heap.size 3 1 (.slice a1 (FL.mcL (LK.pip xs) f t).length c1) (FL.mcL (LK.pip xs) f t).length (M4.iv (FL.mcL (LK.pip xs) f t)) ∧ Below W.heap.size W w') := fun g W h => by
    have := implMinCut_any (some ⟨g, 0, none⟩) xs.length (LK.pip xs) f t W (by rw [LK.pip_len]; exact hn) h
    rwa [LK.pip_len] at this
  have OO : Hid (∀ (g : Nat) (b : Option Addr) (cb : Nat) (M : List Int) (W : World), M.length ≤ 1048576 → MI3.RowAt W (some ⟨g, 0, none⟩) (LK.pip xs) → M4.IntsAt W b M → ∀ L, L = FL.outK (LK.pip xs) M xs.length → Calls Try.prog 30 #[.slice (some ⟨g, 0, none⟩) xs.length xs.length, .slice b M.length cb] W fun e w' => ∃ a1 c1, e = .returned (.slice a1 L.length c1) ∧ w'.ownsRow W.heap.size 3 1 (.slice a1 L.length c1) L.length (M4.iv L) ∧ Below W.heap.size W w') := fun g b cb M W h1 h2 h3 L hL => by
    have := pipesOutOf_any (some ⟨g, 0, none⟩) b xs.length cb (LK.pip xs) M W (by rw [LK.pip_len]; exact hn) h1 h2 h3 L (by show _ = _; rw [LK.pip_len, hL])
    rwa [LK.pip_len] at this
  generalize LK.fcL xs f t = L at *
  generalize FL.mcL (LK.pip xs) f t = M at *
  generalize FL.mcN (LK.pip xs) f t = N at *
  generalize FL.ask (LK.pip xs) f t = is at *
  clear hin
  go_enter Try.func7, Try.ntmps7
  go_wp2_with fail
  refine Calls.mono PO.out ?_
  rintro e w0 ⟨g, rfl, ho, hb0⟩
  have HI : Hid (MI3.RowAt w0 (some ⟨g, 0, none⟩) (LK.pip xs)) := MI3.RowAt.of_own ho
  have MI2 : Hid _ := MI.out g w0 HI.out
  clear PO MI ho
  go_wp2_with fail
  refine Calls.mono MI2.out ?_
  rintro e w1 ⟨a1, c1, rfl, ho, hb1⟩
  have hB1 := hb0.trans (hb1.mono hb0.size)
  have HM : Hid (M4.IntsAt w1 a1 M) := M5.own_ints ho
  have HI1 : Hid (MI3.RowAt w1 (some ⟨g, 0, none⟩) (LK.pip xs)) := HI.out.below hb1
  clear MI2 HI ho hb0 hb1
  cases is with
  | false =>
    obtain ⟨h1, _⟩ := FC.out.no rfl
    subst h1
    clear FC OO HM HI1 ML
    go_wp2
    go_ret2
    exact ⟨none, 0, rfl, World.ownsRow_nil _ _ _ _, hB1⟩
  | true =>
    obtain ⟨h1, _, _⟩ := FC.out.yes rfl
    have O2 : Hid _ := OO.out g a1 c1 M w1 ML.out HI1.out HM.out L h1
    clear FC OO HM HI1 ML h1
    generalize hml : M.length = ml at *
    clear hml
    generalize hll : L.length = ll at *
    have HLL : Hid _ := hll
    clear hll
    go_wp2_with fail
    refine Calls.mono O2.out ?_
    rintro e w2 ⟨a2, c2, rfl, ho, hb2⟩
    have HO : Hid _ := FL.own_base ho hB1.size
    clear O2 ho
    go_wp2
    go_ret2
    exact ⟨a2, c2, by rw [HLL.out]; rfl, by rw [HLL.out]; exact HO.out, hB1.trans (hb2.mono hB1.size)⟩
set_option linter.unusedSimpArgs false in
set_option maxHeartbeats 1600000 in
set_option maxRecDepth 100000 in
theorem specFewest_any (a : Option Addr) (ca : Nat) (xs : List I2) (f t : Int) (w : World) (hn : xs.length ≤ 1048576) (hin : MI2.RowAt w a xs) :
    Calls Try.prog 8 #[.slice a xs.length ca, .int .i64 f, .int .i64 t] w fun e w' => ∃ a1 c1, e = .returned (.tuple #[.slice a1 (LK.fcL xs f t).length c1, .bool (FL.ask (LK.pip xs) f t)]) ∧ w'.ownsRow w.heap.size 3 1 (.slice a1 (LK.fcL xs f t).length c1) (LK.fcL xs f t).length (M4.iv (LK.fcL xs f t)) ∧ Below w.heap.size w w' := by
  obtain ⟨i0, hi, hz0, hz1, hz2⟩ := info_parts Try.info3
  have FC : Hid _ := LK.fcC xs f t
  have AK : Hid _ := l9Ask_any a ca xs f t w hn hin _ rfl
  have HI : Hid (MI2.RowAt w a xs) := hin
  have PO : Hid (∀ W : World, MI2.RowAt W a xs → _) := fun W h => l9Pipes_any a ca xs W hn h
  have ML : Hid _ := FL.mcL_len (LK.pip xs) f t
  have MI : Hid (∀ (b : Option Addr) (cb : Nat) (W : World), MI3.RowAt W b (LK.pip xs) → Calls Try.prog 31 #[.slice b xs.length cb, .int .i64 f, .int .i64 t] W fun e w' => ∃ a1 c1, e = .returned (.tuple #[.slice a1 (FL.mcL (LK.pip xs) f t).length c1, .int .i64 (FL.mcN (LK.pip xs) f t), .bool (FL.ask (LK.pip xs) f t)]) ∧ w'.ownsRow W.heap.size 3 1 (.slice a1 (FL.mcL (LK.pip xs) f t).length c1) (FL.mcL (LK.pip xs) f t).length (M4.iv (FL.mcL (LK.pip xs) f t)) ∧ Below W.heap.size W w') := fun b cb W h => by
    have := specMinCut_any b cb (LK.pip xs) f t W (by rw [LK.pip_len]; exact hn) h
    rwa [LK.pip_len] at this
  generalize LK.fcL xs f t = L at *
  generalize FL.mcL (LK.pip xs) f t = M at *
  generalize FL.mcN (LK.pip xs) f t = N at *
  generalize FL.ask (LK.pip xs) f t = is at *
  clear hin
  go_enter Try.func8, Try.ntmps8
  go_wp2_with fail
  refine Calls.mono AK.out ?_
  rintro e w0 ⟨rfl, hb0⟩
  clear AK
  cases is with
  | false =>
    obtain ⟨h1, _⟩ := FC.out.no rfl
    subst h1
    clear FC PO MI ML HI
    go_wp2
    go_ret2
    exact ⟨none, 0, rfl, World.ownsRow_nil _ _ _ _, hb0⟩
  | true =>
    obtain ⟨h1, h20, _⟩ := FC.out.yes rfl
    have HL : Hid (L = FL.outK (LK.pip xs) M xs.length) := h1
    have PO2 : Hid _ := PO.out w0 (HI.out.below hb0)
    clear FC PO h1
    go_wp2_with fail
    refine Calls.mono PO2.out ?_
    rintro e w1 ⟨b1, cb1, rfl, hr, hb1⟩
    have hB1 := hb0.trans (hb1.mono hb0.size)
    have MI2 : Hid _ := MI.out b1 cb1 w1 hr
    clear PO2 MI hr hb0 hb1
    go_wp2_with fail
    refine Calls.mono MI2.out ?_
    rintro e w2 ⟨a1, cM, rfl, ho, hb2⟩
    have hB2 := hB1.trans (hb2.mono hB1.size)
    have HM : Hid (M4.IntsAt w2 a1 M) := M5.own_ints ho
    have hm := ML.out
    clear MI2 ho hb2 hB1 ML
    go_wp2
    go_loopw [11, 30] (fun v iv wr => ∃ k : Nat, iv = .int .i64 k ∧ k ≤ xs.length ∧ (∃ s : List Int, Hid (FL.outK (LK.pip xs) M k = s) ∧ wr.ownsRow w2.heap.size 3 1 v s.length (M4.iv s)) ∧ Below w2.heap.size w2 wr) (fun _ iv _ => (xs.length - intOf iv).toNat)
    case atStart => exact ⟨0, rfl, by omega, ⟨[], rfl, World.ownsRow_nil _ _ _ _⟩, Below.refl _ _⟩
    case round =>
      obtain ⟨k, rfl, hk, ⟨s, hs, hown⟩, hb⟩ := hrel
      have hsl : s.length ≤ k := by rw [← hs.out]; exact FL.outK_len (LK.pip xs) M k
      have hbs := hb.size
      by_cases hlk : k < xs.length
      · have hbW := hB2.trans (hb.mono hB2.size)
        obtain ⟨b1, off, rfl, hlt, c0, c1⟩ := (HI.out.below hbW).at hlk
        have HY : Hid _ := fun h0 h1 => FL.outK_yes (xs := LK.pip xs) (zs := M) (k := k) h0 h1
        have HN : Hid _ := fun h => FL.outK_no (xs := LK.pip xs) (zs := M) (k := k) h
        rw [hs.out, LK.pip_at xs k hlk] at HY HN
        generalize MI2.at_ xs k = x at *
        obtain ⟨x0, x1⟩ := x
        have HB : Hid (Below w2.heap.size w2 (wr.alloc (.cells #[.int .i64 x0, .int .i64 x1] 59))) := hb.alloc hb.size _
        have HO : Hid (World.ownsRow (wr.alloc (.cells #[.int .i64 x0, .int .i64 x1] 59)) w2.heap.size 3 1 _ s.length (M4.iv s)) := hown.alloc _
        clear hown hb hbW
        have HCA : Hid (∀ y : Int, Calls Try.prog 32 #[.slice a1 M.length cM, .int .i64 y] (wr.alloc (.cells #[.int .i64 x0, .int .i64 x1] 59)) fun e w' => e = .returned (.bool (EG.hasB M y)) ∧ (wr.alloc (.cells #[.int .i64 x0, .int .i64 x1] 59)) = w') := fun y => l1Has_any _ _ M y _ hm (M4.IntsAt.below HM.out HB.out)
        clear hs HI HM HL
        have H0 : Hid _ := HCA.out x0
        have H1 : Hid _ := HCA.out x1
        clear HCA
        simp only [show FL.hasN = EG.hasB from rfl, LK.pip1] at HY HN
        generalize EG.hasB M x0 = p at *
        generalize EG.hasB M x1 = q at *
        generalize hml : M.length = ml at *
        clear hml
        go_wp2_with fail
        refine Calls.mono H0.out ?_
        rintro e w3 ⟨rfl, rfl⟩
        clear H0
        cases p with
        | false =>
          have HE : Hid _ := HN.out (.inl rfl)
          clear HY HN H1
          go_wp2
          go_roundw
          case rel => exact ⟨k + 1, by go_num, by omega, ⟨s, HE, HO.out⟩, HB.out⟩
          case measure => simp [intOf]; omega
        | true =>
          go_wp2_with fail
          refine Calls.mono H1.out ?_
          rintro e w3 ⟨rfl, rfl⟩
          clear H1
          cases q with
          | true =>
            have HE : Hid _ := HN.out (.inr rfl)
            clear HY HN
            go_wp2
            go_roundw
            case rel => exact ⟨k + 1, by go_num, by omega, ⟨s, HE, HO.out⟩, HB.out⟩
            case measure => simp [intOf]; omega
          | false =>
            have HE : Hid _ := HY.out (by trivial) (by trivial)
            clear HY HN c0 c1
            have hbs2 := HB.out.size
            generalize wr.alloc (.cells #[.int .i64 x0, .int .i64 x1] 59) = W1 at *
            go_wp2_with (at_builtin; go_loud (refine wpList_append_own _ rfl _ _ 29 rfl w2.heap.size 3 i0 (.int .i64 0) 1 8 Try.underlying29 hi hz0 hz1 hz2 rfl (by decide) _ _ _ rfl (World.ownsRow.alloc HO.out _) ⟨W1.heap.size, 0, none⟩ 1 1 [.int .i64 (k : Int)] rfl rfl ?c1 ?c2 ?c3 ?c4 ?c5 ?_))
            all_goals try (first | rfl | omega | exact M2.new1 _ _ _ | exact M2.one1 _ _ | (unfold maxLen; omega) | (simp; omega))
            intro v' w3 hown1 hgrow _
            have R := M5.growI HO.out HB.out hbs2 (by exact hown1) hgrow
            have R1 := R.1
            have R2 := R.2
            clear hown1 hgrow R HO
            go_wp2
            go_roundw
            case rel => exact ⟨k + 1, by go_num, by omega, ⟨s ++ [(k : Int)], HE, R1⟩, R2⟩
            case measure => simp [intOf]; omega
      · obtain rfl : k = xs.length := by omega
        have hE : s = L := by rw [← hs.out, ← HL.out]
        subst hE
        clear hs HI HM HL
        obtain ⟨a3, c3, hv, hiv⟩ := M5.own_view hown
        rw [hv] at hown ⊢
        have HO : Hid _ := FL.own_base hown hB2.size
        clear hown hv hiv
        generalize hsll : s.length = sl at *
        have HSL : Hid _ := hsll
        clear hsll
        generalize hml : M.length = ml at *
        clear hml
        go_wp2
        go_ret2
        exact ⟨a3, c3, by rw [HSL.out]; rfl, by rw [HSL.out]; exact HO.out, hB2.trans (hb.mono hB2.size)⟩
end Go.Proofs.Ytpabhjnpbnabiaa
