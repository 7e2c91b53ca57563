/- MinCut of the specification. -/
import Derived.Test.YtndaapidfiocoaaRows
import Derived.Test.YtndaapidfiocoaaCAsk
import Derived.Test.YtndaapidfiocoaaCMaxS
import Derived.Test.YtndaapidfiocoaaCCaps
import Derived.WalkKit
import Derived.WalkSpells
import Derived.WalkLawsBesides
import Derived.Outline
namespace Go.Proofs.Ytndaapidfiocoaa
open Go.RowKit
set_option linter.unusedSimpArgs false in
set_option maxHeartbeats 1600000 in
set_option maxRecDepth 100000 in
theorem specMinCut_any (a : Option Addr) (ca : Nat) (xs : List I3) (f t : Int) (w : World) (hn : xs.length ≤ 1048576) (hin : MI3.RowAt w a xs) :
    Calls Try.prog 9 #[.slice a xs.length ca, .int .i64 f, .int .i64 t] w fun e w' => ∃ a1 c1, e = .returned (.tuple #[.slice a1 (FL.mcL xs f t).length c1, .int .i64 (FL.mcN xs f t), .bool (FL.ask xs f t)]) ∧ w'.ownsRow w.heap.size 3 1 (.slice a1 (FL.mcL xs f t).length c1) (FL.mcL xs f t).length (M4.iv (FL.mcL xs f t)) ∧ Below w.heap.size w w' := by
  obtain ⟨i0, hi, hz0, hz1, hz2⟩ := info_parts Try.info3
  have MC : Hid _ := FL.mcC xs f t
  have AK : Hid _ := l8Ask_any a ca xs f t w hn hin _ rfl
  have HI : Hid (MI3.RowAt w a xs) := hin
  have MX : Hid (FL.ask xs f t = true → ∀ W : World, MI3.RowAt W a xs → Calls Try.prog 30 #[.slice a xs.length ca, .int .i64 f, .int .i64 t] W fun e w' => ∃ a1 c1, e = .returned (.slice a1 xs.length c1) ∧ w'.ownsRow W.heap.size 3 1 (.slice a1 xs.length c1) xs.length (M4.iv (FL.maxF xs f t)) ∧ Below W.heap.size W w') := fun h W h1 => l8Max_any a ca xs f t W (FL.ask_is h) h1
  have SE : Hid (FL.ask xs f t = true → ∀ (W : World) (v : Option Addr) (cv : Nat), MI3.RowAt W a xs → M4.IntsAt W v (FL.maxF xs f t) → Calls Try.prog 34 #[.slice a xs.length ca, .int .i64 f, .slice v xs.length cv] W fun e w' => ∃ g1 c1, e = .returned (.slice (some ⟨g1, 0, none⟩) 8 c1) ∧ w'.ownsRow W.heap.size 3 1 (.slice (some ⟨g1, 0, none⟩) 8 c1) 8 (M4.iv (FL.srch xs (FL.maxF xs f t) f).by_) ∧ Below W.heap.size W w') := fun h W v cv h1 h2 => by
    have A := FL.ask_is h
    have o := FL.maxF_ok A
    have := l8Search_any a v ca cv xs (FL.maxF xs f t) f W A.ok A.f0 A.f7 o.1 o.2 h1 h2
    rwa [o.1] at this
  have OK : Hid (FL.ask xs f t = true → FL.okP xs = true ∧ (FL.srch xs (FL.maxF xs f t) f).by_.length = 8) := fun h => ⟨(FL.ask_is h).ok, (FL.srch_tree (FL.ask_is h).ok ⟨(FL.ask_is h).f0, (FL.ask_is h).f7⟩).len⟩
  have CL : Hid (FL.cutL xs f t = FL.sideUp (FL.srch xs (FL.maxF xs f t) f).by_ 8) := by show _ = _; unfold FL.cutL; rfl
  generalize FL.srch xs (FL.maxF xs f t) f = S at *
  generalize FL.mcL xs f t = L at *
  generalize FL.mcN xs f t = N at *
  generalize FL.maxF xs f t = F at *
  generalize FL.cutL xs f t = C at *
  generalize FL.ask xs f t = is at *
  clear hin
  go_enter Try.func9, Try.ntmps9
  go_wp2_with fail
  refine Calls.mono AK.out ?_
  rintro e w0 ⟨rfl, hb0⟩
  clear AK
  cases is with
  | false =>
    obtain ⟨h1, h2⟩ := MC.out.no rfl
    clear MC MX SE OK HI
    subst h1 h2
    go_wp2
    go_ret3
    exact ⟨none, 0, rfl, World.ownsRow_nil _ _ _ _, hb0⟩
  | true =>
    obtain ⟨h1, h2⟩ := MC.out.yes rfl
    have hC2 := CL.out
    have MX2 : Hid _ := MX.out rfl w0 (HI.out.below hb0)
    have SE2 : Hid _ := SE.out rfl
    have OK1 := OK.out rfl
    have hok : Hid (FL.okP xs = true) := OK1.1
    have h8 : Hid (S.by_.length = 8) := OK1.2
    have hx20 : xs.length ≤ 20 := ((FL.okP_iff xs).1 hok.out).1
    subst h2
    have HNC : Hid (N = FL.capUp xs L xs.length) := h1
    have HLS : Hid (L = FL.sideUp S.by_ 8) := hC2
    clear MC MX SE OK CL OK1 h1 hC2
    generalize S.by_ = B at *
    go_wp2_with fail
    refine Calls.mono MX2.out ?_
    rintro e w1 ⟨a1, c1, rfl, ho, hb1⟩
    have hB1 := hb0.trans (hb1.mono hb0.size)
    have SE3 : Hid _ := SE2.out w1 a1 c1 (HI.out.below hB1) (M5.own_ints ho)
    clear MX2 SE2 ho hb0 hb1
    go_wp2_with fail
    refine Calls.mono SE3.out ?_
    rintro e w2 ⟨g1, cg, rfl, ho, hb2⟩
    have hB2 := hB1.trans (hb2.mono hB1.size)
    have l1 := (ho.lt g1 rfl).2
    have CE : Hid (∀ (W : World) (j : Nat), Below w2.heap.size w2 W → j < 8 → W.cell? ⟨g1, j, none⟩ = some (.int .i64 (B.getD j 0))) := fun W j hb hj => by
      rw [(M5.own_below ho hb).cellAt j (by omega)]; exact M4.iv_get _ _ _ (FL.get_of _ (by rw [h8.out]; exact hj))
    clear SE3 ho hb2 hB1
    go_wp2
    go_loopw [9, 25] (fun v iv wr => ∃ m : Nat, iv = .int .i64 m ∧ m ≤ 8 ∧ (∃ s : List Int, Hid (FL.sideUp B m = s) ∧ wr.ownsRow w2.heap.size 3 1 v s.length (M4.iv s)) ∧ Below w2.heap.size w2 wr) (fun _ iv _ => (8 - intOf iv).toNat)
    case atStart => exact ⟨0, rfl, by omega, ⟨[], rfl, World.ownsRow_nil _ _ _ _⟩, Below.refl _ _⟩
    case round =>
      obtain ⟨m, rfl, hm, ⟨s, hs, hown⟩, hb⟩ := hrel
      have hsl : s.length ≤ m := by rw [← hs.out]; exact FL.side_len B m
      have hbs := hb.size
      by_cases hl : m < 8
      · have c0 := CE.out wr m hb hl
        have l1' : g1 < wr.heap.size := by omega
        have EY : Hid _ := fun h => FL.side_yes (l := B) (m := m) h
        have EN : Hid _ := fun h => FL.side_no (l := B) (m := m) h
        rw [hs.out] at EY EN
        have mm8 : (m : Int) < 8 := by omega
        have HOA : Hid _ := hown
        clear hown hs
        generalize hz : B.getD m 0 = z at *
        clear hz
        by_cases hzz : z = -1
        · have hE : Hid _ := EN.out hzz
          clear EY EN
          subst hzz
          go_wp2
          go_roundw
          case rel => exact ⟨m + 1, by go_num, by omega, ⟨s, hE, HOA.out⟩, hb⟩
          case measure => simp [intOf]; omega
        · have hE : Hid _ := EY.out hzz
          clear EY EN
          go_wp2_with (at_builtin; go_loud (refine wpList_append_own _ rfl _ _ 26 rfl w2.heap.size 3 i0 (.int .i64 0) 1 8 Try.underlying26 hi hz0 hz1 hz2 rfl (by decide) _ _ _ rfl (World.ownsRow.alloc HOA.out _) ⟨wr.heap.size, 0, none⟩ 1 1 [.int .i64 (m : Int)] rfl rfl ?c1 ?c2 ?c3 ?c4 ?c5 ?_))
          all_goals try (first | rfl | omega | exact M2.new1 _ _ _ | exact M2.one1 _ _ | (unfold maxLen; omega) | (simp; omega))
          intro v' w3 hown1 hgrow _
          have R := M5.growI HOA.out hb hbs (by exact hown1) hgrow
          have R1 := R.1
          have R2 := R.2
          clear hown1 hgrow R HOA
          go_wp2
          go_roundw
          case rel => exact ⟨m + 1, by go_num, by omega, ⟨s ++ [(m : Int)], hE, R1⟩, R2⟩
          case measure => simp [intOf]; omega
      · obtain rfl : m = 8 := by omega
        have hE : s = L := by rw [← hs.out, ← HLS.out]
        subst hE
        obtain ⟨a3, c3, hv, hiv⟩ := M5.own_view hown
        rw [hv] at hown ⊢
        have hB3 := hB2.trans (hb.mono hB2.size)
        have HO3 : Hid _ := FL.own_base hown hB2.size
        have CP : Hid _ := l8Cut_any a a3 ca c3 xs s wr hok.out (by omega) (HI.out.below hB3) hiv N (show Hid _ from HNC.out.symm)
        clear hv hown hiv CE HLS HNC hs HI hok h8
        generalize hsll : s.length = sl at *
        have HSL : Hid _ := hsll
        clear hsll
        go_wp2_with fail
        refine Calls.mono CP.out ?_
        rintro e w4 ⟨rfl, hb4⟩
        clear CP
        go_wp2
        go_ret3
        exact ⟨a3, c3, by rw [HSL.out]; rfl, by rw [HSL.out]; exact M5.own_below HO3.out hb4, hB3.trans (hb4.mono hB3.size)⟩
end Go.Proofs.Ytndaapidfiocoaa
