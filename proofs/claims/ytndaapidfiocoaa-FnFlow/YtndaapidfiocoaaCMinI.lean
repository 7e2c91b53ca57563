import Derived.Test.YtndaapidfiocoaaRows
import Derived.Test.YtndaapidfiocoaaCRowsF
import Derived.Test.YtndaapidfiocoaaMFM
import Derived.Test.YtndaapidfiocoaaM5
import Derived.Test.YtndaapidfiocoaaMInfo
import Derived.WalkKit
import Derived.WalkSpells
import Derived.WalkLawsBesides
import Derived.Outline
import Derived.Test.YtndaapidfiocoaaCMaxI
import Derived.Test.YtndaapidfiocoaaCOutOf
/- reachedFrom of the program. -/
namespace Go.Proofs.Ytndaapidfiocoaa
open Go.RowKit
set_option maxRecDepth 100000 in
theorem neNil8 (W : World) : (binOp .neq 69 .nilFunc .nilFunc).run Try.prog W = .ok (.bool false) W := by kernel_rfl
set_option maxRecDepth 100000 in
theorem neFun8 (W : World) (F : Nat) (cs : Array Value) : (binOp .neq 69 (.func (.func F) #[] cs) .nilFunc).run Try.prog W = .ok (.bool true) W := by kernel_rfl
set_option linter.unusedSimpArgs false in
set_option maxHeartbeats 1600000 in
set_option maxRecDepth 100000 in
theorem reachedFrom_any (a v : Option Addr) (ca cv : Nat) (xs : List I3) (fs : List Int) (f : Int) (w : World) (hok : FL.okP xs = true) (hf0 : 0 ≤ f) (hf7 : f ≤ 7) (hl : fs.length = xs.length) (hfit : FL.fitUp xs fs xs.length) (hin : MI3.RowAt w a xs) (hos : M4.IntsAt w v fs) (L : List Int) (hL : Hid (FL.sideUp (FL.srch xs fs f).by_ 8 = L)) :
    Calls Try.prog 32 #[.slice a xs.length ca, .int .i64 f, .slice v xs.length cv] w fun e w' => ∃ a1 c1, e = .returned (.slice a1 L.length c1) ∧ w'.ownsRow w.heap.size 3 1 (.slice a1 L.length c1) L.length (M4.iv L) ∧ Below w.heap.size w w' := by
  obtain ⟨i0, hi, hz0, hz1, hz2⟩ := info_parts Try.info3
  have own0 : (w.alloc (.cells #[] 3)).ownsRow w.heap.size 3 1 (.slice (some ⟨w.heap.size, 0, none⟩) 0 0) ([] : List Int).length (M4.iv []) := by
    have := World.ownsRow_lit (base := w.heap.size) (e := 3) (size := 1) w #[] 0 (by simp) (by unfold maxLen; omega) (by simp)
    simpa [M4.iv] using this
  have OWN0 : Hid ((w.alloc (.cells #[] 3)).ownsRow w.heap.size 3 1 (.slice (some ⟨w.heap.size, 0, none⟩) 0 0) 0 (M4.iv [])) := own0
  have hb0a : Below w.heap.size w (w.alloc (.cells #[] 3)) := (Below.refl _ w).alloc (Nat.le_refl _) _
  have SE : Hid (Calls Try.prog 52 #[.slice a xs.length ca, .int .i64 f, .slice v xs.length cv] (w.alloc (.cells #[] 3)) fun e w' => ∃ vf, e = .returned (.agg (FL.vl vf).toArray) ∧ FL.FnOk (w.alloc (.cells #[] 3)).heap.size w' (FL.srch xs fs f) vf ∧ Below (w.alloc (.cells #[] 3)).heap.size (w.alloc (.cells #[] 3)) w') := by
    have := rowsFrom_any a v ca cv xs fs f (w.alloc (.cells #[] 3)) hok hf0 hf7 hl hfit (hin.below hb0a) (M4.IntsAt.below hos hb0a)
    rwa [hl] at this
  have h8 : Hid ((FL.srch xs fs f).by_.length = 8) := (FL.srch_tree hok ⟨hf0, hf7⟩).len
  generalize FL.srch xs fs f = S at *
  clear hin hos own0 hok hfit hl
  go_enter Try.func32, Try.ntmps32
  go_wp2_with fail
  refine Calls.mono SE.out ?_
  rintro e w2 ⟨vf, rfl, hFn, hb2⟩
  have hb02 := hb0a.trans (hb2.mono hb0a.size)
  replace OWN0 : Hid (w2.ownsRow w.heap.size 3 1 (.slice (some ⟨w.heap.size, 0, none⟩) 0 0) 0 (M4.iv [])) := M5.own_below OWN0.out hb2
  have CE : Hid (∀ j, j < 8 → (S.by_.getD j 0 = -1 ∧ vf j = .nilFunc) ∨ (S.by_.getD j 0 ≠ -1 ∧ ∃ F cs, vf j = .func (.func F) #[] cs)) := fun j hj => by
    rcases hFn.is j hj with h | ⟨h, F, cs, h2, _⟩
    · exact .inl h
    · exact .inr ⟨h, F, cs, h2⟩
  clear SE hb2 hFn hb0a
  generalize S.by_ = B at *
  have EQN := neNil8
  have EQF := neFun8
  go_wp2
  go_loopw [7, 15] (fun v iv wr => ∃ m : Nat, iv = .int .i64 m ∧ m ≤ 8 ∧ (∃ s : List Int, Hid (FL.sideUp B m = s) ∧ wr.ownsRow w.heap.size 3 1 v s.length (M4.iv s)) ∧ Below w.heap.size w wr) (fun _ iv _ => (8 - intOf iv).toNat)
  case atStart => exact ⟨0, rfl, by omega, ⟨[], rfl, OWN0.out⟩, hb02⟩
  case round =>
    clear OWN0 hb02
    obtain ⟨m, rfl, hm, ⟨s, hs, hown⟩, hb⟩ := hrel
    have hsl : s.length ≤ m := by rw [← hs.out]; exact FL.side_len B m
    have hbs := hb.size
    by_cases hl : m < 8
    · have EY : Hid _ := fun h => FL.side_yes (l := B) (m := m) h
      have EN : Hid _ := fun h => FL.side_no (l := B) (m := m) h
      rw [hs.out] at EY EN
      have mm8 : (m : Int) < 8 := by omega
      have HOA : Hid _ := hown
      have IX : ∀ W : World, (Instr.index 70 (.agg (FL.vl vf).toArray) (.int .i64 (m : Int))).run Try.prog W = .ok (vf m) W := fun W => MA.run_index Try.underlying70 (by go_simp) (by go_simp) hl (FL.vl_get _ hl)
      clear hown hs hL
      rcases CE.out m hl with ⟨hzz, hvf⟩ | ⟨hzz, F', cs', hvf⟩
      · have hE : Hid _ := EN.out hzz
        rw [hvf] at IX
        clear EY EN hvf hzz
        go_wp2
        go_roundw
        case rel => exact ⟨m + 1, by go_num, by omega, ⟨s, hE, HOA.out⟩, hb⟩
        case measure => simp [intOf]; omega
      · have hE : Hid _ := EY.out hzz
        rw [hvf] at IX
        clear EY EN hvf hzz
        go_wp2_with (at_builtin; go_loud (refine wpList_append_own _ rfl _ _ 26 rfl w.heap.size 3 i0 (.int .i64 0) 1 8 Try.underlying26 hi hz0 hz1 hz2 rfl (by decide) _ _ _ rfl (World.ownsRow.alloc HOA.out _) ⟨wr.heap.size, 0, none⟩ 1 1 [.int .i64 (m : Int)] rfl rfl ?c1 ?c2 ?c3 ?c4 ?c5 ?_))
        all_goals try (first | rfl | omega | exact M2.new1 _ _ _ | exact M2.one1 _ _ | (unfold maxLen; omega) | (simp; omega))
        intro v' w3 hown1 hgrow _
        have R := M5.growI HOA.out hb hbs (by exact hown1) hgrow
        have R1 := R.1
        have R2 := R.2
        clear hown1 hgrow R HOA
        go_wp2
        go_roundw
        case rel => exact ⟨m + 1, by go_num, by omega, ⟨s ++ [(m : Int)], hE, R1⟩, R2⟩
        case measure => simp [intOf]; omega
    · obtain rfl : m = 8 := by omega
      have hE : s = L := by rw [← hs.out, ← hL.out]
      subst hE
      obtain ⟨a3, c3, hv, hiv⟩ := M5.own_view hown
      rw [hv] at hown ⊢
      have HO3 : Hid _ := hown
      clear hv hown hiv CE hs h8 EQN EQF hL
      generalize hsll : s.length = sl at *
      have HSL : Hid _ := hsll
      clear hsll
      go_wp2
      go_ret
      exact ⟨a3, c3, by rw [HSL.out]; rfl, by rw [HSL.out]; exact HO3.out, hb⟩
end Go.Proofs.Ytndaapidfiocoaa

/- MinCut of the program. -/
namespace Go.Proofs.Ytndaapidfiocoaa
open Go.RowKit
set_option linter.unusedSimpArgs false in
set_option maxHeartbeats 1600000 in
set_option maxRecDepth 100000 in
theorem implMinCut_any (a : Option Addr) (ca : Nat) (xs : List I3) (f t : Int) (w : World) (hn : xs.length ≤ 1048576) (hin : MI3.RowAt w a xs) :
    Calls Try.prog 8 #[.slice a xs.length ca, .int .i64 f, .int .i64 t] w fun e w' => ∃ a1 c1, e = .returned (.tuple #[.slice a1 (FL.mcL xs f t).length c1, .int .i64 (FL.mcN xs f t), .bool (FL.ask xs f t)]) ∧ w'.ownsRow w.heap.size 3 1 (.slice a1 (FL.mcL xs f t).length c1) (FL.mcL xs f t).length (M4.iv (FL.mcL xs f t)) ∧ Below w.heap.size w w' := by
  have MC : Hid _ := FL.mcC xs f t
  have AK : Hid _ := canFlow_any a ca xs f t w hn hin _ rfl
  have HI : Hid (MI3.RowAt w a xs) := hin
  have MX : Hid (FL.ask xs f t = true → ∀ W : World, MI3.RowAt W a xs → Calls Try.prog 27 #[.slice a xs.length ca, .int .i64 f, .int .i64 t] W fun e w' => ∃ a1 c1, e = .returned (.slice a1 xs.length c1) ∧ w'.ownsRow W.heap.size 3 1 (.slice a1 xs.length c1) xs.length (M4.iv (FL.maxF xs f t)) ∧ Below W.heap.size W w') := fun h W h1 => mostThrough_any a ca xs f t W (FL.ask_is h) h1
  have RE : Hid (FL.ask xs f t = true → ∀ (W : World) (v : Option Addr) (cv : Nat), MI3.RowAt W a xs → M4.IntsAt W v (FL.maxF xs f t) → Calls Try.prog 32 #[.slice a xs.length ca, .int .i64 f, .slice v xs.length cv] W fun e w' => ∃ a1 c1, e = .returned (.slice a1 (FL.cutL xs f t).length c1) ∧ w'.ownsRow W.heap.size 3 1 (.slice a1 (FL.cutL xs f t).length c1) (FL.cutL xs f t).length (M4.iv (FL.cutL xs f t)) ∧ Below W.heap.size W w') := fun h W v cv h1 h2 => by
    have A := FL.ask_is h
    have o := FL.maxF_ok A
    exact reachedFrom_any a v ca cv xs (FL.maxF xs f t) f W A.ok A.f0 A.f7 o.1 o.2 h1 h2 _ rfl
  have OK : Hid (FL.ask xs f t = true → FL.okP xs = true) := fun h => (FL.ask_is h).ok
  have CL : Hid ((FL.cutL xs f t).length ≤ 8) := by show _ ≤ 8; unfold FL.cutL; exact FL.side_len _ _
  generalize FL.mcL xs f t = L at *
  generalize FL.mcN xs f t = N at *
  generalize FL.maxF xs f t = F at *
  generalize FL.cutL xs f t = C at *
  generalize FL.ask xs f t = is at *
  clear hin
  go_enter Try.func8, Try.ntmps8
  go_wp2_with fail
  refine Calls.mono AK.out ?_
  rintro e w0 ⟨rfl, hb0⟩
  clear AK
  cases is with
  | false =>
    obtain ⟨h1, h2⟩ := MC.out.no rfl
    clear MC MX RE OK HI
    subst h1 h2
    go_wp2
    go_ret3
    exact ⟨none, 0, rfl, World.ownsRow_nil _ _ _ _, hb0⟩
  | true =>
    obtain ⟨h1, h2⟩ := MC.out.yes rfl
    have MX2 : Hid _ := MX.out rfl
    have RE2 : Hid _ := RE.out rfl
    have hok : Hid (FL.okP xs = true) := OK.out rfl
    subst h2
    have HNC : Hid (N = FL.capUp xs L xs.length) := h1
    clear MC MX RE OK h1
    have MX3 : Hid _ := MX2.out w0 (HI.out.below hb0)
    clear MX2
    go_wp2_with fail
    refine Calls.mono MX3.out ?_
    rintro e w1 ⟨a1, c1, rfl, ho, hb1⟩
    have hB1 := hb0.trans (hb1.mono hb0.size)
    have RE3 : Hid _ := RE2.out w1 a1 c1 (HI.out.below hB1) (M5.own_ints ho)
    clear MX3 RE2 ho hb1 hb0
    go_wp2_with fail
    refine Calls.mono RE3.out ?_
    rintro e w2 ⟨a3, c3, rfl, ho, hb2⟩
    have hB2 := hB1.trans (hb2.mono hB1.size)
    have HO3 : Hid _ := FL.own_base ho hB1.size
    have h8 := CL.out
    have CP : Hid _ := capsOutOf_any a a3 ca c3 xs L w2 hok.out (by omega) (HI.out.below hB2) (M5.own_ints ho) N (show Hid _ from HNC.out.symm)
    clear RE3 ho hb2 hB1 CL HNC HI hok h8
    generalize hsll : L.length = sl at *
    have HSL : Hid _ := hsll
    clear hsll
    go_wp2_with fail
    refine Calls.mono CP.out ?_
    rintro e w4 ⟨rfl, hb4⟩
    clear CP
    go_wp2
    go_ret3
    exact ⟨a3, c3, by rw [HSL.out]; rfl, by rw [HSL.out]; exact M5.own_below HO3.out hb4, hB2.trans (hb4.mono hB2.size)⟩
end Go.Proofs.Ytndaapidfiocoaa
