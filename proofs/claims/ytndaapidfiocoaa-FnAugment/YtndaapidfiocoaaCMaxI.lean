/- mostThrough, AugmentOnce, MaxFlow, MinCut of the program. -/
import Derived.Test.YtndaapidfiocoaaRows
import Derived.Test.YtndaapidfiocoaaCAugI
import Derived.Test.YtndaapidfiocoaaCOut
import Derived.Test.YtndaapidfiocoaaCAsk
import Derived.Test.YtndaapidfiocoaaMFM
import Derived.Lib.SliceRun
import Derived.WalkKit
import Derived.WalkSpells
import Derived.WalkLawsBesides
import Derived.Outline
namespace Go.Proofs.Ytndaapidfiocoaa
open Go.RowKit
namespace FL
theorem AtF.nextI {xs : List I3} {f t : Int} {fs : List Int} (h : AtF xs f t fs) (A : Ask xs f t) (hn : augN xs fs f t ≠ 0) : AtF xs f t (augL xs fs f t) ∧ outUp xs fs f xs.length < outUp xs (augL xs fs f t) f xs.length ∧ outUp xs (augL xs fs f t) f xs.length ≤ 2000 := by
  have N := h.next A hn
  rcases aug_zero (t := t) A (h.ok A).2 with ⟨_, e, _⟩ | ⟨_, _, _, e⟩
  · exact absurd e hn
  · rw [e] at N; exact ⟨N.1, N.2.2.1, N.2.2.2⟩
theorem AtF.sgn {xs : List I3} {f t : Int} {fs : List Int} (h : AtF xs f t fs) (A : Ask xs f t) : 0 ≤ augN xs fs f t ∧ (augN xs fs f t = 0 → augL xs fs f t = fs) := by
  rcases aug_zero (t := t) A (h.ok A).2 with ⟨r, e, _⟩ | ⟨_, p, _, e⟩
  · refine ⟨by omega, fun _ => ?_⟩
    unfold augL; rw [r]; rfl
  · exact ⟨by omega, fun h => by omega⟩
theorem own_rebase {w : World} {base e sz n g cap : Nat} {xs : List Value} (h : w.ownsRow 0 e sz (.slice (some ⟨g, 0, none⟩) n cap) n xs) (hb : base ≤ g) : w.ownsRow base e sz (.slice (some ⟨g, 0, none⟩) n cap) n xs := by
  refine ⟨h.1, ?_⟩
  rcases h.2 with ⟨h', _⟩ | ⟨g', c, cur, h1, h2, h3⟩
  · cases h'
  · cases h1; exact .inr ⟨g, cap, cur, rfl, hb, h3⟩
theorem own_zero {w : World} {base e sz n : Nat} {v : Value} {xs : List Value} (h : w.ownsRow base e sz v n xs) : w.ownsRow 0 e sz v n xs := own_base h (Nat.zero_le _)
end FL
set_option linter.unusedSimpArgs false in
set_option maxHeartbeats 1600000 in
set_option maxRecDepth 100000 in
theorem mostThrough_any (a : Option Addr) (ca : Nat) (xs : List I3) (f t : Int) (w : World) (hA : FL.Ask xs f t) (hin : MI3.RowAt w a xs) :
    Calls Try.prog 27 #[.slice a xs.length ca, .int .i64 f, .int .i64 t] w fun e w' => ∃ a1 c1, e = .returned (.slice a1 xs.length c1) ∧ w'.ownsRow w.heap.size 3 1 (.slice a1 xs.length c1) xs.length (M4.iv (FL.maxF xs f t)) ∧ Below w.heap.size w w' := by
  obtain ⟨i0, hi, hz0, hz1, hz2⟩ := info_parts Try.info3
  have hlen : xs.length ≤ 20 := hA.len
  have HI : Hid (MI3.RowAt w a xs) := hin
  have AU : Hid (∀ (W : World) (g cv : Nat) (fs : List Int), FL.AtF xs f t fs → MI3.RowAt W a xs → W.ownsRow 0 3 1 (.slice (some ⟨g, 0, none⟩) xs.length cv) xs.length (M4.iv fs) → Calls Try.prog 41 #[.slice a xs.length ca, .int .i64 f, .int .i64 t, .slice (some ⟨g, 0, none⟩) xs.length cv] W fun e w' => e = .returned (.int .i64 (FL.augN xs fs f t)) ∧ w'.ownsRow 0 3 1 (.slice (some ⟨g, 0, none⟩) xs.length cv) xs.length (M4.iv (FL.augL xs fs f t)) ∧ MC.Only g W w') := fun W g cv fs h h1 h2 => augment_any a (some ⟨g, 0, none⟩) ca cv xs fs f t W hA (h.ok hA).2 h1 h2
  have FI : Hid (∀ fs, FL.AtF xs f t fs → FL.augN xs fs f t = 0 → FL.maxF xs f t = fs) := fun fs h h1 => h.fin hA h1
  have SG : Hid (∀ fs, FL.AtF xs f t fs → 0 ≤ FL.augN xs fs f t ∧ (FL.augN xs fs f t = 0 → FL.augL xs fs f t = fs)) := fun fs h => h.sgn hA
  have NX : Hid (∀ fs, FL.AtF xs f t fs → FL.augN xs fs f t ≠ 0 → FL.AtF xs f t (FL.augL xs fs f t) ∧ FL.outUp xs fs f xs.length < FL.outUp xs (FL.augL xs fs f t) f xs.length ∧ FL.outUp xs (FL.augL xs fs f t) f xs.length ≤ 2000) := fun fs h h1 => h.nextI hA h1
  have ST : Hid (FL.AtF xs f t (List.replicate xs.length 0)) := FL.AtF.start xs f t
  generalize FL.maxF xs f t = FF at *
  clear hin hA
  go_enter Try.func27, Try.ntmps27
  go_wp2_with (at_make; refine wpList_make_full _ rfl _ _ 26 rfl w.heap.size 3 i0 (.int .i64 0) 1 Try.underlying26 hi hz0 hz1 .i64 .i64 _ _ xs.length rfl rfl rfl rfl ?_ ?_ ?_ ?_)
  · rw [hz2]; omega
  · unfold maxLen; omega
  · omega
  intro w1 hown hgrow
  rw [M4.made_iv] at hown
  have hb1 : Below w.heap.size w w1 := (Below.refl _ _).grown hgrow (Nat.le_refl _) (fun k hk => by cases hk)
  have HOW : Hid (w1.ownsRow 0 3 1 (.slice (some ⟨w.heap.size, 0, none⟩) xs.length xs.length) xs.length (M4.iv (List.replicate xs.length 0))) := FL.own_zero hown
  clear hgrow hi hz0 hz1 hz2 hown
  go_wp2_with fail
  go_loopw [15] (fun _ wr => ∃ fs : List Int, Hid (FL.AtF xs f t fs) ∧ wr.ownsRow 0 3 1 (.slice (some ⟨w.heap.size, 0, none⟩) xs.length xs.length) xs.length (M4.iv fs) ∧ Below w.heap.size w wr) (fun _ wr => FL.mu8 xs f wr (.slice (some ⟨w.heap.size, 0, none⟩) xs.length xs.length))
  case atStart => exact ⟨_, ST, HOW.out, hb1⟩
  case round =>
    clear HOW ST hb1
    obtain ⟨fs, hF, hown, hb⟩ := hrel
    have AU2 : Hid _ := AU.out wr w.heap.size xs.length fs hF.out (HI.out.below hb) hown
    have NX2 : Hid _ := NX.out fs hF.out
    have FI2 : Hid _ := FI.out fs hF.out
    have SG2 := SG.out fs hF.out
    have HOW : Hid (wr.ownsRow 0 3 1 (.slice (some ⟨w.heap.size, 0, none⟩) xs.length xs.length) xs.length (M4.iv fs)) := hown
    clear hown
    generalize hl : FL.augL xs fs f t = l at *
    generalize hn : FL.augN xs fs f t = n at *
    clear hl hn
    have n0 := SG2.1
    have SG3 : Hid _ := SG2.2
    clear SG2
    go_wp2_with fail
    refine Calls.mono AU2.out ?_
    rintro e w2 ⟨rfl, ho, hon⟩
    have HO1 : Hid (w2.ownsRow 0 3 1 (.slice (some ⟨w.heap.size, 0, none⟩) xs.length xs.length) xs.length (M4.iv l)) := ho
    have hb2 : Below w.heap.size w w2 := hb.trans (hon.below (Nat.le_refl _) hb.size)
    clear AU2 ho hon
    by_cases hz : n = 0
    · have hE : Hid (FF = l) := by show FF = l; rw [SG3.out hz]; exact FI2.out hz
      subst hz
      clear NX2 FI2 SG3
      go_wp2
      go_ret
      exact ⟨some ⟨w.heap.size, 0, none⟩, xs.length, rfl, by rw [hE.out]; exact FL.own_rebase HO1.out (Nat.le_refl _), hb2⟩
    · obtain ⟨hA2, hlt, hle⟩ := NX2.out hz
      have HAA : Hid (FL.AtF xs f t l) := hA2
      have HLT : Hid (FL.outUp xs fs f xs.length < FL.outUp xs l f xs.length) := hlt
      have HLE : Hid (FL.outUp xs l f xs.length ≤ 2000) := hle
      have hnp : 0 < n := by omega
      clear NX2 FI2 hA2 hlt hle SG3 n0 hz
      go_wp2
      go_roundw
      case rel => exact ⟨l, HAA, HO1.out, hb2⟩
      case measure => exact FL.mu_lt HOW.out HO1.out HLT.out HLE.out
set_option linter.unusedSimpArgs false in
set_option maxHeartbeats 1600000 in
set_option maxRecDepth 100000 in
theorem implMaxFlow_any (a : Option Addr) (ca : Nat) (xs : List I3) (f t : Int) (w : World) (hn : xs.length ≤ 1048576) (hin : MI3.RowAt w a xs) :
    Calls Try.prog 6 #[.slice a xs.length ca, .int .i64 f, .int .i64 t] w fun e w' => ∃ a1 c1, e = .returned (.tuple #[.slice a1 (FL.mxL xs f t).length c1, .int .i64 (FL.mxN xs f t), .bool (FL.ask xs f t)]) ∧ w'.ownsRow w.heap.size 3 1 (.slice a1 (FL.mxL xs f t).length c1) (FL.mxL xs f t).length (M4.iv (FL.mxL xs f t)) ∧ Below w.heap.size w w' := by
  have MC : Hid _ := FL.mxC xs f t
  have AK : Hid _ := canFlow_any a ca xs f t w hn hin _ rfl
  have HI : Hid (MI3.RowAt w a xs) := hin
  have MX : Hid (FL.ask xs f t = true → ∀ W : World, MI3.RowAt W a xs → Calls Try.prog 27 #[.slice a xs.length ca, .int .i64 f, .int .i64 t] W fun e w' => ∃ a1 c1, e = .returned (.slice a1 xs.length c1) ∧ w'.ownsRow W.heap.size 3 1 (.slice a1 xs.length c1) xs.length (M4.iv (FL.maxF xs f t)) ∧ Below W.heap.size W w') := fun h W h1 => mostThrough_any a ca xs f t W (FL.ask_is h) h1
  have OU : Hid (FL.ask xs f t = true → ∀ (W : World) (v : Option Addr) (cv : Nat), MI3.RowAt W a xs → M4.IntsAt W v (FL.maxF xs f t) → Calls Try.prog 28 #[.slice a xs.length ca, .int .i64 f, .slice v xs.length cv] W fun e w' => e = .returned (.int .i64 (FL.outUp xs (FL.maxF xs f t) f xs.length)) ∧ Below W.heap.size W w') := fun h W v cv h1 h2 => by
    have A := FL.ask_is h
    have o := FL.maxF_ok A
    have := moreOutOf_any a v ca cv xs (FL.maxF xs f t) f W A.ok o.1 o.2 h1 h2 _ rfl
    rwa [o.1] at this
  generalize FL.mxL xs f t = L at *
  generalize FL.mxN xs f t = N at *
  generalize FL.maxF xs f t = FF at *
  generalize FL.ask xs f t = is at *
  clear hin
  go_enter Try.func6, Try.ntmps6
  go_wp2_with fail
  refine Calls.mono AK.out ?_
  rintro e w0 ⟨rfl, hb0⟩
  clear AK
  cases is with
  | false =>
    obtain ⟨h1, h2⟩ := MC.out.no rfl
    clear MC MX OU HI
    subst h1 h2
    go_wp2
    go_ret3
    exact ⟨none, 0, rfl, World.ownsRow_nil _ _ _ _, hb0⟩
  | true =>
    obtain ⟨h1, h2⟩ := MC.out.yes rfl
    have MX2 : Hid _ := MX.out rfl w0 (HI.out.below hb0)
    have OU2 : Hid _ := OU.out rfl
    subst h2
    clear MC MX OU
    go_wp2_with fail
    refine Calls.mono MX2.out ?_
    rintro e w1 ⟨a1, c1, rfl, ho, hb1⟩
    have hB1 := hb0.trans (hb1.mono hb0.size)
    have hlen : L.length = xs.length := by have := ho.1; simpa [M4.iv] using this
    have HLE : Hid _ := hlen
    have HO1 : Hid (w1.ownsRow w.heap.size 3 1 (.slice a1 xs.length c1) xs.length (M4.iv L)) := FL.own_base ho hb0.size
    have OU3 : Hid _ := OU2.out w1 a1 c1 (HI.out.below hB1) (M5.own_ints ho)
    clear MX2 OU2 ho hlen HI hb0 hb1
    generalize hN : FL.outUp xs L f xs.length = N2 at *
    clear hN
    subst h1
    go_wp2_with fail
    refine Calls.mono OU3.out ?_
    rintro e w2 ⟨rfl, hb2⟩
    clear OU3
    go_wp2
    go_ret3
    exact ⟨a1, c1, by rw [HLE.out]; rfl, by rw [HLE.out]; exact M5.own_below HO1.out hb2, hB1.trans (hb2.mono hB1.size)⟩
end Go.Proofs.Ytndaapidfiocoaa
