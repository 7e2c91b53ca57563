import Derived.Test.YtndaapidfiocoaaRows
import Derived.Test.YtndaapidfiocoaaMFM
import Derived.Test.YtndaapidfiocoaaCAugS
import Derived.WalkKit
import Derived.WalkSpells
import Derived.WalkLawsBesides
import Derived.Outline
import Derived.Test.YtndaapidfiocoaaCFlow
/- The most that gets through, of the specification: l8Max. -/
namespace Go.Proofs.Ytndaapidfiocoaa
open Go.RowKit
set_option linter.unusedSimpArgs false in
set_option maxHeartbeats 1600000 in
set_option maxRecDepth 100000 in
theorem l8Max_any (a : Option Addr) (ca : Nat) (xs : List I3) (f t : Int) (w : World) (hA : FL.Ask xs f t) (hin : MI3.RowAt w a xs) :
    Calls Try.prog 30 #[.slice a xs.length ca, .int .i64 f, .int .i64 t] w fun e w' => ∃ a1 c1, e = .returned (.slice a1 xs.length c1) ∧ w'.ownsRow w.heap.size 3 1 (.slice a1 xs.length c1) xs.length (M4.iv (FL.maxF xs f t)) ∧ Below w.heap.size w w' := by
  obtain ⟨i0, hi, hz0, hz1, hz2⟩ := info_parts Try.info3
  have hlen : xs.length ≤ 20 := hA.len
  have HI : Hid (MI3.RowAt w a xs) := hin
  have HA : Hid (FL.Ask xs f t) := hA
  have AU : Hid (∀ (W : World) (v : Option Addr) (cv : Nat) (fs : List Int), FL.AtF xs f t fs → MI3.RowAt W a xs → M4.IntsAt W v fs → Calls Try.prog 44 #[.slice a xs.length ca, .int .i64 f, .int .i64 t, .slice v xs.length cv] W fun e w' => ∃ a1 c1, e = .returned (.tuple #[.slice a1 (FL.ansL xs fs f t).length c1, .int .i64 (FL.augN xs fs f t)]) ∧ w'.ownsRow W.heap.size 3 1 (.slice a1 (FL.ansL xs fs f t).length c1) (FL.ansL xs fs f t).length (M4.iv (FL.ansL xs fs f t)) ∧ Below W.heap.size W w') := fun W v cv fs h h1 h2 => by
    have o := h.ok hA
    have := l8Augment_any a v ca cv xs fs f t W hA o.1 o.2 h1 h2
    rwa [o.1] at this
  have FI : Hid (∀ fs, FL.AtF xs f t fs → FL.augN xs fs f t = 0 → FL.maxF xs f t = fs) := fun fs h h1 => h.fin hA h1
  have NX : Hid (∀ fs, FL.AtF xs f t fs → FL.augN xs fs f t ≠ 0 → FL.AtF xs f t (FL.ansL xs fs f t) ∧ (FL.ansL xs fs f t).length = xs.length ∧ FL.outUp xs fs f xs.length < FL.outUp xs (FL.ansL xs fs f t) f xs.length ∧ FL.outUp xs (FL.ansL xs fs f t) f xs.length ≤ 2000) := fun fs h h1 => h.next hA h1
  have ST : Hid (FL.AtF xs f t (List.replicate xs.length 0)) := FL.AtF.start xs f t
  generalize FL.maxF xs f t = F at *
  clear hin hA
  go_enter Try.func30, Try.ntmps30
  go_wp2_with (at_make; refine wpList_make_full _ rfl _ _ 26 rfl w.heap.size 3 i0 (.int .i64 0) 1 Try.underlying26 hi hz0 hz1 .i64 .i64 _ _ xs.length rfl rfl rfl rfl ?_ ?_ ?_ ?_)
  · rw [hz2]; omega
  · unfold maxLen; omega
  · omega
  intro w1 hown hgrow
  rw [M4.made_iv] at hown
  have hb1 : Below w.heap.size w w1 := (Below.refl _ _).grown hgrow (Nat.le_refl _) (fun k hk => by cases hk)
  have HOW : Hid (w1.ownsRow w.heap.size 3 1 (.slice (some ⟨w.heap.size, 0, none⟩) xs.length xs.length) xs.length (M4.iv (List.replicate xs.length 0))) := hown
  clear hgrow hi hz0 hz1 hz2 hown
  go_wp2_with fail
  go_loopw [7] (fun v wr => ∃ fs : List Int, Hid (FL.AtF xs f t fs) ∧ wr.ownsRow w.heap.size 3 1 v xs.length (M4.iv fs) ∧ Below w.heap.size w wr) (fun v wr => FL.mu8 xs f wr v)
  case atStart => exact ⟨_, ST, HOW.out, hb1⟩
  case round =>
    clear HOW ST hb1
    obtain ⟨fs, hF, hown, hb⟩ := hrel
    have hfl : fs.length = xs.length := by have := hown.1; simpa [M4.iv] using this
    obtain ⟨av, cv, hv, hiv⟩ : ∃ av cv, u7 = .slice av xs.length cv ∧ M4.IntsAt wr av fs := by
      have h2 := hown; rw [← hfl] at h2
      obtain ⟨x, y, h3, h4⟩ := M5.own_view h2
      exact ⟨x, y, by rw [h3, hfl], h4⟩
    subst hv
    have AU2 : Hid _ := AU.out wr av cv fs hF.out (HI.out.below hb) hiv
    have NX2 : Hid _ := NX.out fs hF.out
    have FI2 : Hid _ := FI.out fs hF.out
    have HOW : Hid (wr.ownsRow w.heap.size 3 1 (.slice av xs.length cv) xs.length (M4.iv fs)) := hown
    clear hfl hiv hown
    generalize hl : FL.ansL xs fs f t = l at *
    generalize hn : FL.augN xs fs f t = n at *
    clear hl hn
    generalize hll : l.length = ll at *
    clear hll
    go_wp2_with fail
    refine Calls.mono AU2.out ?_
    rintro e w2 ⟨a1, c1, rfl, ho, hb2⟩
    have HO1 : Hid _ := ho
    clear AU2 ho
    by_cases hz : n = 0
    · have hE : Hid (F = fs) := FI2.out hz
      subst hz
      clear NX2 FI2 HO1
      go_wp2
      go_ret
      exact ⟨av, cv, rfl, by rw [hE.out]; exact M5.own_below HOW.out hb2, hb.trans (hb2.mono hb.size)⟩
    · obtain ⟨hA2, hl2, hlt, hle⟩ := NX2.out hz
      subst hl2
      have HO2 : Hid (w2.ownsRow w.heap.size 3 1 (.slice a1 xs.length c1) xs.length (M4.iv l)) := FL.own_base HO1.out hb.size
      have HAA : Hid (FL.AtF xs f t l) := hA2
      have HLT : Hid (FL.outUp xs fs f xs.length < FL.outUp xs l f xs.length) := hlt
      have HLE : Hid (FL.outUp xs l f xs.length ≤ 2000) := hle
      clear NX2 FI2 HO1 hA2 hlt hle
      go_wp2
      go_roundw
      case rel => exact ⟨l, HAA, HO2.out, hb.trans (hb2.mono hb.size)⟩
      case measure => exact FL.mu_lt HOW.out HO2.out HLT.out HLE.out
end Go.Proofs.Ytndaapidfiocoaa

/- AugmentOnce of the specification. -/
namespace Go.Proofs.Ytndaapidfiocoaa
open Go.RowKit
set_option linter.unusedSimpArgs false in
set_option maxHeartbeats 1600000 in
set_option maxRecDepth 100000 in
theorem specAugment_any (a b : Option Addr) (ca cb : Nat) (xs : List I3) (fs : List Int) (f t : Int) (w : World) (hn : xs.length ≤ 1048576) (hm : fs.length ≤ 1048576) (hin : MI3.RowAt w a xs) (hos : M4.IntsAt w b fs) :
    Calls Try.prog 19 #[.slice a xs.length ca, .int .i64 f, .int .i64 t, .slice b fs.length cb] w fun e w' => ∃ a1 c1, e = .returned (.tuple #[.slice a1 (FL.agL xs f t fs).length c1, .int .i64 (FL.agN xs f t fs), .bool (FL.agB xs f t fs)]) ∧ w'.ownsRow w.heap.size 3 1 (.slice a1 (FL.agL xs f t fs).length c1) (FL.agL xs f t fs).length (M4.iv (FL.agL xs f t fs)) ∧ Below w.heap.size w w' := by
  have AC : Hid _ := FL.agC xs f t fs
  have IS : Hid _ := specIsFlow_any a b ca cb xs fs f t w hn hm hin hos
  have HI : Hid (MI3.RowAt w a xs) := hin
  have HO : Hid (M4.IntsAt w b fs) := hos
  have AU : Hid (∀ W : World, FL.isR xs f t fs = true → MI3.RowAt W a xs → M4.IntsAt W b fs → Calls Try.prog 44 #[.slice a xs.length ca, .int .i64 f, .int .i64 t, .slice b fs.length cb] W fun e w' => ∃ a1 c1, e = .returned (.tuple #[.slice a1 (FL.ansL xs fs f t).length c1, .int .i64 (FL.augN xs fs f t)]) ∧ w'.ownsRow W.heap.size 3 1 (.slice a1 (FL.ansL xs fs f t).length c1) (FL.ansL xs fs f t).length (M4.iv (FL.ansL xs fs f t)) ∧ Below W.heap.size W w') := fun W h h1 h2 => l8Augment_any a b ca cb xs fs f t W (FL.isR_ask h).1 (FL.isR_ask h).2.1 (FL.isR_ask h).2.2 h1 h2
  have OK : Hid (FL.isR xs f t fs = true → FL.askF xs f t fs = true) := fun h => FL.isR_ok h
  generalize FL.agL xs f t fs = L at *
  generalize FL.agN xs f t fs = N at *
  generalize FL.agB xs f t fs = B at *
  generalize FL.augN xs fs f t = n at *
  generalize FL.ansL xs fs f t = l at *
  generalize FL.isR xs f t fs = is at *
  generalize FL.askF xs f t fs = ok at *
  clear hin hos
  go_enter Try.func19, Try.ntmps19
  go_wp2_with fail
  refine Calls.mono IS.out ?_
  rintro e w0 ⟨rfl, hb0⟩
  clear IS
  cases is with
  | false =>
    obtain ⟨h1, h2, h3⟩ := AC.out.no rfl
    clear AC AU OK HI HO
    subst h1 h2 h3
    go_wp2
    go_ret3
    exact ⟨none, 0, rfl, World.ownsRow_nil _ _ _ _, hb0⟩
  | true =>
    obtain ⟨h1, h2, h3⟩ := AC.out.yes rfl
    have AU2 : Hid _ := AU.out w0 rfl (HI.out.below hb0) (M4.IntsAt.below HO.out hb0)
    obtain rfl : ok = true := OK.out rfl
    clear AC AU OK HI HO
    subst h1 h2 h3
    generalize hll : L.length = ll at *
    have HLL : Hid (L.length = ll) := hll
    clear hll
    go_wp2_with fail
    refine Calls.mono AU2.out ?_
    rintro e w1 ⟨a1, c1, rfl, ho, hb1⟩
    have HO1 : Hid _ := ho
    clear AU2 ho
    go_wp2
    go_ret3
    exact ⟨a1, c1, by rw [HLL.out]; rfl, by rw [HLL.out]; exact FL.own_base HO1.out hb0.size, hb0.trans (hb1.mono hb0.size)⟩
end Go.Proofs.Ytndaapidfiocoaa
