/- Potentials, gains: l11Potentials, HasGain, l11Fine of the specification. -/
import Derived.Test.YtclhfhjkcocdcaaRows
import Derived.Test.YtclhfhjkcocdcaaCRdS1
import Derived.Test.YtclhfhjkcocdcaaCRoadsS
import Derived.WalkKit
import Derived.WalkSpells
import Derived.WalkLawsBesides
import Derived.Outline
namespace Go.Proofs.Ytclhfhjkcocdcaa
open Go.RowKit
set_option linter.unusedSimpArgs false in
set_option maxHeartbeats 1600000 in
set_option maxRecDepth 100000 in
theorem potsS_any (a : Option Addr) (cap : Nat) (xs : List I3) (w : World) (hn : xs.length ≤ 20) (hg : RD.Gd xs) (hin : MI3.RowAt w a xs) (F : RD.Cs) (B : Bool) (hF : Hid (RD.relax xs 9 RD.zero = (F, B))) :
    Calls Try.prog 30 #[.slice a xs.length cap] w fun e w' => ∃ a1 c1, e = .returned (.tuple #[.slice a1 8 c1, .bool B]) ∧ w'.ownsRow w.heap.size 3 1 (.slice a1 8 c1) 8 (M4.iv (RD.li F)) ∧ Below w.heap.size w w' := by
  obtain ⟨i0, hi, hz0, hz1, hz2⟩ := info_parts Try.info3
  have RX : Hid _ := fun (W : World) (b : Option Addr) (cb : Nat) (hr : MI3.RowAt W a xs) (hb : M4.IntsAt W b (RD.li RD.zero)) => relax_any RD.zero a b cap cb xs W hn hg RD.zero_bd hr hb F B hF
  have HI : Hid _ := hin
  clear hin hg hF
  go_enter Try.func30, Try.ntmps30
  go_wp2_with (at_make; refine wpList_make_full _ rfl _ _ 32 rfl w.heap.size 3 i0 (.int .i64 0) 1 Try.underlying32 hi hz0 hz1 .i64 .i64 _ _ 8 rfl rfl rfl rfl ?_ ?_ ?_ ?_)
  · rw [hz2]; omega
  · unfold maxLen; omega
  · omega
  intro w1 hown hgrow
  have hb1 : Below w.heap.size w w1 := (Below.refl _ _).grown hgrow (Nat.le_refl _) (fun k hk => by cases hk)
  have HO1 : Hid (M4.IntsAt w1 (some ⟨w.heap.size, 0, none⟩) (RD.li RD.zero)) := by
    have e : (madeCells #[Value.int IntKind.i64 0] 8).toList = M4.iv (RD.li RD.zero) := by kernel_rfl
    rw [e] at hown
    exact M5.own_ints hown
  clear hown hgrow hi hz0 hz1 hz2
  go_wp2_with fail
  refine (RX.out _ _ _ (HI.out.below hb1) HO1.out).mono ?_
  rintro e w2 ⟨a1, c1, rfl, ho2, hb2⟩
  have HO2 : Hid _ := ho2
  have HB2 : Hid _ := hb1.trans (hb2.mono hb1.size)
  have HS : Hid _ := hb1.size
  clear ho2 hb2 hb1 RX HI HO1
  go_wp2
  go_ret2
  exact ⟨a1, c1, rfl, RD.own_base HO2.out HS.out, HB2.out⟩
set_option linter.unusedSimpArgs false in
set_option maxHeartbeats 1600000 in
set_option maxRecDepth 100000 in
theorem hasGainS_any (a : Option Addr) (cap : Nat) (xs : List I3) (w : World) (hn : xs.length ≤ 1048576) (hin : MI3.RowAt w a xs) (R : Bool) (hR : Hid (RD.okP xs = R)) (C : Bool) (hC : Hid (R = true → RD.calm xs = C)) :
    Calls Try.prog 9 #[.slice a xs.length cap] w fun e w' => e = .returned (.tuple #[.bool (R && !C), .bool R]) ∧ Below w.heap.size w w' := by
  have GR : Hid _ := specGoodRoads_any a cap xs w hn hin R hR
  cases R with
  | false =>
    clear hR hC hin
    go_enter Try.func9, Try.ntmps9
    go_wp2_with fail
    refine Calls.mono GR.out ?_
    rintro e w2 ⟨rfl, hb2⟩
    clear GR
    go_wp2
    go_ret2
    exact ⟨rfl, hb2⟩
  | true =>
    have HC : Hid (RD.relax xs 9 RD.zero = ((RD.relax xs 9 RD.zero).1, !C)) := by
      have h1 := hC.out rfl
      have h2 := RD.gains hR.out
      show _ = _
      rw [← h1, ← h2]
    have PO : Hid _ := fun (W : World) (hr : MI3.RowAt W a xs) => potsS_any a cap xs W (RD.okP_len hR.out) (RD.okP_Gd hR.out) hr _ (!C) HC
    generalize (RD.relax xs 9 RD.zero).1 = F at *
    have HI : Hid _ := hin
    clear hR hC hin HC
    go_enter Try.func9, Try.ntmps9
    go_wp2_with fail
    refine Calls.mono GR.out ?_
    rintro e w2 ⟨rfl, hb2⟩
    clear GR
    go_wp2_with fail
    refine (PO.out _ (HI.out.below hb2)).mono ?_
    rintro e w3 ⟨a1, c1, rfl, -, hb3⟩
    have HB3 : Hid _ := hb2.trans (hb3.mono hb2.size)
    clear hb2 hb3 PO HI
    go_wp2
    go_ret2
    exact ⟨rfl, HB3.out⟩
set_option linter.unusedSimpArgs false in
set_option maxHeartbeats 1600000 in
set_option maxRecDepth 100000 in
theorem fineS_any (a : Option Addr) (cap : Nat) (xs : List I3) (w : World) (hn : xs.length ≤ 1048576) (hin : MI3.RowAt w a xs) (R : Bool) (hR : Hid (RD.fine xs = R)) :
    Calls Try.prog 26 #[.slice a xs.length cap] w fun e w' => e = .returned (.bool R) ∧ Below w.heap.size w w' := by
  have HG : Hid _ := hasGainS_any a cap xs w hn hin _ rfl _ (fun _ => rfl)
  have hA : Hid (R = (RD.okP xs && RD.calm xs)) := hR.out.symm
  clear hin hR
  generalize RD.okP xs = p at *
  generalize RD.calm xs = q at *
  go_enter Try.func26, Try.ntmps26
  go_wp2_with fail
  refine Calls.mono HG.out ?_
  rintro e w2 ⟨rfl, hb2⟩
  clear HG
  cases p <;> cases q
  all_goals go_wp2
  all_goals go_ret
  all_goals exact ⟨retB7 hA.out.symm, hb2⟩
end Go.Proofs.Ytclhfhjkcocdcaa
